/-
  LockPlays between two calls: both tables, the tickets left so far, the call in its block.
-/
import Derived.Test.YtehgjfokpcnneaaUn1
namespace Go.Proofs.Ytehgjfokpcnneaa
open Go.RowKit
set_option maxRecDepth 100000

abbrev T1 : TypeId := 56
abbrev R1 : TypeId := 60
abbrev T2 : TypeId := 66
abbrev R2 : TypeId := 68
abbrev TC : TypeId := 52
abbrev TI : TypeId := 3
structure PI (w0 w : World) (p q : Value) (d hb d' hb' g : Nat) (LF : Nat → Int) (C : Option (Nat × Array Value)) (o1 o2 : OS) : Prop where
  tp : TN T1 R1 w w0.heap.size d hb p o1
  tq : TN T2 R2 w w0.heap.size d' hb' q o2
  lg : w0.heap.size ≤ g
  lf : ∃ row : Array Value, w.heap[g]? = some (.cells row TI (0, 0)) ∧ ∀ j, j < 64 → row[j]? = some (.int .i64 (LF j))
  cb : ∀ c cc, C = some (c, cc) → w0.heap.size ≤ c ∧ w.heap[c]? = some (.cells cc TC (0, 0))
  below : Below w0.heap.size w0 w
theorem not_own {tt rt ty : TypeId} {w : World} {base d hb k : Nat} {p : Value} {o : OS} {X : Array Value} {fr : Nat × Nat} (h : TN tt rt w base d hb p o) (hk : w.heap[k]? = some (.cells X ty fr)) (ne : ty ≠ rt) : ¬ own hb o k := by
  rintro ⟨hs, rfl⟩
  cases o with
  | none => simp at hs
  | some S =>
    have := h.2.row
    rw [hk] at this
    simp at this
    exact ne this.2.1
theorem TN.kw {P : Nat → Prop} {tt rt : TypeId} {w w' : World} {base d hb : Nat} {p : Value} {o : OS} (h : TN tt rt w base d hb p o) (k : Kw P w w') (hp : ∀ S, o = some S → ¬ P d ∧ ¬ P hb) : TN tt rt w' base d hb p o := by
  cases o with
  | none => exact h
  | some S => exact ⟨h.1, h.2.kw k (hp S rfl).1 (hp S rfl).2⟩
theorem own_ge {tt rt : TypeId} {w : World} {base d hb : Nat} {p : Value} {o : OS} (h : TN tt rt w base d hb p o) : ∀ k, own hb o k → base ≤ k := by
  rintro k ⟨hs, rfl⟩
  cases o with
  | none => simp at hs
  | some S => exact h.2.gh
/-- what turns blocks P alone leaves the rest -/
theorem PI.rest {P : Nat → Prop} {w0 w w' : World} {p q : Value} {d hb d' hb' g : Nat} {LF : Nat → Int} {C : Option (Nat × Array Value)} {o1 o2 : OS} (h : PI w0 w p q d hb d' hb' g LF C o1 o2) (k : Kw P w w') (hg : ¬ P g) (hc : ∀ c cc, C = some (c, cc) → ¬ P c) (hP : ∀ k, P k → w0.heap.size ≤ k) :
    (∃ row : Array Value, w'.heap[g]? = some (.cells row TI (0, 0)) ∧ ∀ j, j < 64 → row[j]? = some (.int .i64 (LF j))) ∧ (∀ c cc, C = some (c, cc) → w0.heap.size ≤ c ∧ w'.heap[c]? = some (.cells cc TC (0, 0))) ∧ Below w0.heap.size w0 w' := by
  obtain ⟨row, hr, hj⟩ := h.lf
  refine ⟨⟨row, (k.block g (Array.getElem?_eq_some_iff.1 hr).1 hg).trans hr, hj⟩, fun c cc e => ?_, Kw.since h.below h.below.size k hP⟩
  obtain ⟨h1, h2⟩ := h.cb c cc e
  exact ⟨h1, (k.block c (Array.getElem?_eq_some_iff.1 h2).1 (hc c cc e)).trans h2⟩
theorem PI.prog {w0 w w' : World} {p q : Value} {d hb d' hb' g : Nat} {LF : Nat → Int} {C : Option (Nat × Array Value)} {o1 o2 o' : OS} (h : PI w0 w p q d hb d' hb' g LF C o1 o2) (hT : TN T1 R1 w' w0.heap.size d hb p o') (k : Kw (own hb o1) w w') : PI w0 w' p q d hb d' hb' g LF C o' o2 := by
  obtain ⟨row, hr, hj⟩ := h.lf
  obtain ⟨r1, r2, r3⟩ := h.rest k (not_own h.tp hr (by decide)) (fun c cc e => not_own h.tp (h.cb c cc e).2 (by decide)) (own_ge h.tp)
  refine ⟨hT, h.tq.kw k (fun S e => ?_), h.lg, r1, r2, r3⟩
  subst e
  exact ⟨not_own h.tp h.tq.2.top (by decide), not_own h.tp h.tq.2.row (by decide)⟩
theorem PI.ref {w0 w w' : World} {p q : Value} {d hb d' hb' g : Nat} {LF : Nat → Int} {C : Option (Nat × Array Value)} {o1 o2 o' : OS} (h : PI w0 w p q d hb d' hb' g LF C o1 o2) (hT : TN T2 R2 w' w0.heap.size d' hb' q o') (k : Kw (own hb' o2) w w') : PI w0 w' p q d hb d' hb' g LF C o1 o' := by
  obtain ⟨row, hr, hj⟩ := h.lf
  obtain ⟨r1, r2, r3⟩ := h.rest k (not_own h.tq hr (by decide)) (fun c cc e => not_own h.tq (h.cb c cc e).2 (by decide)) (own_ge h.tq)
  refine ⟨h.tp.kw k (fun S e => ?_), hT, h.lg, r1, r2, r3⟩
  subst e
  exact ⟨not_own h.tq h.tp.2.top (by decide), not_own h.tq h.tp.2.row (by decide)⟩
theorem PI.later {w0 w w' : World} {p q : Value} {d hb d' hb' g : Nat} {LF : Nat → Int} {C : Option (Nat × Array Value)} {o1 o2 : OS} (h : PI w0 w p q d hb d' hb' g LF C o1 o2) (k : Below w.heap.size w w') : PI w0 w' p q d hb d' hb' g LF C o1 o2 := by
  obtain ⟨r1, r2, r3⟩ := h.rest (P := fun _ => False) (Kw.below k) id (fun _ _ _ => id) (fun k e => e.elim)
  exact ⟨h.tp.below k, h.tq.below k, h.lg, r1, r2, r3⟩
theorem PI.drew {w0 w : World} {p q : Value} {d hb d' hb' g : Nat} {LF : Nat → Int} {C : Option (Nat × Array Value)} {o1 o2 : OS} (h : PI w0 w p q d hb d' hb' g LF C o1 o2) : PI w0 w.drew p q d hb d' hb' g LF C o1 o2 := h.later ((Below.refl _ _).drew)
theorem PI.noC {w0 w : World} {p q : Value} {d hb d' hb' g : Nat} {LF : Nat → Int} {C : Option (Nat × Array Value)} {o1 o2 : OS} (h : PI w0 w p q d hb d' hb' g LF C o1 o2) : PI w0 w p q d hb d' hb' g LF none o1 o2 := ⟨h.tp, h.tq, h.lg, h.lf, (fun _ _ e => by cases e), h.below⟩
theorem PI.withC {w0 w : World} {p q : Value} {d hb d' hb' g c : Nat} {LF : Nat → Int} {cc : Array Value} {o1 o2 : OS} (h : PI w0 w p q d hb d' hb' g LF none o1 o2) (h1 : w0.heap.size ≤ c) (h2 : w.heap[c]? = some (.cells cc TC (0, 0))) : PI w0 w p q d hb d' hb' g LF (some (c, cc)) o1 o2 := ⟨h.tp, h.tq, h.lg, h.lf, (fun _ _ e => by cases e; exact ⟨h1, h2⟩), h.below⟩
theorem PI.cset {w0 w : World} {p q : Value} {d hb d' hb' g c : Nat} {LF : Nat → Int} {cc : Array Value} {o1 o2 : OS} (h : PI w0 w p q d hb d' hb' g LF (some (c, cc)) o1 o2) (j : Nat) (v : Value) : PI w0 (w.setCell ⟨c, j, none⟩ v) p q d hb d' hb' g LF (some (c, cc.setIfInBounds j v)) o1 o2 := by
  obtain ⟨h1, h2⟩ := h.cb c cc rfl
  have k := Kw.set (P := fun k => k = c) w ⟨c, j, none⟩ v rfl
  have ne : ∀ {b : Nat} {X : Array Value} {ty : TypeId} {fr : Nat × Nat}, w.heap[b]? = some (.cells X ty fr) → ty ≠ TC → b ≠ c := by
    rintro b X ty fr hb hn rfl
    rw [hb] at h2
    simp at h2
    exact hn h2.2.1
  obtain ⟨row, hr, hj⟩ := h.lf
  obtain ⟨r1, _, r3⟩ := (h.noC).rest k (ne hr (by decide)) (fun _ _ e => by cases e) (fun k e => e ▸ h1)
  refine ⟨h.tp.kw k (fun S e => ?_), h.tq.kw k (fun S e => ?_), h.lg, r1, fun c' cc' e => ?_, r3⟩
  · subst e; exact ⟨ne h.tp.2.top (by decide), ne h.tp.2.row (by decide)⟩
  · subst e; exact ⟨ne h.tq.2.top (by decide), ne h.tq.2.row (by decide)⟩
  · cases e
    exact ⟨h1, heap_setCell_same w c j _ _ v h2⟩
/-- one more left of stripe s -/
def lfs (LF : Nat → Int) (s : Nat) : Nat → Int := fun j => if j = s then LF s + 1 else LF j
theorem PI.lset {w0 w : World} {p q : Value} {d hb d' hb' g : Nat} {LF : Nat → Int} {C : Option (Nat × Array Value)} {o1 o2 : OS} (h : PI w0 w p q d hb d' hb' g LF C o1 o2) (s : Nat) : PI w0 (w.setCell ⟨g, s, none⟩ (.int .i64 (LF s + 1))) p q d hb d' hb' g (lfs LF s) C o1 o2 := by
  obtain ⟨row, hr, hj⟩ := h.lf
  have k := Kw.set (P := fun k => k = g) w ⟨g, s, none⟩ (.int .i64 (LF s + 1)) rfl
  have ne : ∀ {b : Nat} {X : Array Value} {ty : TypeId} {fr : Nat × Nat}, w.heap[b]? = some (.cells X ty fr) → ty ≠ TI → b ≠ g := by
    rintro b X ty fr hb hn rfl
    rw [hb] at hr
    simp at hr
    exact hn hr.2.1
  refine ⟨h.tp.kw k (fun S e => ?_), h.tq.kw k (fun S e => ?_), h.lg, ⟨_, heap_setCell_same w g s _ _ _ hr, fun j hj' => ?_⟩, fun c cc e => ?_, Kw.since h.below h.below.size k (fun k e => e ▸ h.lg)⟩
  · subst e; exact ⟨ne h.tp.2.top (by decide), ne h.tp.2.row (by decide)⟩
  · subst e; exact ⟨ne h.tq.2.top (by decide), ne h.tq.2.row (by decide)⟩
  · have h1 := hj j hj'
    unfold lfs
    rw [Array.getElem?_setIfInBounds]
    by_cases e : s = j
    · subst e
      rw [if_pos rfl, if_pos rfl, if_pos (Array.getElem?_eq_some_iff.1 h1).1]
    · rw [if_neg e, if_neg (Ne.symm e)]
      exact h1
  · obtain ⟨h1, h2⟩ := h.cb c cc e
    exact ⟨h1, (k.block c (Array.getElem?_eq_some_iff.1 h2).1 (ne h2 (by decide))).trans h2⟩
theorem PI.left {w0 w : World} {p q : Value} {d hb d' hb' g : Nat} {LF : Nat → Int} {C : Option (Nat × Array Value)} {o1 o2 : OS} (h : PI w0 w p q d hb d' hb' g LF C o1 o2) (s : Nat) (hs : s < 64) : w.cell? ⟨g, s, none⟩ = some (.int .i64 (LF s)) ∧ w.frozen? ⟨g, s, none⟩ = false := by
  obtain ⟨row, hr, hj⟩ := h.lf
  refine ⟨?_, by simp [World.frozen?, hr]⟩
  rw [cell_of_row w g s _ _ _ hr]
  exact hj s hs
theorem PI.call {w0 w : World} {p q : Value} {d hb d' hb' g c : Nat} {LF : Nat → Int} {a b e f : Value} {o1 o2 : OS} (h : PI w0 w p q d hb d' hb' g LF (some (c, #[a, b, e, f])) o1 o2) : w.cell? ⟨c, 0, none⟩ = some a ∧ w.cell? ⟨c, 1, none⟩ = some b ∧ w.cell? ⟨c, 2, none⟩ = some e ∧ w.cell? ⟨c, 3, none⟩ = some f ∧ w.frozen? ⟨c, 2, none⟩ = false := by
  have h2 := (h.cb _ _ rfl).2
  refine ⟨?_, ?_, ?_, ?_, by simp [World.frozen?, h2]⟩
  · rw [cell_of_row w c 0 _ _ _ h2]; rfl
  · rw [cell_of_row w c 1 _ _ _ h2]; rfl
  · rw [cell_of_row w c 2 _ _ _ h2]; rfl
  · rw [cell_of_row w c 3 _ _ _ h2]; rfl
theorem pticket_pi (s : Int) {w0 w : World} {p q : Value} {d hb d' hb' g : Nat} {LF : Nat → Int} {C : Option (Nat × Array Value)} {o1 o2 : OS} (H : PI w0 w p q d hb d' hb' g LF C o1 o2) :
    Calls Try.prog 11 #[p, .int .i64 s] w fun e w' => e = .returned (.tuple #[.int .i64 (tnO o1 s), .int .i64 (teO o1 s)]) ∧ PI w0 w' p q d hb d' hb' g LF C (tkO o1 s) (o2) :=
  (pticket_un s H.tp).mono fun _ _ h => ⟨h.1, H.prog h.2.1 h.2.2⟩
theorem pleave_pi (s t : Int) {w0 w : World} {p q : Value} {d hb d' hb' g : Nat} {LF : Nat → Int} {C : Option (Nat × Array Value)} {o1 o2 : OS} (H : PI w0 w p q d hb d' hb' g LF C o1 o2) :
    Calls Try.prog 13 #[p, .int .i64 s, .int .i64 t] w fun e w' => e = .returned (.int .i64 (hoO o1 s t 0)) ∧ PI w0 w' p q d hb d' hb' g LF C (lvO o1 s t) (o2) :=
  (pleave_un s t H.tp).mono fun _ _ h => ⟨h.1, H.prog h.2.1 h.2.2⟩
theorem podd_pi (s t : Int) {w0 w : World} {p q : Value} {d hb d' hb' g : Nat} {LF : Nat → Int} {C : Option (Nat × Array Value)} {o1 o2 : OS} (H : PI w0 w p q d hb d' hb' g LF C o1 o2) (hq : bdO o1 1000000000000000000) :
    Calls Try.prog 14 #[p, .int .i64 s, .int .i64 t] w fun e w' => e = .returned (.int .i64 (hoO o1 s t 0)) ∧ PI w0 w' p q d hb d' hb' g LF C (ctO o1 s t 0) (o2) :=
  (podd_un s t H.tp (fun x hx => by have := hq s x hx; omega)).mono fun _ _ h => ⟨h.1, H.prog h.2.1 h.2.2⟩
theorem peven_pi (s t : Int) {w0 w : World} {p q : Value} {d hb d' hb' g : Nat} {LF : Nat → Int} {C : Option (Nat × Array Value)} {o1 o2 : OS} (H : PI w0 w p q d hb d' hb' g LF C o1 o2) (hq : bdO o1 1000000000000000000) :
    Calls Try.prog 15 #[p, .int .i64 s, .int .i64 t] w fun e w' => e = .returned (.int .i64 (hoO o1 s t 1)) ∧ PI w0 w' p q d hb d' hb' g LF C (ctO o1 s t 1) (o2) :=
  (peven_un s t H.tp (fun x hx => by have := hq s x hx; omega)).mono fun _ _ h => ⟨h.1, H.prog h.2.1 h.2.2⟩
theorem pserved_pi (s t : Int) {w0 w : World} {p q : Value} {d hb d' hb' g : Nat} {LF : Nat → Int} {C : Option (Nat × Array Value)} {o1 o2 : OS} (H : PI w0 w p q d hb d' hb' g LF C o1 o2) :
    Calls Try.prog 12 #[p, .int .i64 s, .int .i64 t] w fun e w' => e = .returned (.bool (svO o1 s t)) ∧ PI w0 w' p q d hb d' hb' g LF C (o1) (o2) :=
  (pserved_un s t H.tp).mono fun _ _ h => ⟨h.1, H.prog h.2.1 h.2.2⟩
theorem pseq_pi (s : Int) {w0 w : World} {p q : Value} {d hb d' hb' g : Nat} {LF : Nat → Int} {C : Option (Nat × Array Value)} {o1 o2 : OS} (H : PI w0 w p q d hb d' hb' g LF C o1 o2) :
    Calls Try.prog 17 #[p, .int .i64 s] w fun e w' => e = .returned (.int .i64 (sqO o1 s)) ∧ PI w0 w' p q d hb d' hb' g LF C (o1) (o2) :=
  (pseq_un s H.tp).mono fun _ _ h => ⟨h.1, H.prog h.2.1 h.2.2⟩
theorem pwaiting_pi (s : Int) {w0 w : World} {p q : Value} {d hb d' hb' g : Nat} {LF : Nat → Int} {C : Option (Nat × Array Value)} {o1 o2 : OS} (H : PI w0 w p q d hb d' hb' g LF C o1 o2) :
    Calls Try.prog 16 #[p, .int .i64 s] w fun e w' => e = .returned (.int .i64 (wtO o1 s)) ∧ PI w0 w' p q d hb d' hb' g LF C (o1) (o2) :=
  (pwaiting_un s H.tp).mono fun _ _ h => ⟨h.1, H.prog h.2.1 h.2.2⟩
theorem rticket_pi (s : Int) {w0 w : World} {p q : Value} {d hb d' hb' g : Nat} {LF : Nat → Int} {C : Option (Nat × Array Value)} {o1 o2 : OS} (H : PI w0 w p q d hb d' hb' g LF C o1 o2) :
    Calls Try.prog 25 #[q, .int .i64 s] w fun e w' => e = .returned (.tuple #[.int .i64 (tnO o2 s), .int .i64 (teO o2 s)]) ∧ PI w0 w' p q d hb d' hb' g LF C (o1) (tkO o2 s) :=
  (rticket_un s H.tq).mono fun _ _ h => ⟨h.1, H.ref h.2.1 h.2.2⟩
theorem rleave_pi (s t : Int) {w0 w : World} {p q : Value} {d hb d' hb' g : Nat} {LF : Nat → Int} {C : Option (Nat × Array Value)} {o1 o2 : OS} (H : PI w0 w p q d hb d' hb' g LF C o1 o2) :
    Calls Try.prog 27 #[q, .int .i64 s, .int .i64 t] w fun e w' => e = .returned (.int .i64 (hoO o2 s t 0)) ∧ PI w0 w' p q d hb d' hb' g LF C (o1) (lvO o2 s t) :=
  (rleave_un s t H.tq).mono fun _ _ h => ⟨h.1, H.ref h.2.1 h.2.2⟩
theorem rodd_pi (s t : Int) {w0 w : World} {p q : Value} {d hb d' hb' g : Nat} {LF : Nat → Int} {C : Option (Nat × Array Value)} {o1 o2 : OS} (H : PI w0 w p q d hb d' hb' g LF C o1 o2) (hq : bdO o2 1000000000000000000) :
    Calls Try.prog 28 #[q, .int .i64 s, .int .i64 t] w fun e w' => e = .returned (.int .i64 (hoO o2 s t 0)) ∧ PI w0 w' p q d hb d' hb' g LF C (o1) (ctO o2 s t 0) :=
  (rodd_un s t H.tq (fun x hx => by have := hq s x hx; omega)).mono fun _ _ h => ⟨h.1, H.ref h.2.1 h.2.2⟩
theorem reven_pi (s t : Int) {w0 w : World} {p q : Value} {d hb d' hb' g : Nat} {LF : Nat → Int} {C : Option (Nat × Array Value)} {o1 o2 : OS} (H : PI w0 w p q d hb d' hb' g LF C o1 o2) (hq : bdO o2 1000000000000000000) :
    Calls Try.prog 29 #[q, .int .i64 s, .int .i64 t] w fun e w' => e = .returned (.int .i64 (hoO o2 s t 1)) ∧ PI w0 w' p q d hb d' hb' g LF C (o1) (ctO o2 s t 1) :=
  (reven_un s t H.tq (fun x hx => by have := hq s x hx; omega)).mono fun _ _ h => ⟨h.1, H.ref h.2.1 h.2.2⟩
theorem rserved_pi (s t : Int) {w0 w : World} {p q : Value} {d hb d' hb' g : Nat} {LF : Nat → Int} {C : Option (Nat × Array Value)} {o1 o2 : OS} (H : PI w0 w p q d hb d' hb' g LF C o1 o2) :
    Calls Try.prog 26 #[q, .int .i64 s, .int .i64 t] w fun e w' => e = .returned (.bool (svO o2 s t)) ∧ PI w0 w' p q d hb d' hb' g LF C (o1) (o2) :=
  (rserved_un s t H.tq).mono fun _ _ h => ⟨h.1, H.ref h.2.1 h.2.2⟩
theorem rseq_pi (s : Int) {w0 w : World} {p q : Value} {d hb d' hb' g : Nat} {LF : Nat → Int} {C : Option (Nat × Array Value)} {o1 o2 : OS} (H : PI w0 w p q d hb d' hb' g LF C o1 o2) :
    Calls Try.prog 30 #[q, .int .i64 s] w fun e w' => e = .returned (.int .i64 (sqO o2 s)) ∧ PI w0 w' p q d hb d' hb' g LF C (o1) (o2) :=
  (rseq_un s H.tq).mono fun _ _ h => ⟨h.1, H.ref h.2.1 h.2.2⟩
theorem rwaiting_pi (s : Int) {w0 w : World} {p q : Value} {d hb d' hb' g : Nat} {LF : Nat → Int} {C : Option (Nat × Array Value)} {o1 o2 : OS} (H : PI w0 w p q d hb d' hb' g LF C o1 o2) :
    Calls Try.prog 31 #[q, .int .i64 s] w fun e w' => e = .returned (.int .i64 (wtO o2 s)) ∧ PI w0 w' p q d hb d' hb' g LF C (o1) (o2) :=
  (rwaiting_un s H.tq).mono fun _ _ h => ⟨h.1, H.ref h.2.1 h.2.2⟩
theorem pstripes_pi {w0 w : World} {p q : Value} {d hb d' hb' g : Nat} {LF : Nat → Int} {C : Option (Nat × Array Value)} {o1 o2 : OS} (H : PI w0 w p q d hb d' hb' g LF C o1 o2) : Calls Try.prog 18 #[p] w fun e w' => e = .returned (.int .i64 (lnO o1)) ∧ w' = w := by
  have h := H.tp
  cases o1 with
  | none => unfold TN at h; subst h; exact stripes_nil w
  | some S => obtain ⟨rfl, h⟩ := h; exact stripes_any w h
theorem rstripes_pi {w0 w : World} {p q : Value} {d hb d' hb' g : Nat} {LF : Nat → Int} {C : Option (Nat × Array Value)} {o1 o2 : OS} (H : PI w0 w p q d hb d' hb' g LF C o1 o2) : Calls Try.prog 24 #[q] w fun e w' => e = .returned (.int .i64 (lnO o2)) ∧ w' = w := by
  have h := H.tq
  cases o2 with
  | none => unfold TN at h; subst h; exact rstripes_nil w
  | some S => obtain ⟨rfl, h⟩ := h; exact rstripes_any w h
end Go.Proofs.Ytehgjfokpcnneaa
