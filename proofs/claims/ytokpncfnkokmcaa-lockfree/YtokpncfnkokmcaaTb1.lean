/-
  A table in memory: stripes with tickets given, left and a counter; at, serves, isCount, New.
-/
import Derived.Test.YtokpncfnkokmcaaSa
namespace Go.Proofs.Ytokpncfnkokmcaa
open Go.RowKit
set_option maxRecDepth 100000

/-- a stripe: tickets given, left, its counter -/
abbrev Hd := Int × Int × Int
def hc (S : List Hd) : List Value := S.flatMap fun h => [.int .i64 h.1, .int .i64 h.2.1, .int .i64 h.2.2]
theorem hc_len (S : List Hd) : (hc S).length = S.length * 3 := by
  induction S with
  | nil => rfl
  | cons x t ih => simp [hc] at ih ⊢; omega
theorem hc_at (S : List Hd) : ∀ (i : Nat) (h : i < S.length), (hc S)[i * 3]? = some (.int .i64 S[i].1) ∧ (hc S)[i * 3 + 1]? = some (.int .i64 S[i].2.1) ∧ (hc S)[i * 3 + 2]? = some (.int .i64 S[i].2.2) := by
  induction S with
  | nil => intro i h; simp at h
  | cons x t ih =>
    intro i h
    have e : hc (x :: t) = .int .i64 x.1 :: .int .i64 x.2.1 :: .int .i64 x.2.2 :: hc t := rfl
    rw [e]
    cases i with
    | zero => simp
    | succ j =>
      have := ih j (by simpa using h)
      have e3 : (j + 1) * 3 = j * 3 + 3 := by omega
      rw [e3]
      simpa [List.getElem_cons_succ] using this
theorem hc_set1 (S : List Hd) : ∀ (i : Nat) (h : i < S.length) (x : Int), (hc S).set (i * 3) (.int .i64 x) = hc (S.set i (x, S[i].2)) ∧ (hc S).set (i * 3 + 1) (.int .i64 x) = hc (S.set i (S[i].1, x, S[i].2.2)) ∧ (hc S).set (i * 3 + 2) (.int .i64 x) = hc (S.set i (S[i].1, S[i].2.1, x)) := by
  induction S with
  | nil => intro i h; simp at h
  | cons y t ih =>
    intro i h x
    have e : hc (y :: t) = .int .i64 y.1 :: .int .i64 y.2.1 :: .int .i64 y.2.2 :: hc t := rfl
    cases i with
    | zero => rw [e]; simp [hc]
    | succ j =>
      obtain ⟨a1, a2, a3⟩ := ih j (by simpa using h) x
      have e3 : (j + 1) * 3 = j * 3 + 3 := by omega
      rw [e, e3]
      simp only [List.set_cons_succ, show j * 3 + 3 + 1 = (j * 3 + 1) + 3 from by omega, show j * 3 + 3 + 2 = (j * 3 + 2) + 3 from by omega, List.getElem_cons_succ]
      rw [a1, a2, a3]
      exact ⟨rfl, rfl, rfl⟩
/-- nothing that lay has turned but the blocks P -/
structure Kw (P : Nat → Prop) (w w' : World) : Prop where
  os : w'.os = w.os
  tape : w'.tape = w.tape
  output : w'.output = w.output
  size : w.heap.size ≤ w'.heap.size
  block : ∀ k, k < w.heap.size → ¬ P k → w'.heap[k]? = w.heap[k]?
theorem Kw.refl (P : Nat → Prop) (w : World) : Kw P w w := ⟨rfl, rfl, rfl, Nat.le_refl _, fun _ _ _ => rfl⟩
theorem Kw.below {P : Nat → Prop} {w w' : World} (h : Below w.heap.size w w') : Kw P w w' := ⟨h.os, h.tape, h.output, h.size, fun k hk _ => h.block k hk⟩
theorem Kw.drew (P : Nat → Prop) (w : World) : Kw P w w.drew := ⟨rfl, rfl, rfl, Nat.le_refl _, fun _ _ _ => rfl⟩
theorem Kw.set {P : Nat → Prop} (w : World) (p : Addr) (v : Value) (h : P p.block) : Kw P w (w.setCell p v) :=
  ⟨rfl, rfl, rfl, by simp, fun k _ hn => heap_setCell_other w p k v (fun e => hn (by rw [e]; exact h))⟩
theorem Kw.trans {P : Nat → Prop} {w w' w'' : World} (h : Kw P w w') (k : Kw P w' w'') : Kw P w w'' :=
  ⟨k.os.trans h.os, k.tape.trans h.tape, k.output.trans h.output, Nat.le_trans h.size k.size, fun i hi hn => (k.block i (Nat.lt_of_lt_of_le hi h.size) hn).trans (h.block i hi hn)⟩
theorem Kw.mono {P Q : Nat → Prop} {w w' : World} (h : Kw P w w') (hq : ∀ k, k < w.heap.size → P k → Q k) : Kw Q w w' := ⟨h.os, h.tape, h.output, h.size, fun k hk hn => h.block k hk (fun e => hn (hq k hk e))⟩
theorem Kw.since {P : Nat → Prop} {B : Nat} {w0 w w' : World} (hb : Below B w0 w) (hB : B ≤ w.heap.size) (h : Kw P w w') (hp : ∀ k, P k → B ≤ k) : Below B w0 w' :=
  ⟨h.os.trans hb.os, h.tape.trans hb.tape, h.output.trans hb.output, Nat.le_trans hb.size h.size, fun k hk => by
    rw [h.block k (by omega) (fun e => by have := hp k e; omega)]; exact hb.block k hk⟩

/-- a table in memory: its types tt, rt; blocks d, hb; stripes S -/
structure TB (tt rt : TypeId) (w : World) (base d hb : Nat) (S : List Hd) : Prop where
  gd : base ≤ d
  gh : base ≤ hb
  top : w.heap[d]? = some (.cells #[.slice (some ⟨hb, 0, none⟩) S.length S.length] tt (0, 0))
  row : w.heap[hb]? = some (.cells (hc S).toArray rt (0, 0))
  ne : d ≠ hb
  many : 1 ≤ S.length ∧ S.length ≤ 64
  ok : ∀ i (h : i < S.length), 0 ≤ S[i].2.1 ∧ S[i].2.1 ≤ S[i].1 ∧ S[i].1 ≤ 1073741824 ∧ 0 ≤ S[i].2.2
theorem TB.cell0 {tt rt : TypeId} {w : World} {base d hb : Nat} {S : List Hd} (h : TB tt rt w base d hb S) : w.cell? ⟨d, 0, none⟩ = some (.slice (some ⟨hb, 0, none⟩) S.length S.length) := by
  rw [cell_of_row w d 0 _ _ _ h.top]; rfl
theorem TB.at {tt rt : TypeId} {w : World} {base d hb : Nat} {S : List Hd} (h : TB tt rt w base d hb S) (i : Nat) (hi : i < S.length) : w.cell? ⟨hb, i * 3, none⟩ = some (.int .i64 S[i].1) ∧ w.cell? ⟨hb, i * 3 + 1, none⟩ = some (.int .i64 S[i].2.1) ∧ w.cell? ⟨hb, i * 3 + 2, none⟩ = some (.int .i64 S[i].2.2) ∧ ∀ j, w.frozen? ⟨hb, j, none⟩ = false := by
  obtain ⟨a1, a2, a3⟩ := hc_at S i hi
  refine ⟨?_, ?_, ?_, fun j => by simp [World.frozen?, h.row]⟩
  · rw [cell_of_row w hb _ _ _ _ h.row]; simpa using a1
  · rw [cell_of_row w hb _ _ _ _ h.row]; simpa using a2
  · rw [cell_of_row w hb _ _ _ _ h.row]; simpa using a3
theorem TB.lt {tt rt : TypeId} {w : World} {base d hb : Nat} {S : List Hd} (h : TB tt rt w base d hb S) : d < w.heap.size ∧ hb < w.heap.size := ⟨(Array.getElem?_eq_some_iff.1 h.top).1, (Array.getElem?_eq_some_iff.1 h.row).1⟩
theorem TB.kw {P : Nat → Prop} {tt rt : TypeId} {w w' : World} {base d hb : Nat} {S : List Hd} (h : TB tt rt w base d hb S) (k : Kw P w w') (h1 : ¬ P d) (h2 : ¬ P hb) : TB tt rt w' base d hb S :=
  ⟨h.gd, h.gh, (k.block d h.lt.1 h1).trans h.top, (k.block hb h.lt.2 h2).trans h.row, h.ne, h.many, h.ok⟩
theorem TB.below {tt rt : TypeId} {w w' : World} {base d hb : Nat} {S : List Hd} (h : TB tt rt w base d hb S) (k : Below w.heap.size w w') : TB tt rt w' base d hb S := h.kw (P := fun _ => False) (Kw.below k) id id
theorem TB.drew {tt rt : TypeId} {w : World} {base d hb : Nat} {S : List Hd} (h : TB tt rt w base d hb S) : TB tt rt w.drew base d hb S := h.below ((Below.refl _ _).drew)
/-- one number of a stripe written -/
theorem TB.put {tt rt : TypeId} {w : World} {base d hb : Nat} {S : List Hd} (h : TB tt rt w base d hb S) (i : Nat) (j : Nat) (v : Value) (x : Hd) (hs : (hc S).set j v = hc (S.set i x)) (hx : 0 ≤ x.2.1 ∧ x.2.1 ≤ x.1 ∧ x.1 ≤ 1073741824 ∧ 0 ≤ x.2.2) :
    TB tt rt (w.setCell ⟨hb, j, none⟩ v) base d hb (S.set i x) ∧ Kw (fun k => k = hb) w (w.setCell ⟨hb, j, none⟩ v) := by
  refine ⟨⟨h.gd, h.gh, ?_, ?_, h.ne, by rw [List.length_set]; exact h.many, ?_⟩, Kw.set _ _ _ rfl⟩
  · rw [heap_setCell_other _ _ _ _ (by simpa using h.ne), List.length_set]; exact h.top
  · rw [heap_setCell_same w hb j _ _ v h.row]
    simp only [List.setIfInBounds_toArray]
    rw [hs]
  · intro k hk
    rw [List.getElem_set]
    split
    · exact hx
    · exact h.ok k (by simpa using hk)
/-- there is a stripe s -/
def inH (h : Int) (n : Nat) : Bool := decide (0 ≤ h ∧ h < (n : Int))
theorem inH_iff (h : Int) (n : Nat) : inH h n = true ↔ 0 ≤ h ∧ h < (n : Int) := by simp [inH]
theorem inH_no {h : Int} {n : Nat} (e : ¬ (0 ≤ h ∧ h < (n : Int))) : inH h n = false := by unfold inH; exact decide_eq_false e
/-- so many stripes may be -/
def okS (n : Int) : Bool := decide (1 ≤ n ∧ n ≤ 64)
theorem isCount_any (n : Int) (w : World) : Calls Try.prog 19 #[.int .i64 n] w fun e w' => e = .returned (.bool (okS n)) ∧ w' = w := by
  go_enter Try.func19, Try.ntmps19
  by_cases h0 : 1 ≤ n
  · by_cases h1 : n ≤ 64
    · have HN := hid (show okS n = true by unfold okS; exact decide_eq_true ⟨h0, h1⟩)
      go_wp2
      go_ret
      exact ⟨by rw [HN.out]; rfl, rfl⟩
    · have HN := hid (show okS n = false by unfold okS; exact decide_eq_false (by omega))
      go_wp2
      go_ret
      exact ⟨by rw [HN.out]; rfl, rfl⟩
  · have HN := hid (show okS n = false by unfold okS; exact decide_eq_false (by omega))
    go_wp2
    go_ret
    exact ⟨by rw [HN.out]; rfl, rfl⟩
abbrev TP (w : World) (base d hb : Nat) (S : List Hd) : Prop := TB 47 51 w base d hb S
theorem at_in (i : Nat) (w : World) {base d hb : Nat} {S : List Hd} (H : TP w base d hb S) (hi : i < S.length) :
    Calls Try.prog 20 #[.pointer (some ⟨d, 0, none⟩), .int .i64 (i : Int)] w fun e w' => e = .returned (.pointer (some ⟨hb, i * 3, none⟩)) ∧ w' = w := by
  have c0 := H.cell0
  have h1 : (i : Int) < (S.length : Int) := by omega
  clear H
  go_enter Try.func20, Try.ntmps20
  go_wp2
  go_ret
  exact ⟨rfl, rfl⟩
theorem at_out (s : Int) (w : World) {base d hb : Nat} {S : List Hd} (H : TP w base d hb S) (hi : ¬ (0 ≤ s ∧ s < (S.length : Int))) :
    Calls Try.prog 20 #[.pointer (some ⟨d, 0, none⟩), .int .i64 s] w fun e w' => e = .returned (.pointer none) ∧ w' = w := by
  have c0 := H.cell0
  clear H
  go_enter Try.func20, Try.ntmps20
  by_cases h0 : 0 ≤ s
  · have h1 : ¬ s < (S.length : Int) := by omega
    clear hi
    go_wp2
    go_ret
    exact ⟨rfl, rfl⟩
  · clear hi
    go_wp2
    go_ret
    exact ⟨rfl, rfl⟩
theorem at_nil (s : Int) (w : World) : Calls Try.prog 20 #[.pointer none, .int .i64 s] w fun e w' => e = .returned (.pointer none) ∧ w' = w := by
  go_enter Try.func20, Try.ntmps20
  go_wp2
  go_ret
  exact ⟨rfl, rfl⟩
/-- ticket t is served -/
def svd (x : Hd) (t : Int) : Bool := decide (t = x.2.1 ∧ x.2.1 < x.1)
theorem serves_any (hb i : Nat) (x : Hd) (t : Int) (w : World) (c0 : w.cell? ⟨hb, i * 3, none⟩ = some (.int .i64 x.1)) (c1 : w.cell? ⟨hb, i * 3 + 1, none⟩ = some (.int .i64 x.2.1)) :
    Calls Try.prog 21 #[.pointer (some ⟨hb, i * 3, none⟩), .int .i64 t] w fun e w' => e = .returned (.bool (svd x t)) ∧ Below w.heap.size w w' := by
  obtain ⟨a, b, q⟩ := x
  simp only at c0 c1
  go_enter Try.func21, Try.ntmps21
  by_cases h0 : t = b
  · subst h0
    by_cases h1 : t < a
    · have HN := hid (show svd (a, t, q) t = true by unfold svd; exact decide_eq_true ⟨rfl, h1⟩)
      go_wp2
      go_quiet (fail)
      go_wp2
      go_ret
      exact ⟨by rw [HN.out]; rfl, below_drewN (Below.refl _ _) nq⟩
    · have HN := hid (show svd (a, t, q) t = false by unfold svd; exact decide_eq_false (by simp only; omega))
      have hd : decide (t < a) = false := decide_eq_false h1
      clear h1
      go_wp2
      go_quiet (fail)
      go_wp2
      go_ret
      exact ⟨by rw [HN.out]; rfl, below_drewN (Below.refl _ _) nq⟩
  · have hb0 : (t == b) = false := by simp [h0]
    have HN := hid (show svd (a, b, q) t = false by unfold svd; exact decide_eq_false (by simp only; omega))
    clear h0
    go_wp2
    go_quiet (fail)
    go_wp2
    go_ret
    exact ⟨by rw [HN.out]; rfl, below_drewN (Below.refl _ _) nq⟩
end Go.Proofs.Ytokpncfnkokmcaa
