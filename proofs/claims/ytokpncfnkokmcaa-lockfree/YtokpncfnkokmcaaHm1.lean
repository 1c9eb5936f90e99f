/-
  Handlers in memory: pointers in a row, a block each; done, inside.
-/
import Derived.Maps.AppendAt
import Derived.Test.YtokpncfnkokmcaaFr4
namespace Go.Proofs.Ytokpncfnkokmcaa
open Go.RowKit
set_option maxRecDepth 100000

abbrev THd : TypeId := 35
abbrev TPt : TypeId := 32
abbrev TIn : TypeId := 3
/-- a handler's block, its slices of stripes and of tickets -/
abbrev Mh := Nat × Value × Value
def pc (B : List Nat) : List Value := B.map fun b => .pointer (some ⟨b, 0, none⟩)
def PO (w : World) (base : Nat) (v : Value) (B : List Nat) : Prop := w.ownsRow base TPt 1 v B.length (pc B)
structure HM (w : World) (base : Nat) (v : Value) (M : List Mh) (H : List Hn) : Prop where
  ptr : PO w base v (M.map (·.1))
  len : M.length = H.length
  cell : ∀ (i : Nat) (m : Mh) (h : Hn), M[i]? = some m → H[i]? = some h → base ≤ m.1 ∧ w.heap[m.1]? = some (.cells #[m.2.1, .int .i64 (aa h : Int), m.2.2] THd (0, 0)) ∧ OI w base m.2.1 h.1 ∧ OI w base m.2.2 h.2.2
  inj : ∀ (i j : Nat) (m m' : Mh), M[i]? = some m → M[j]? = some m' → m.1 = m'.1 → i = j
  apT : ∀ (i j : Nat) (m m' : Mh) (g : Nat), M[i]? = some m → M[j]? = some m' → m.2.2.ownBlock = some g → m'.2.2.ownBlock = some g → i = j
  apS : ∀ (i j : Nat) (m m' : Mh) (g : Nat), M[i]? = some m → M[j]? = some m' → m.2.2.ownBlock = some g → m'.2.1.ownBlock ≠ some g
theorem OI.kw {P : Nat → Prop} {w w' : World} {base : Nat} {v : Value} {R : List Int} (h : OI w base v R) (k : Kw P w w') (hp : ∀ g, v.ownBlock = some g → ¬ P g) : OI w' base v R := by
  refine ⟨h.1, ?_⟩
  rcases h.2 with h2 | ⟨g, cap, cur, rfl, hg, hh, r⟩
  · exact .inl h2
  · exact .inr ⟨g, cap, cur, rfl, hg, (k.block g (Array.getElem?_eq_some_iff.1 hh).1 (hp g rfl)).trans hh, r⟩
theorem PO.kw {P : Nat → Prop} {w w' : World} {base : Nat} {v : Value} {B : List Nat} (h : PO w base v B) (k : Kw P w w') (hp : ∀ g, v.ownBlock = some g → ¬ P g) : PO w' base v B := by
  refine ⟨h.1, ?_⟩
  rcases h.2 with h2 | ⟨g, cap, cur, rfl, hg, hh, r⟩
  · exact .inl h2
  · exact .inr ⟨g, cap, cur, rfl, hg, (k.block g (Array.getElem?_eq_some_iff.1 hh).1 (hp g rfl)).trans hh, r⟩
theorem OI.ty {w : World} {base : Nat} {v : Value} {R : List Int} (h : OI w base v R) {g : Nat} (hg : v.ownBlock = some g) : ∃ row, w.heap[g]? = some (.cells row TIn (0, 0)) := by
  rcases h.2 with ⟨rfl, _⟩ | ⟨g', cap, cur, rfl, _, hh, _⟩
  · simp [Value.ownBlock] at hg
  · simp [Value.ownBlock] at hg
    subst hg
    exact ⟨_, hh⟩
theorem PO.ty {w : World} {base : Nat} {v : Value} {B : List Nat} (h : PO w base v B) {g : Nat} (hg : v.ownBlock = some g) : ∃ row, w.heap[g]? = some (.cells row TPt (0, 0)) := by
  rcases h.2 with ⟨rfl, _⟩ | ⟨g', cap, cur, rfl, _, hh, _⟩
  · simp [Value.ownBlock] at hg
  · simp [Value.ownBlock] at hg
    subst hg
    exact ⟨_, hh⟩
/-- blocks of two types are two -/
theorem ty_ne {w : World} {g g' : Nat} {X Y : Array Value} {t t' : TypeId} {f f' : Nat × Nat} (h : w.heap[g]? = some (.cells X t f)) (h' : w.heap[g']? = some (.cells Y t' f')) (ne : t ≠ t') : g ≠ g' := by
  rintro rfl
  rw [h] at h'
  simp at h'
  exact ne h'.2.1
/-- what turns one block of another type leaves the handlers -/
theorem HM.kt {w w' : World} {base : Nat} {v : Value} {M : List Mh} {H : List Hn} (hm : HM w base v M H) {b : Nat} {X : Array Value} {t : TypeId} {f : Nat × Nat} (hb : w.heap[b]? = some (.cells X t f)) (k : Kw (fun k => k = b) w w') (n1 : t ≠ TPt) (n2 : t ≠ THd) (n3 : t ≠ TIn) : HM w' base v M H := by
  refine ⟨hm.ptr.kw k (fun g hg => ?_), hm.len, fun i m h h1 h2 => ?_, hm.inj, hm.apT, hm.apS⟩
  · obtain ⟨row, hr⟩ := hm.ptr.ty hg
    exact ty_ne hr hb (Ne.symm n1)
  · obtain ⟨c1, c2, c3, c4⟩ := hm.cell i m h h1 h2
    refine ⟨c1, (k.block m.1 (Array.getElem?_eq_some_iff.1 c2).1 (ty_ne c2 hb (Ne.symm n2))).trans c2, c3.kw k (fun g hg => ?_), c4.kw k (fun g hg => ?_)⟩
    · obtain ⟨row, hr⟩ := c3.ty hg
      exact ty_ne hr hb (Ne.symm n3)
    · obtain ⟨row, hr⟩ := c4.ty hg
      exact ty_ne hr hb (Ne.symm n3)
theorem HM.later {w w' : World} {base : Nat} {v : Value} {M : List Mh} {H : List Hn} (hm : HM w base v M H) (k : Below w.heap.size w w') : HM w' base v M H := by
  have kk := Kw.below (P := fun _ => False) k
  exact ⟨hm.ptr.kw kk (fun _ _ => id), hm.len, fun i m h h1 h2 => by
    obtain ⟨c1, c2, c3, c4⟩ := hm.cell i m h h1 h2
    exact ⟨c1, (k.block m.1 (Array.getElem?_eq_some_iff.1 c2).1).trans c2, c3.kw kk (fun _ _ => id), c4.kw kk (fun _ _ => id)⟩, hm.inj, hm.apT, hm.apS⟩
/-- one step on: At goes up by one -/
theorem HM.up {w : World} {base : Nat} {v : Value} {M : List Mh} {H : List Hn} (hm : HM w base v M H) {i : Nat} {m : Mh} {h : Hn} (h1 : M[i]? = some m) (h2 : H[i]? = some h) : HM (w.setCell ⟨m.1, 1, none⟩ (.int .i64 ((aa h : Int) + 1))) base v M (H.set i (nx h)) := by
  have k := Kw.set (P := fun k => k = m.1) w ⟨m.1, 1, none⟩ (.int .i64 ((aa h : Int) + 1)) rfl
  obtain ⟨_, d2, _, _⟩ := hm.cell i m h h1 h2
  refine ⟨hm.ptr.kw k (fun g hg => ?_), by rw [List.length_set]; exact hm.len, fun j m' g e1 e2 => ?_, hm.inj, hm.apT, hm.apS⟩
  · obtain ⟨row, hr⟩ := hm.ptr.ty hg
    exact ty_ne hr d2 (by decide)
  · rcases set_some h2 e2 with ⟨rfl, rfl⟩ | ⟨hne, e2⟩
    · rw [h1] at e1
      cases e1
      obtain ⟨c1, c2, c3, c4⟩ := hm.cell j m h h1 h2
      refine ⟨c1, ?_, c3.kw k (fun g hg => ?_), c4.kw k (fun g hg => ?_)⟩
      · rw [heap_setCell_same w m.1 1 _ _ _ c2]
        simp
        rfl
      · obtain ⟨row, hr⟩ := c3.ty hg
        exact ty_ne hr d2 (by decide)
      · obtain ⟨row, hr⟩ := c4.ty hg
        exact ty_ne hr d2 (by decide)
    · obtain ⟨c1, c2, c3, c4⟩ := hm.cell j m' g e1 e2
      have hb : m'.1 ≠ m.1 := fun e => hne (hm.inj j i m' m e1 h1 e)
      refine ⟨c1, (k.block m'.1 (Array.getElem?_eq_some_iff.1 c2).1 hb).trans c2, c3.kw k (fun g hg => ?_), c4.kw k (fun g hg => ?_)⟩
      · obtain ⟨row, hr⟩ := c3.ty hg
        exact ty_ne hr d2 (by decide)
      · obtain ⟨row, hr⟩ := c4.ty hg
        exact ty_ne hr d2 (by decide)
/-- its cells -/
theorem HM.cells {w : World} {base : Nat} {v : Value} {M : List Mh} {H : List Hn} (hm : HM w base v M H) {i : Nat} {m : Mh} {h : Hn} (h1 : M[i]? = some m) (h2 : H[i]? = some h) : w.cell? ⟨m.1, 0, none⟩ = some m.2.1 ∧ w.cell? ⟨m.1, 1, none⟩ = some (.int .i64 (aa h : Int)) ∧ w.cell? ⟨m.1, 2, none⟩ = some m.2.2 ∧ w.frozen? ⟨m.1, 1, none⟩ = false ∧ w.frozen? ⟨m.1, 2, none⟩ = false := by
  obtain ⟨_, c2, _, _⟩ := hm.cell i m h h1 h2
  refine ⟨?_, ?_, ?_, by simp [World.frozen?, c2], by simp [World.frozen?, c2]⟩
  · rw [cell_of_row w m.1 0 _ _ _ c2]; rfl
  · rw [cell_of_row w m.1 1 _ _ _ c2]; rfl
  · rw [cell_of_row w m.1 2 _ _ _ c2]; rfl
theorem OI.sl {w : World} {base : Nat} {v : Value} {R : List Int} (h : OI w base v R) : ∃ ao cap, v = .slice ao R.length cap := h.reads.len0
theorem done_any (w : World) {base : Nat} {v : Value} {M : List Mh} {H : List Hn} (hm : HM w base v M H) {i : Nat} {m : Mh} {h : Hn} (h1 : M[i]? = some m) (h2 : H[i]? = some h) (hn : nn h ≤ 100) :
    Calls Try.prog 11 #[.pointer (some ⟨m.1, 0, none⟩)] w fun e w' => e = .returned (.bool (decide (5 * nn h ≤ aa h))) ∧ Below w.heap.size w w' := by
  obtain ⟨c0, c1, _, _, _⟩ := hm.cells h1 h2
  obtain ⟨ao, cap, hv⟩ := (hm.cell i m h h1 h2).2.2.1.sl
  rw [hv] at c0
  clear hm hv h1 h2
  obtain ⟨N, hN⟩ : ∃ N, h.1.length = N := ⟨_, rfl⟩
  obtain ⟨a, hA⟩ : ∃ a, h.2.1 = a := ⟨_, rfl⟩
  unfold nn aa at *
  rw [hN] at c0 hn ⊢
  rw [hA] at c1 ⊢
  clear hN hA
  go_enter Try.func11, Try.ntmps11
  by_cases hd : 5 * N ≤ a
  · have HD := hid (decide_eq_true hd)
    have hI2 : decide (5 * (N : Int) ≤ (a : Int)) = true := decide_eq_true (by omega)
    clear hd
    go_wp2
    go_quiet (fail)
    go_wp2
    go_ret
    rw [HD.out]
    exact ⟨by simp, below_drewN (Below.refl _ _) nq⟩
  · have HD := hid (decide_eq_false hd)
    have hI2 : decide (5 * (N : Int) ≤ (a : Int)) = false := decide_eq_false (by omega)
    clear hd
    go_wp2
    go_quiet (fail)
    go_wp2
    go_ret
    rw [HD.out]
    exact ⟨by simp, below_drewN (Below.refl _ _) nq⟩
/-- does it hold the stripe at place k? -/
def inB (h : Hn) (k : Nat) : Bool := decide (2 * k + 1 < aa h ∧ aa h ≤ 4 * nn h + k)
theorem inside_any (k : Nat) (w : World) {base : Nat} {v : Value} {M : List Mh} {H : List Hn} (hm : HM w base v M H) {i : Nat} {m : Mh} {h : Hn} (h1 : M[i]? = some m) (h2 : H[i]? = some h) (hn : nn h ≤ 100) (ha : aa h ≤ 1000) (hk : k ≤ 100) :
    Calls Try.prog 10 #[.pointer (some ⟨m.1, 0, none⟩), .int .i64 (k : Int)] w fun e w' => e = .returned (.bool (inB h k)) ∧ w' = w := by
  obtain ⟨c0, c1, _, _, _⟩ := hm.cells h1 h2
  obtain ⟨ao, cap, hv⟩ := (hm.cell i m h h1 h2).2.2.1.sl
  rw [hv] at c0
  clear hm hv h1 h2
  obtain ⟨bb, hbb⟩ : ∃ bb, inB h k = bb := ⟨_, rfl⟩
  rw [hbb]
  unfold inB at hbb
  obtain ⟨N, hN⟩ : ∃ N, h.1.length = N := ⟨_, rfl⟩
  obtain ⟨a, hA⟩ : ∃ a, h.2.1 = a := ⟨_, rfl⟩
  unfold nn aa at *
  rw [hN] at c0 hn hbb
  rw [hA] at c1 ha hbb
  clear hN hA
  go_enter Try.func10, Try.ntmps10
  by_cases g1 : 2 * k + 1 < a
  · have q1 : 2 * (k : Int) + 1 < (a : Int) := by omega
    by_cases g2 : a ≤ 4 * N + k
    · have q2 : (a : Int) ≤ 4 * (N : Int) + (k : Int) := by omega
      have HD := hid (show bb = true by rw [← hbb]; exact decide_eq_true ⟨g1, g2⟩)
      clear g1 g2 hbb
      go_wp2
      go_ret
      rw [HD.out]
      exact ⟨rfl, rfl⟩
    · have q2 : decide ((a : Int) ≤ 4 * (N : Int) + (k : Int)) = false := decide_eq_false (by omega)
      have HD := hid (show bb = false by rw [← hbb]; exact decide_eq_false (fun c => g2 c.2))
      clear g1 g2 hbb
      go_wp2
      go_ret
      rw [HD.out]
      exact ⟨rfl, rfl⟩
  · have q1 : ¬ 2 * (k : Int) + 1 < (a : Int) := by omega
    have HD := hid (show bb = false by rw [← hbb]; exact decide_eq_false (fun c => g1 c.1))
    clear g1 hbb
    go_wp2
    go_ret
    rw [HD.out]
    exact ⟨rfl, rfl⟩
end Go.Proofs.Ytokpncfnkokmcaa
