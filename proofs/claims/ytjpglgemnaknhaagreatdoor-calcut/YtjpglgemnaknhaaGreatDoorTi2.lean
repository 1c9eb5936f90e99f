/-
  A time's text read: readTime, out of refused. Laid by mkti2.py.
-/
import Derived.Test.YtjpglgemnaknhaaGreatDoorTi1
namespace Go.Proofs.YtjpglgemnaknhaaGreatDoor
open Go.RowKit
set_option maxRecDepth 100000

def TP : List ByteArray := [⟨#[100, 100]⟩, ⟨#[100, 100, 100, 100]⟩, ⟨#[100, 100, 100, 100, 100, 100]⟩]
def TE : List ByteArray := [⟨#[100, 100]⟩, ⟨#[100, 100, 58, 100, 100]⟩, ⟨#[100, 100, 58, 100, 100, 58, 100, 100]⟩]
abbrev tpO : Obj := .cells #[.string ⟨#[100, 100]⟩, .string ⟨#[100, 100, 100, 100]⟩, .string ⟨#[100, 100, 100, 100, 100, 100]⟩] 9
abbrev teO : Obj := .cells #[.string ⟨#[100, 100]⟩, .string ⟨#[100, 100, 58, 100, 100]⟩, .string ⟨#[100, 100, 58, 100, 100, 58, 100, 100]⟩] 9
theorem ShB.tpO {w : World} {b : Nat} (h : w.heap[b]? = some tpO) : ShB w b TP := by
  intro j hj
  match j, hj with
  | 0, _ => rw [Lib.cell_of_heap h]; rfl
  | 1, _ => rw [Lib.cell_of_heap h]; rfl
  | 2, _ => rw [Lib.cell_of_heap h]; rfl
theorem ShB.teO {w : World} {b : Nat} (h : w.heap[b]? = some teO) : ShB w b TE := by
  intro j hj
  match j, hj with
  | 0, _ => rw [Lib.cell_of_heap h]; rfl
  | 1, _ => rw [Lib.cell_of_heap h]; rfl
  | 2, _ => rw [Lib.cell_of_heap h]; rfl
theorem TP_small : ∀ s ∈ TP, s.size ≤ 64 := by
  intro s hs
  unfold TP at hs
  simp at hs
  rcases hs with rfl | rfl | rfl <;> decide
theorem TE_small : ∀ s ∈ TE, s.size ≤ 64 := by
  intro s hs
  unfold TE at hs
  simp at hs
  rcases hs with rfl | rfl | rfl <;> decide
/-- the number of two digits of a text -/
abbrev n2 (t : ByteArray) (a : Nat) : Nat := nm (sub t.data.toList a 2)
theorem n2_le (t : ByteArray) (a : Nat) (h : a + 2 ≤ t.size) (hd : ∀ c ∈ sub t.data.toList a 2, isDB c = true) : n2 t a ≤ 99 := by
  have k := nm_lt (sub t.data.toList a 2) hd
  rw [sub_len _ _ _ (by rw [Array.length_toList]; exact h)] at k
  show nm (sub t.data.toList a 2) ≤ 99
  omega
/-- the seconds, as far as they are read -/
def tmN (t : ByteArray) (p1 p2 : Nat) : Nat → Int
  | 0 => 0
  | 1 => 3600 * (n2 t 0 : Int)
  | 2 => 3600 * (n2 t 0 : Int) + 60 * (n2 t p1 : Int)
  | _ => 3600 * (n2 t 0 : Int) + 60 * (n2 t p1 : Int) + (n2 t p2 : Int)
def tmB (t : ByteArray) (p1 p2 : Nat) : Nat → Bool := sel3 (okH t (n2 t 0)) (decide (n2 t p1 ≤ 59)) (decide (n2 t p2 ≤ 59))
/-- what readTime answers, when the shape is known -/
def tmP (t : ByteArray) (p1 p2 : Nat) : Int × Int × Int :=
  if 0 ≤ (rg t.size (sel3 0 p1 p2) (tmB t p1 p2) 3 0).1 then (0, 32, (rg t.size (sel3 0 p1 p2) (tmB t p1 p2) 3 0).1) else (tmN t p1 p2 (rg t.size (sel3 0 p1 p2) (tmB t p1 p2) 3 0).2, 0, 0)
def tup (x : Int × Int × Int) : Value := .tuple #[.int .i64 x.1, .int .i64 x.2.1, .int .i64 x.2.2]
/-- where the parts of a time stand -/
structure TmF (t : ByteArray) (p1 p2 : Nat) : Prop where
  h0 : sk t.data.toList 0 = 0
  l0 : 2 ≤ t.size ∧ ∀ c ∈ sub t.data.toList 0 2, isDB c = true
  h1 : sk t.data.toList 2 = p1
  l1 : p1 = t.size ∨ (p1 + 2 ≤ t.size ∧ ∀ c ∈ sub t.data.toList p1 2, isDB c = true)
  h12 : p1 = t.size → p2 = t.size
  h2 : p1 ≠ t.size → sk t.data.toList (p1 + 2) = p2
  l2 : p2 = t.size ∨ (p2 + 2 ≤ t.size ∧ ∀ c ∈ sub t.data.toList p2 2, isDB c = true)
abbrev ptT (tb sb : Nat) : Obj := .cells #[.int .i64 2, .func (.func 57) #[] #[.pointer (some ⟨sb, 0, none⟩), .pointer (some ⟨tb, 0, none⟩)], .int .i64 2, .func (.func 59) #[] #[.pointer (some ⟨sb, 0, none⟩)], .int .i64 2, .func (.func 60) #[] #[.pointer (some ⟨sb, 0, none⟩)]] 66
theorem refusedT (t : ByteArray) (ht : t.size ≤ 64) (p1 p2 : Nat) (hF : TmF t p1 p2) (tb sb pb : Nat) (W : World) (hI : IBox W sb 0) (hP : W.heap[pb]? = some (ptT tb sb)) (hT : W.cell? ⟨tb, 0, none⟩ = some (.string t)) (hne : tb ≠ sb) (hpb : pb ≠ sb) :
    Calls Tryz.prog 37 #[.string t, .slice (some ⟨pb, 0, none⟩) 3 3] W fun e w' => e = .returned (.int .i64 (rg t.size (sel3 0 p1 p2) (tmB t p1 p2) 3 0).1) ∧ SBx W sb (tmN t p1 p2) (rg t.size (sel3 0 p1 p2) (tmB t p1 p2) 3 0).2 w' := by
  have hlt : sb < W.heap.size := hI.facts.2.2
  have b0 := n2_le t 0 (by have := hF.l0.1; omega) hF.l0.2
  have hcell : ∀ (k : Nat) (w : World), SBx W sb (tmN t p1 p2) k w → w.heap[pb]? = some (ptT tb sb) := fun k w h => (h.1.block pb (Array.getElem?_eq_some_iff.1 hP).1 (fun e => hpb (by cases e; rfl))).trans hP
  exact refused_any t ht 3 pb (fun _ => 2) (sel3 57 59 60) (sel3 0 p1 p2) (sel3 #[.pointer (some ⟨sb, 0, none⟩), .pointer (some ⟨tb, 0, none⟩)] #[.pointer (some ⟨sb, 0, none⟩)] #[.pointer (some ⟨sb, 0, none⟩)])
    (tmB t p1 p2) (SBx W sb (tmN t p1 p2)) W.heap.size (by omega)
    (fun k => match k with
      | 0 => eg_of Tryz.func57 (by kernel_rfl) rfl
      | 1 => eg_of Tryz.func59 (by kernel_rfl) rfl
      | _ + 2 => eg_of Tryz.func60 (by kernel_rfl) rfl)
    (fun k w w' h hb => h.stable hb) (fun k w h => h.1.size)
    (fun k j w hj h => by
      have hp := hcell k w h
      match j, hj with
      | 0, _ => exact ⟨by rw [Lib.cell_of_heap hp]; rfl, by rw [Lib.cell_of_heap hp]; rfl⟩
      | 1, _ => exact ⟨by rw [Lib.cell_of_heap hp]; rfl, by rw [Lib.cell_of_heap hp]; rfl⟩
      | 2, _ => exact ⟨by rw [Lib.cell_of_heap hp]; rfl, by rw [Lib.cell_of_heap hp]; rfl⟩)
    hF.h0 (fun k hk hne => by
      match k, hk with
      | 0, _ => exact hF.h1
      | 1, _ => exact hF.h2 hne)
    (fun k hk => by
      match k, hk with
      | 0, _ => exact .inr ⟨by have := hF.l0.1; show 0 + 2 ≤ t.size; omega, by decide, by decide, hF.l0.2⟩
      | 1, _ => exact hF.l1.imp id fun h => ⟨h.1, by decide, by decide, h.2⟩
      | 2, _ => exact hF.l2.imp id fun h => ⟨h.1, by decide, by decide, h.2⟩)
    (fun k wx hk hne2 h => by
      match k, hk with
      | 0, _ => exact tlo1_any t hF.l0.1 ht W wx sb tb (n2 t 0) b0 (tmN t p1 p2) rfl hlt hne hT h
      | 1, _ =>
        obtain ⟨a1, a2⟩ := hF.l1.resolve_left hne2
        have b1 := n2_le t p1 a1 a2
        exact tlo2_any W wx sb (n2 t p1) b1 (tmN t p1 p2) (show 0 ≤ 3600 * (n2 t 0 : Int) ∧ 3600 * (n2 t 0 : Int) ≤ 1000000 by omega) rfl hlt h
      | 2, _ =>
        have hp1 : p1 ≠ t.size := fun e => hne2 (hF.h12 e)
        obtain ⟨a1, a2⟩ := hF.l1.resolve_left hp1
        have b1 := n2_le t p1 a1 a2
        obtain ⟨a3, a4⟩ := hF.l2.resolve_left hne2
        have b2 := n2_le t p2 a3 a4
        exact tlo3_any W wx sb (n2 t p2) b2 (tmN t p1 p2) (show 0 ≤ 3600 * (n2 t 0 : Int) + 60 * (n2 t p1 : Int) ∧ 3600 * (n2 t 0 : Int) + 60 * (n2 t p1 : Int) ≤ 1000000 by omega) rfl hlt h)
    W (SBx.start hI)
set_option maxHeartbeats 1000000 in
theorem readTime_noP (t : ByteArray) (ht : t.size ≤ 64) (p : Nat) (hf : fitL t.data.toList (SS TP) 0 0 = (-1, p)) (w : World) :
    Calls Tryz.prog 26 #[.string t, .bool false] w fun e w' => e = .returned (tup (0, 32, (p : Int))) ∧ Below w.heap.size w w' := by
  have hmf : ∀ (fn : Fn) (first cap : Array Value) (w : World), (Instr.makeFunc fn first cap).run Tryz.prog w = .ok (.func fn first cap) w := fun _ _ _ _ => rfl
  obtain ⟨W, hW⟩ : ∃ W, (w.alloc (.cells #[.string t] 9)).alloc tpO = W := ⟨_, rfl⟩
  have zW : W.heap.size = w.heap.size + 2 := by rw [← hW]; simp
  have BW : Below w.heap.size w W := by rw [← hW]; exact ((Below.refl _ _).alloc (Nat.le_refl _) _).alloc (by simp) _
  have SW : W.heap[w.heap.size + 1]? = some tpO := by
    have h := heap_alloc_new (w.alloc (.cells #[.string t] 9)) tpO
    rw [hW] at h
    simp at h
    exact h
  have TW : W.cell? ⟨w.heap.size, 0, none⟩ = some (.string t) := by
    have h1 := heap_alloc_new w (.cells #[.string t] 9)
    have h2 : Below (w.alloc (.cells #[.string t] 9)).heap.size (w.alloc (.cells #[.string t] 9)) W := by rw [← hW]; exact (Below.refl _ _).alloc (Nat.le_refl _) _
    have h3 := (h2.block w.heap.size (by simp)).trans h1
    rw [Lib.cell_of_heap h3]
    rfl
  have HF := hid (fit_any t ht TP TP_small (by decide) (w.heap.size + 1) W (ShB.tpO SW))
  rw [hf] at HF
  have HW := hid hW
  have HB := hid BW
  have HT := hid TW
  unfold TP at HF
  clear hf hW SW BW
  go_enter Tryz.func26, Tryz.ntmps26
  go_wp2_with fail
  try rw [HW.out]
  refine HF.out.mono ?_
  rintro e wd ⟨rfl, nq, hwd⟩
  have bd : Below W.heap.size W wd := by rw [hwd]; exact below_drewN (Below.refl _ _) nq
  have BD := hid (HB.out.trans (bd.mono (by omega)))
  have TD := hid (below_cells bd _ _ HT.out)
  have zd : wd.heap.size = w.heap.size + 2 := by rw [hwd]; simpa using zW
  clear hwd bd HF HW HB TW HT nq zW
  have hneg : (-1 : Int) < 0 := by decide
  go_wp2
  go_ret3
  exact ⟨rfl, BD.out⟩
set_option maxHeartbeats 1000000 in
theorem readTime_yesP (t : ByteArray) (ht : t.size ≤ 64) (p1 p2 : Nat) (hF : TmF t p1 p2) (k q : Nat) (hf : fitL t.data.toList (SS TP) 0 0 = ((k : Int), q)) (w : World) :
    Calls Tryz.prog 26 #[.string t, .bool false] w fun e w' => e = .returned (tup (tmP t p1 p2)) ∧ Below w.heap.size w w' := by
  have hmf : ∀ (fn : Fn) (first cap : Array Value) (w : World), (Instr.makeFunc fn first cap).run Tryz.prog w = .ok (.func fn first cap) w := fun _ _ _ _ => rfl
  obtain ⟨W, hW⟩ : ∃ W, (w.alloc (.cells #[.string t] 9)).alloc tpO = W := ⟨_, rfl⟩
  have zW : W.heap.size = w.heap.size + 2 := by rw [← hW]; simp
  have BW : Below w.heap.size w W := by rw [← hW]; exact ((Below.refl _ _).alloc (Nat.le_refl _) _).alloc (by simp) _
  have SW : W.heap[w.heap.size + 1]? = some tpO := by
    have h := heap_alloc_new (w.alloc (.cells #[.string t] 9)) tpO
    rw [hW] at h
    simp at h
    exact h
  have TW : W.cell? ⟨w.heap.size, 0, none⟩ = some (.string t) := by
    have h1 := heap_alloc_new w (.cells #[.string t] 9)
    have h2 : Below (w.alloc (.cells #[.string t] 9)).heap.size (w.alloc (.cells #[.string t] 9)) W := by rw [← hW]; exact (Below.refl _ _).alloc (Nat.le_refl _) _
    have h3 := (h2.block w.heap.size (by simp)).trans h1
    rw [Lib.cell_of_heap h3]
    rfl
  have HF := hid (fit_any t ht TP TP_small (by decide) (w.heap.size + 1) W (ShB.tpO SW))
  rw [hf] at HF
  have HW := hid hW
  have HB := hid BW
  have HT := hid TW
  unfold TP at HF
  unfold tmP tup
  obtain ⟨r, hr0⟩ : ∃ r, rg t.size (sel3 0 p1 p2) (tmB t p1 p2) 3 0 = r := ⟨_, rfl⟩
  obtain ⟨v, hv0⟩ : ∃ v, tmN t p1 p2 = v := ⟨_, rfl⟩
  rw [hr0, hv0]
  have Hr := hid hr0
  have Hv := hid hv0
  obtain ⟨A, hA⟩ : ∃ A : Int × Int × Int, (if 0 ≤ r.1 then ((0 : Int), (32 : Int), r.1) else (v r.2, 0, 0)) = A := ⟨_, rfl⟩
  have HA1 := hid (show 0 ≤ r.1 → A = (0, 32, r.1) from fun h => by rw [← hA, if_pos h])
  have HA2 := hid (show r.1 < 0 → A = (v r.2, 0, 0) from fun h => by rw [← hA, if_neg (by omega)])
  rw [hA]
  clear hr0 hv0 hA
  clear hf hW SW BW
  go_enter Tryz.func26, Tryz.ntmps26
  go_wp2_with fail
  try rw [HW.out]
  refine HF.out.mono ?_
  rintro e wd ⟨rfl, nq, hwd⟩
  have bd : Below W.heap.size W wd := by rw [hwd]; exact below_drewN (Below.refl _ _) nq
  have BD := hid (HB.out.trans (bd.mono (by omega)))
  have TD := hid (below_cells bd _ _ HT.out)
  have zd : wd.heap.size = w.heap.size + 2 := by rw [hwd]; simpa using zW
  clear hwd bd HF HW HB TW HT nq zW
  obtain ⟨W5, hW5⟩ : ∃ W5, (wd.alloc zI).alloc (ptT w.heap.size wd.heap.size) = W5 := ⟨_, rfl⟩
  have b1 : Below wd.heap.size wd (wd.alloc zI) := (Below.refl _ _).alloc (Nat.le_refl _) _
  have b2 : Below (wd.alloc zI).heap.size (wd.alloc zI) W5 := by rw [← hW5]; exact (Below.refl _ _).alloc (Nat.le_refl _) _
  have I5 : IBox W5 wd.heap.size 0 := (show IBox (wd.alloc zI) wd.heap.size 0 from heap_alloc_new _ _).later b2
  have P5 : W5.heap[wd.heap.size + 1]? = some (ptT w.heap.size wd.heap.size) := by
    have h := heap_alloc_new (wd.alloc zI) (ptT w.heap.size wd.heap.size)
    rw [hW5] at h
    simpa using h
  have T4 : (wd.alloc zI).cell? ⟨w.heap.size, 0, none⟩ = some (.string t) := below_cells b1 _ _ TD.out
  have T5 := below_cells b2 _ _ T4
  have B5 := hid ((BD.out.trans (b1.mono (by omega))).trans (b2.mono (by simp; omega)))
  have HR := hid (refusedT t ht p1 p2 hF w.heap.size wd.heap.size (wd.heap.size + 1) W5 I5 P5 T5 (by omega) (by omega))
  rw [Hr.out, Hv.out] at HR
  have HW5 := hid hW5
  have zle : w.heap.size ≤ wd.heap.size := by omega
  have hk : ¬ ((k : Nat) : Int) < 0 := by omega
  clear b1 b2 I5 P5 T5 hW5 hF TD BD zd
  go_wp2_with fail
  try rw [HW5.out]
  refine HR.out.mono ?_
  rintro e w6 ⟨rfl, hs⟩
  obtain ⟨c6, _, _⟩ := hs.2.facts
  have B6 := hid (show Below w.heap.size w w6 from ⟨hs.1.os.trans B5.out.os, hs.1.tape.trans B5.out.tape, hs.1.output.trans B5.out.output, Nat.le_trans B5.out.size hs.1.size, fun j hj => (hs.1.block j (Nat.lt_of_lt_of_le hj B5.out.size) (fun e => by cases e; omega)).trans (B5.out.block j hj)⟩)
  clear hs HR HW5 T4 Hr Hv
  by_cases hr : 0 ≤ r.1
  · go_wp2
    go_ret3
    exact ⟨by rw [HA1.out hr]; rfl, B6.out⟩
  · go_wp2
    go_ret3
    exact ⟨by rw [HA2.out (by omega)]; rfl, B6.out⟩
set_option maxHeartbeats 1000000 in
theorem readTime_noE (t : ByteArray) (ht : t.size ≤ 64) (p : Nat) (hf : fitL t.data.toList (SS TE) 0 0 = (-1, p)) (w : World) :
    Calls Tryz.prog 26 #[.string t, .bool true] w fun e w' => e = .returned (tup (0, 32, (p : Int))) ∧ Below w.heap.size w w' := by
  have hmf : ∀ (fn : Fn) (first cap : Array Value) (w : World), (Instr.makeFunc fn first cap).run Tryz.prog w = .ok (.func fn first cap) w := fun _ _ _ _ => rfl
  obtain ⟨W, hW⟩ : ∃ W, ((w.alloc (.cells #[.string t] 9)).alloc tpO).alloc teO = W := ⟨_, rfl⟩
  have zW : W.heap.size = w.heap.size + 3 := by rw [← hW]; simp
  have BW : Below w.heap.size w W := by rw [← hW]; exact (((Below.refl _ _).alloc (Nat.le_refl _) _).alloc (by simp) _).alloc (by simp; omega) _
  have SW : W.heap[w.heap.size + 2]? = some teO := by
    have h := heap_alloc_new ((w.alloc (.cells #[.string t] 9)).alloc tpO) teO
    rw [hW] at h
    simp at h
    exact h
  have TW : W.cell? ⟨w.heap.size, 0, none⟩ = some (.string t) := by
    have h1 := heap_alloc_new w (.cells #[.string t] 9)
    have h2 : Below (w.alloc (.cells #[.string t] 9)).heap.size (w.alloc (.cells #[.string t] 9)) W := by rw [← hW]; exact ((Below.refl _ _).alloc (Nat.le_refl _) _).alloc (by simp) _
    have h3 := (h2.block w.heap.size (by simp)).trans h1
    rw [Lib.cell_of_heap h3]
    rfl
  have HF := hid (fit_any t ht TE TE_small (by decide) (w.heap.size + 2) W (ShB.teO SW))
  rw [hf] at HF
  have HW := hid hW
  have HB := hid BW
  have HT := hid TW
  unfold TE at HF
  clear hf hW SW BW
  go_enter Tryz.func26, Tryz.ntmps26
  go_wp2_with fail
  try rw [HW.out]
  refine HF.out.mono ?_
  rintro e wd ⟨rfl, nq, hwd⟩
  have bd : Below W.heap.size W wd := by rw [hwd]; exact below_drewN (Below.refl _ _) nq
  have BD := hid (HB.out.trans (bd.mono (by omega)))
  have TD := hid (below_cells bd _ _ HT.out)
  have zd : wd.heap.size = w.heap.size + 3 := by rw [hwd]; simpa using zW
  clear hwd bd HF HW HB TW HT nq zW
  have hneg : (-1 : Int) < 0 := by decide
  go_wp2
  go_ret3
  exact ⟨rfl, BD.out⟩
set_option maxHeartbeats 1000000 in
theorem readTime_yesE (t : ByteArray) (ht : t.size ≤ 64) (p1 p2 : Nat) (hF : TmF t p1 p2) (k q : Nat) (hf : fitL t.data.toList (SS TE) 0 0 = ((k : Int), q)) (w : World) :
    Calls Tryz.prog 26 #[.string t, .bool true] w fun e w' => e = .returned (tup (tmP t p1 p2)) ∧ Below w.heap.size w w' := by
  have hmf : ∀ (fn : Fn) (first cap : Array Value) (w : World), (Instr.makeFunc fn first cap).run Tryz.prog w = .ok (.func fn first cap) w := fun _ _ _ _ => rfl
  obtain ⟨W, hW⟩ : ∃ W, ((w.alloc (.cells #[.string t] 9)).alloc tpO).alloc teO = W := ⟨_, rfl⟩
  have zW : W.heap.size = w.heap.size + 3 := by rw [← hW]; simp
  have BW : Below w.heap.size w W := by rw [← hW]; exact (((Below.refl _ _).alloc (Nat.le_refl _) _).alloc (by simp) _).alloc (by simp; omega) _
  have SW : W.heap[w.heap.size + 2]? = some teO := by
    have h := heap_alloc_new ((w.alloc (.cells #[.string t] 9)).alloc tpO) teO
    rw [hW] at h
    simp at h
    exact h
  have TW : W.cell? ⟨w.heap.size, 0, none⟩ = some (.string t) := by
    have h1 := heap_alloc_new w (.cells #[.string t] 9)
    have h2 : Below (w.alloc (.cells #[.string t] 9)).heap.size (w.alloc (.cells #[.string t] 9)) W := by rw [← hW]; exact ((Below.refl _ _).alloc (Nat.le_refl _) _).alloc (by simp) _
    have h3 := (h2.block w.heap.size (by simp)).trans h1
    rw [Lib.cell_of_heap h3]
    rfl
  have HF := hid (fit_any t ht TE TE_small (by decide) (w.heap.size + 2) W (ShB.teO SW))
  rw [hf] at HF
  have HW := hid hW
  have HB := hid BW
  have HT := hid TW
  unfold TE at HF
  unfold tmP tup
  obtain ⟨r, hr0⟩ : ∃ r, rg t.size (sel3 0 p1 p2) (tmB t p1 p2) 3 0 = r := ⟨_, rfl⟩
  obtain ⟨v, hv0⟩ : ∃ v, tmN t p1 p2 = v := ⟨_, rfl⟩
  rw [hr0, hv0]
  have Hr := hid hr0
  have Hv := hid hv0
  obtain ⟨A, hA⟩ : ∃ A : Int × Int × Int, (if 0 ≤ r.1 then ((0 : Int), (32 : Int), r.1) else (v r.2, 0, 0)) = A := ⟨_, rfl⟩
  have HA1 := hid (show 0 ≤ r.1 → A = (0, 32, r.1) from fun h => by rw [← hA, if_pos h])
  have HA2 := hid (show r.1 < 0 → A = (v r.2, 0, 0) from fun h => by rw [← hA, if_neg (by omega)])
  rw [hA]
  clear hr0 hv0 hA
  clear hf hW SW BW
  go_enter Tryz.func26, Tryz.ntmps26
  go_wp2_with fail
  try rw [HW.out]
  refine HF.out.mono ?_
  rintro e wd ⟨rfl, nq, hwd⟩
  have bd : Below W.heap.size W wd := by rw [hwd]; exact below_drewN (Below.refl _ _) nq
  have BD := hid (HB.out.trans (bd.mono (by omega)))
  have TD := hid (below_cells bd _ _ HT.out)
  have zd : wd.heap.size = w.heap.size + 3 := by rw [hwd]; simpa using zW
  clear hwd bd HF HW HB TW HT nq zW
  obtain ⟨W5, hW5⟩ : ∃ W5, (wd.alloc zI).alloc (ptT w.heap.size wd.heap.size) = W5 := ⟨_, rfl⟩
  have b1 : Below wd.heap.size wd (wd.alloc zI) := (Below.refl _ _).alloc (Nat.le_refl _) _
  have b2 : Below (wd.alloc zI).heap.size (wd.alloc zI) W5 := by rw [← hW5]; exact (Below.refl _ _).alloc (Nat.le_refl _) _
  have I5 : IBox W5 wd.heap.size 0 := (show IBox (wd.alloc zI) wd.heap.size 0 from heap_alloc_new _ _).later b2
  have P5 : W5.heap[wd.heap.size + 1]? = some (ptT w.heap.size wd.heap.size) := by
    have h := heap_alloc_new (wd.alloc zI) (ptT w.heap.size wd.heap.size)
    rw [hW5] at h
    simpa using h
  have T4 : (wd.alloc zI).cell? ⟨w.heap.size, 0, none⟩ = some (.string t) := below_cells b1 _ _ TD.out
  have T5 := below_cells b2 _ _ T4
  have B5 := hid ((BD.out.trans (b1.mono (by omega))).trans (b2.mono (by simp; omega)))
  have HR := hid (refusedT t ht p1 p2 hF w.heap.size wd.heap.size (wd.heap.size + 1) W5 I5 P5 T5 (by omega) (by omega))
  rw [Hr.out, Hv.out] at HR
  have HW5 := hid hW5
  have zle : w.heap.size ≤ wd.heap.size := by omega
  have hk : ¬ ((k : Nat) : Int) < 0 := by omega
  clear b1 b2 I5 P5 T5 hW5 hF TD BD zd
  go_wp2_with fail
  try rw [HW5.out]
  refine HR.out.mono ?_
  rintro e w6 ⟨rfl, hs⟩
  obtain ⟨c6, _, _⟩ := hs.2.facts
  have B6 := hid (show Below w.heap.size w w6 from ⟨hs.1.os.trans B5.out.os, hs.1.tape.trans B5.out.tape, hs.1.output.trans B5.out.output, Nat.le_trans B5.out.size hs.1.size, fun j hj => (hs.1.block j (Nat.lt_of_lt_of_le hj B5.out.size) (fun e => by cases e; omega)).trans (B5.out.block j hj)⟩)
  clear hs HR HW5 T4 Hr Hv
  by_cases hr : 0 ≤ r.1
  · go_wp2
    go_ret3
    exact ⟨by rw [HA1.out hr]; rfl, B6.out⟩
  · go_wp2
    go_ret3
    exact ⟨by rw [HA2.out (by omega)]; rfl, B6.out⟩
end Go.Proofs.YtjpglgemnaknhaaGreatDoor
