/-
  A zone's text read: readZone, out of refused. Laid by mktz1.py.
-/
import Derived.Test.YtjpglgemnaknhaaGreatDoorTi2
namespace Go.Proofs.YtjpglgemnaknhaaGreatDoor
open Go.RowKit
set_option maxRecDepth 100000

def ZP : List ByteArray := [⟨#[90]⟩, ⟨#[43, 100, 100]⟩, ⟨#[45, 100, 100]⟩, ⟨#[43, 100, 100, 100, 100]⟩, ⟨#[45, 100, 100, 100, 100]⟩]
def ZE : List ByteArray := [⟨#[90]⟩, ⟨#[43, 100, 100]⟩, ⟨#[45, 100, 100]⟩, ⟨#[43, 100, 100, 58, 100, 100]⟩, ⟨#[45, 100, 100, 58, 100, 100]⟩]
abbrev zpO : Obj := .cells #[.string ⟨#[90]⟩, .string ⟨#[43, 100, 100]⟩, .string ⟨#[45, 100, 100]⟩, .string ⟨#[43, 100, 100, 100, 100]⟩, .string ⟨#[45, 100, 100, 100, 100]⟩] 9
abbrev zeO : Obj := .cells #[.string ⟨#[90]⟩, .string ⟨#[43, 100, 100]⟩, .string ⟨#[45, 100, 100]⟩, .string ⟨#[43, 100, 100, 58, 100, 100]⟩, .string ⟨#[45, 100, 100, 58, 100, 100]⟩] 9
theorem ShB.zpO {w : World} {b : Nat} (h : w.heap[b]? = some zpO) : ShB w b ZP := by
  intro j hj
  match j, hj with
  | 0, _ => rw [Lib.cell_of_heap h]; rfl
  | 1, _ => rw [Lib.cell_of_heap h]; rfl
  | 2, _ => rw [Lib.cell_of_heap h]; rfl
  | 3, _ => rw [Lib.cell_of_heap h]; rfl
  | 4, _ => rw [Lib.cell_of_heap h]; rfl
theorem ShB.zeO {w : World} {b : Nat} (h : w.heap[b]? = some zeO) : ShB w b ZE := by
  intro j hj
  match j, hj with
  | 0, _ => rw [Lib.cell_of_heap h]; rfl
  | 1, _ => rw [Lib.cell_of_heap h]; rfl
  | 2, _ => rw [Lib.cell_of_heap h]; rfl
  | 3, _ => rw [Lib.cell_of_heap h]; rfl
  | 4, _ => rw [Lib.cell_of_heap h]; rfl
theorem ZP_small : ∀ s ∈ ZP, s.size ≤ 64 := by
  intro s hs
  unfold ZP at hs
  simp at hs
  rcases hs with rfl | rfl | rfl | rfl | rfl <;> decide
theorem ZE_small : ∀ s ∈ ZE, s.size ≤ 64 := by
  intro s hs
  unfold ZE at hs
  simp at hs
  rcases hs with rfl | rfl | rfl | rfl | rfl <;> decide
theorem zlo1_any (w0 w : World) (sb n : Nat) (hn : n ≤ 99) (v : Nat → Int) (hv : v 1 = 60 * (n : Int)) (hlt : sb < w0.heap.size) (h : SBx w0 sb v 0 w) :
    Calls Tryz.prog 61 #[.int .i64 (n : Int), .pointer (some ⟨sb, 0, none⟩)] w fun e w' => e = .returned (.bool (decide (n ≤ 23))) ∧ SBx w0 sb v 1 w' ∧ ∀ x, w0.heap.size ≤ x → x < w.heap.size → w'.heap[x]? = w.heap[x]? := by
  have R := hid (h.set (60 * (n : Int)) hv)
  have FR := hid (h.frame hlt (60 * (n : Int)))
  obtain ⟨c0, f0, _⟩ := h.2.facts
  clear h hv
  by_cases g : n ≤ 23
  · have g' : (n : Int) ≤ 23 := by omega
    go_enter Tryz.func61, Tryz.ntmps61
    go_wp2
    go_ret
    exact ⟨ret_bool (by simp [g]), R.out, FR.out⟩
  · have g' : ¬ (n : Int) ≤ 23 := by omega
    go_enter Tryz.func61, Tryz.ntmps61
    go_wp2
    go_ret
    exact ⟨ret_bool (by simp), R.out, FR.out⟩
theorem zlo2_any (w0 w : World) (sb n : Nat) (hn : n ≤ 99) (v : Nat → Int) (h0 : 0 ≤ v 1 ∧ v 1 ≤ 1000000) (hv : v 2 = v 1 + (n : Int)) (hlt : sb < w0.heap.size) (h : SBx w0 sb v 1 w) :
    Calls Tryz.prog 62 #[.int .i64 (n : Int), .pointer (some ⟨sb, 0, none⟩)] w fun e w' => e = .returned (.bool (decide (n ≤ 59))) ∧ SBx w0 sb v 2 w' ∧ ∀ x, w0.heap.size ≤ x → x < w.heap.size → w'.heap[x]? = w.heap[x]? := by
  have R := hid (h.set (v 1 + (n : Int)) hv)
  have FR := hid (h.frame hlt (v 1 + (n : Int)))
  obtain ⟨c0, f0, _⟩ := h.2.facts
  clear h hv
  obtain ⟨a, ha⟩ : ∃ a, v 1 = a := ⟨_, rfl⟩
  rw [ha] at R FR c0 h0
  clear ha
  by_cases g : n ≤ 59
  · have g' : (n : Int) ≤ 59 := by omega
    go_enter Tryz.func62, Tryz.ntmps62
    go_wp2
    go_ret
    exact ⟨ret_bool (by simp [g]), R.out, FR.out⟩
  · have g' : ¬ (n : Int) ≤ 59 := by omega
    go_enter Tryz.func62, Tryz.ntmps62
    go_wp2
    go_ret
    exact ⟨ret_bool (by simp), R.out, FR.out⟩
/-- the minutes, as far as they are read -/
def znN (t : ByteArray) (q0 q1 : Nat) : Nat → Int
  | 0 => 0
  | 1 => 60 * (n2 t q0 : Int)
  | _ => 60 * (n2 t q0 : Int) + (n2 t q1 : Int)
def znB (t : ByteArray) (q0 q1 : Nat) : Nat → Bool := sel3 (decide (n2 t q0 ≤ 23)) (decide (n2 t q1 ≤ 59)) true
/-- what readZone answers, when the shape is known -/
def znP (t : ByteArray) (q0 q1 : Nat) : Int × Int × Int :=
  if 0 ≤ (rg t.size (sel3 q0 q1 q1) (znB t q0 q1) 2 0).1 then (0, 33, (rg t.size (sel3 q0 q1 q1) (znB t q0 q1) 2 0).1)
  else if t.data.toList[0]? ≠ some 45 then (znN t q0 q1 (rg t.size (sel3 q0 q1 q1) (znB t q0 q1) 2 0).2, 0, 0)
  else if znN t q0 q1 (rg t.size (sel3 q0 q1 q1) (znB t q0 q1) 2 0).2 = 0 then (0, 33, 0) else (-(znN t q0 q1 (rg t.size (sel3 q0 q1 q1) (znB t q0 q1) 2 0).2), 0, 0)
/-- where the parts of a zone stand -/
structure ZnF (t : ByteArray) (q0 q1 : Nat) : Prop where
  h0 : sk t.data.toList 0 = q0
  l0 : q0 = t.size ∨ (q0 + 2 ≤ t.size ∧ ∀ c ∈ sub t.data.toList q0 2, isDB c = true)
  h01 : q0 = t.size → q1 = t.size
  h1 : q0 ≠ t.size → sk t.data.toList (q0 + 2) = q1
  l1 : q1 = t.size ∨ (q1 + 2 ≤ t.size ∧ ∀ c ∈ sub t.data.toList q1 2, isDB c = true)
abbrev ptZ (sb : Nat) : Obj := .cells #[.int .i64 2, .func (.func 61) #[] #[.pointer (some ⟨sb, 0, none⟩)], .int .i64 2, .func (.func 62) #[] #[.pointer (some ⟨sb, 0, none⟩)]] 66
theorem znN_in (t : ByteArray) (q0 q1 : Nat) (hF : ZnF t q0 q1) : ∀ k, (k = 0 ∨ q0 ≠ t.size) → (k ≤ 1 ∨ q1 ≠ t.size) → 0 ≤ znN t q0 q1 k ∧ znN t q0 q1 k ≤ 1000000 := by
  intro k h1 h2
  match k with
  | 0 => exact ⟨Int.le_refl _, by show (0 : Int) ≤ 1000000; decide⟩
  | 1 =>
    obtain ⟨a1, a2⟩ := hF.l0.resolve_left (h1.resolve_left (by omega))
    have b := n2_le t q0 a1 a2
    show 0 ≤ 60 * (n2 t q0 : Int) ∧ 60 * (n2 t q0 : Int) ≤ 1000000
    omega
  | k + 2 =>
    obtain ⟨a1, a2⟩ := hF.l0.resolve_left (h1.resolve_left (by omega))
    have b := n2_le t q0 a1 a2
    obtain ⟨a3, a4⟩ := hF.l1.resolve_left (h2.resolve_left (by omega))
    have b2 := n2_le t q1 a3 a4
    show 0 ≤ 60 * (n2 t q0 : Int) + (n2 t q1 : Int) ∧ 60 * (n2 t q0 : Int) + (n2 t q1 : Int) ≤ 1000000
    omega
theorem refusedZ (t : ByteArray) (ht : t.size ≤ 64) (q0 q1 : Nat) (hF : ZnF t q0 q1) (sb pb : Nat) (W : World) (hI : IBox W sb 0) (hP : W.heap[pb]? = some (ptZ sb)) (hpb : pb ≠ sb) :
    Calls Tryz.prog 37 #[.string t, .slice (some ⟨pb, 0, none⟩) 2 2] W fun e w' => e = .returned (.int .i64 (rg t.size (sel3 q0 q1 q1) (znB t q0 q1) 2 0).1) ∧ SBx W sb (znN t q0 q1) (rg t.size (sel3 q0 q1 q1) (znB t q0 q1) 2 0).2 w' := by
  have hlt : sb < W.heap.size := hI.facts.2.2
  have hcell : ∀ (k : Nat) (w : World), SBx W sb (znN t q0 q1) k w → w.heap[pb]? = some (ptZ sb) := fun k w h => (h.1.block pb (Array.getElem?_eq_some_iff.1 hP).1 (fun e => hpb (by cases e; rfl))).trans hP
  exact refused_any t ht 2 pb (fun _ => 2) (sel3 61 62 62) (sel3 q0 q1 q1) (sel3 #[.pointer (some ⟨sb, 0, none⟩)] #[.pointer (some ⟨sb, 0, none⟩)] #[.pointer (some ⟨sb, 0, none⟩)])
    (znB t q0 q1) (SBx W sb (znN t q0 q1)) W.heap.size (by omega)
    (fun k => match k with
      | 0 => eg_of Tryz.func61 (by kernel_rfl) rfl
      | 1 => eg_of Tryz.func62 (by kernel_rfl) rfl
      | _ + 2 => eg_of Tryz.func62 (by kernel_rfl) rfl)
    (fun k w w' h hb => h.stable hb) (fun k w h => h.1.size)
    (fun k j w hj h => by
      have hp := hcell k w h
      match j, hj with
      | 0, _ => exact ⟨by rw [Lib.cell_of_heap hp]; rfl, by rw [Lib.cell_of_heap hp]; rfl⟩
      | 1, _ => exact ⟨by rw [Lib.cell_of_heap hp]; rfl, by rw [Lib.cell_of_heap hp]; rfl⟩)
    hF.h0 (fun k hk hne => by
      match k, hk with
      | 0, _ => exact hF.h1 hne)
    (fun k hk => by
      match k, hk with
      | 0, _ => exact hF.l0.imp id fun h => ⟨h.1, by decide, by decide, h.2⟩
      | 1, _ => exact hF.l1.imp id fun h => ⟨h.1, by decide, by decide, h.2⟩)
    (fun k wx hk hne2 h => by
      match k, hk with
      | 0, _ =>
        obtain ⟨a1, a2⟩ := hF.l0.resolve_left hne2
        exact zlo1_any W wx sb (n2 t q0) (n2_le t q0 a1 a2) (znN t q0 q1) rfl hlt h
      | 1, _ =>
        have hq0 : q0 ≠ t.size := fun e => hne2 (hF.h01 e)
        obtain ⟨a3, a4⟩ := hF.l1.resolve_left hne2
        exact zlo2_any W wx sb (n2 t q1) (n2_le t q1 a3 a4) (znN t q0 q1) (znN_in t q0 q1 hF 1 (.inr hq0) (.inl (Nat.le_refl _))) rfl hlt h)
    W (SBx.start hI)
/-- how far the parts of a zone are asked -/
theorem rgZ_in (t : ByteArray) (q0 q1 : Nat) (hF : ZnF t q0 q1) : 0 ≤ znN t q0 q1 (rg t.size (sel3 q0 q1 q1) (znB t q0 q1) 2 0).2 ∧ znN t q0 q1 (rg t.size (sel3 q0 q1 q1) (znB t q0 q1) 2 0).2 ≤ 1000000 := by
  by_cases e0 : q0 = t.size
  · rw [rg_end (k := 0) (show sel3 q0 q1 q1 0 = t.size from e0)]
    exact znN_in t q0 q1 hF 0 (.inl rfl) (.inl (by omega))
  have n0 : sel3 q0 q1 q1 0 ≠ t.size := e0
  cases hb0 : znB t q0 q1 0
  · rw [rg_no n0 hb0]
    exact znN_in t q0 q1 hF 1 (.inr e0) (.inl (Nat.le_refl _))
  rw [rg_yes n0 hb0]
  by_cases e1 : q1 = t.size
  · rw [rg_end (k := 0 + 1) (show sel3 q0 q1 q1 1 = t.size from e1)]
    exact znN_in t q0 q1 hF 1 (.inr e0) (.inl (Nat.le_refl _))
  have n1 : sel3 q0 q1 q1 (0 + 1) ≠ t.size := e1
  cases hb1 : znB t q0 q1 (0 + 1)
  · rw [rg_no n1 hb1]
    exact znN_in t q0 q1 hF 2 (.inr e0) (.inr e1)
  rw [rg_yes n1 hb1]
  exact znN_in t q0 q1 hF 2 (.inr e0) (.inr e1)
set_option maxHeartbeats 1000000 in
theorem readZone_noP (t : ByteArray) (ht : t.size ≤ 64) (p : Nat) (hf : fitL t.data.toList (SS ZP) 0 0 = (-1, p)) (w : World) :
    Calls Tryz.prog 27 #[.string t, .bool false] w fun e w' => e = .returned (tup (0, 33, (p : Int))) ∧ Below w.heap.size w w' := by
  have hmf : ∀ (fn : Fn) (first cap : Array Value) (w : World), (Instr.makeFunc fn first cap).run Tryz.prog w = .ok (.func fn first cap) w := fun _ _ _ _ => rfl
  obtain ⟨W, hW⟩ : ∃ W, w.alloc zpO = W := ⟨_, rfl⟩
  have zW : W.heap.size = w.heap.size + 1 := by rw [← hW]; simp
  have BW : Below w.heap.size w W := by rw [← hW]; exact (Below.refl _ _).alloc (Nat.le_refl _) _
  have SW : W.heap[w.heap.size]? = some zpO := by
    have h := heap_alloc_new (w) zpO
    rw [hW] at h
    skip
    exact h
  have HF := hid (fit_any t ht ZP ZP_small (by decide) (w.heap.size) W (ShB.zpO SW))
  rw [hf] at HF
  have HW := hid hW
  have HB := hid BW
  unfold ZP at HF
  clear hf hW SW BW
  go_enter Tryz.func27, Tryz.ntmps27
  go_wp2_with fail
  try rw [HW.out]
  refine HF.out.mono ?_
  rintro e wd ⟨rfl, nq, hwd⟩
  have bd : Below W.heap.size W wd := by rw [hwd]; exact below_drewN (Below.refl _ _) nq
  have BD := hid (HB.out.trans (bd.mono (by omega)))
  have zd : wd.heap.size = w.heap.size + 1 := by rw [hwd]; simpa using zW
  clear hwd bd HF HW HB nq zW
  have hneg : (-1 : Int) < 0 := by decide
  go_wp2
  go_ret3
  exact ⟨rfl, BD.out⟩
set_option maxHeartbeats 1000000 in
theorem readZone_yesP (t : ByteArray) (ht : t.size ≤ 64) (h1 : 1 ≤ t.size) (q0 q1 : Nat) (hF : ZnF t q0 q1) (k q : Nat) (hf : fitL t.data.toList (SS ZP) 0 0 = ((k : Int), q)) (w : World) :
    Calls Tryz.prog 27 #[.string t, .bool false] w fun e w' => e = .returned (tup (znP t q0 q1)) ∧ Below w.heap.size w w' := by
  have hmf : ∀ (fn : Fn) (first cap : Array Value) (w : World), (Instr.makeFunc fn first cap).run Tryz.prog w = .ok (.func fn first cap) w := fun _ _ _ _ => rfl
  obtain ⟨W, hW⟩ : ∃ W, w.alloc zpO = W := ⟨_, rfl⟩
  have zW : W.heap.size = w.heap.size + 1 := by rw [← hW]; simp
  have BW : Below w.heap.size w W := by rw [← hW]; exact (Below.refl _ _).alloc (Nat.le_refl _) _
  have SW : W.heap[w.heap.size]? = some zpO := by
    have h := heap_alloc_new (w) zpO
    rw [hW] at h
    skip
    exact h
  have HF := hid (fit_any t ht ZP ZP_small (by decide) (w.heap.size) W (ShB.zpO SW))
  rw [hf] at HF
  have HW := hid hW
  have HB := hid BW
  unfold ZP at HF
  have hin := rgZ_in t q0 q1 hF
  obtain ⟨c, hc⟩ : ∃ c, t[0]'(by omega) = c := ⟨_, rfl⟩
  have hc0 : t.data.toList[0]? = some c := by rw [← hc, List.getElem?_eq_getElem (by rw [Array.length_toList]; exact h1)]; exact congrArg some (byte_at t 0 h1)
  unfold znP tup
  rw [hc0]
  obtain ⟨r, hr0⟩ : ∃ r, rg t.size (sel3 q0 q1 q1) (znB t q0 q1) 2 0 = r := ⟨_, rfl⟩
  obtain ⟨v, hv0⟩ : ∃ v, znN t q0 q1 = v := ⟨_, rfl⟩
  rw [hr0, hv0] at hin ⊢
  have Hr := hid hr0
  have Hv := hid hv0
  obtain ⟨A, hA⟩ : ∃ A : Int × Int × Int, (if 0 ≤ r.1 then ((0 : Int), (33 : Int), r.1) else if some c ≠ some 45 then (v r.2, 0, 0) else if v r.2 = 0 then (0, 33, 0) else (-(v r.2), 0, 0)) = A := ⟨_, rfl⟩
  have HA1 := hid (show 0 ≤ r.1 → A = (0, 33, r.1) from fun h => by rw [← hA, if_pos h])
  have HA2 := hid (show r.1 < 0 → c ≠ 45 → A = (v r.2, 0, 0) from fun h k => by rw [← hA, if_neg (by omega), if_pos (by simp [k])])
  have HA3 := hid (show r.1 < 0 → c = 45 → v r.2 = 0 → A = (0, 33, 0) from fun h k l => by rw [← hA, if_neg (by omega), if_neg (by simp [k]), if_pos l])
  have HA4 := hid (show r.1 < 0 → c = 45 → v r.2 ≠ 0 → A = (-(v r.2), 0, 0) from fun h k l => by rw [← hA, if_neg (by omega), if_neg (by simp [k]), if_neg l])
  rw [hA]
  clear hr0 hv0 hc0 hA
  clear hf hW SW BW
  go_enter Tryz.func27, Tryz.ntmps27
  go_wp2_with fail
  try rw [HW.out]
  refine HF.out.mono ?_
  rintro e wd ⟨rfl, nq, hwd⟩
  have bd : Below W.heap.size W wd := by rw [hwd]; exact below_drewN (Below.refl _ _) nq
  have BD := hid (HB.out.trans (bd.mono (by omega)))
  have zd : wd.heap.size = w.heap.size + 1 := by rw [hwd]; simpa using zW
  clear hwd bd HF HW HB nq zW
  obtain ⟨W5, hW5⟩ : ∃ W5, (wd.alloc zI).alloc (ptZ wd.heap.size) = W5 := ⟨_, rfl⟩
  have b1 : Below wd.heap.size wd (wd.alloc zI) := (Below.refl _ _).alloc (Nat.le_refl _) _
  have b2 : Below (wd.alloc zI).heap.size (wd.alloc zI) W5 := by rw [← hW5]; exact (Below.refl _ _).alloc (Nat.le_refl _) _
  have I5 : IBox W5 wd.heap.size 0 := (show IBox (wd.alloc zI) wd.heap.size 0 from heap_alloc_new _ _).later b2
  have P5 : W5.heap[wd.heap.size + 1]? = some (ptZ wd.heap.size) := by
    have h := heap_alloc_new (wd.alloc zI) (ptZ wd.heap.size)
    rw [hW5] at h
    simpa using h
  have B5 := hid ((BD.out.trans (b1.mono (by omega))).trans (b2.mono (by simp; omega)))
  have HR := hid (refusedZ t ht q0 q1 hF wd.heap.size (wd.heap.size + 1) W5 I5 P5 (by omega))
  rw [Hr.out, Hv.out] at HR
  have HW5 := hid hW5
  have zle : w.heap.size ≤ wd.heap.size := by omega
  have hk : ¬ ((k : Nat) : Int) < 0 := by omega
  clear b1 b2 I5 P5 hW5 hF BD zd
  go_wp2_with fail
  try rw [HW5.out]
  refine HR.out.mono ?_
  rintro e w6 ⟨rfl, hs⟩
  obtain ⟨c6, _, _⟩ := hs.2.facts
  have B6 := hid (show Below w.heap.size w w6 from ⟨hs.1.os.trans B5.out.os, hs.1.tape.trans B5.out.tape, hs.1.output.trans B5.out.output, Nat.le_trans B5.out.size hs.1.size, fun j hj => (hs.1.block j (Nat.lt_of_lt_of_le hj B5.out.size) (fun e => by cases e; omega)).trans (B5.out.block j hj)⟩)
  clear hs HR HW5 Hr Hv
  have h0 : 0 ≤ v r.2 ∧ v r.2 ≤ 1000000 := hin
  by_cases hr : 0 ≤ r.1
  · go_wp2
    go_ret3
    exact ⟨by rw [HA1.out hr]; rfl, B6.out⟩
  · have hr' : r.1 < 0 := by omega
    by_cases h45 : c = 45
    · have E3 := hid (HA3.out hr' h45)
      have E4 := hid (HA4.out hr' h45)
      clear HA1 HA2 HA3 HA4
      subst h45
      by_cases hm : v r.2 = 0
      · have E := hid (E3.out hm)
        go_wp2
        go_ret3
        exact ⟨by rw [E.out]; rfl, B6.out⟩
      · have E := hid (E4.out hm)
        go_wp2
        go_ret3
        exact ⟨by rw [E.out]; rfl, B6.out⟩
    · have hcn : ¬ (c.toNat : Int) = 45 := fun e => h45 (UInt8.toNat_inj.1 (by show c.toNat = 45; omega))
      have E := hid (HA2.out hr' h45)
      go_wp2
      go_ret3
      exact ⟨by rw [E.out]; rfl, B6.out⟩
set_option maxHeartbeats 1000000 in
theorem readZone_noE (t : ByteArray) (ht : t.size ≤ 64) (p : Nat) (hf : fitL t.data.toList (SS ZE) 0 0 = (-1, p)) (w : World) :
    Calls Tryz.prog 27 #[.string t, .bool true] w fun e w' => e = .returned (tup (0, 33, (p : Int))) ∧ Below w.heap.size w w' := by
  have hmf : ∀ (fn : Fn) (first cap : Array Value) (w : World), (Instr.makeFunc fn first cap).run Tryz.prog w = .ok (.func fn first cap) w := fun _ _ _ _ => rfl
  obtain ⟨W, hW⟩ : ∃ W, (w.alloc zpO).alloc zeO = W := ⟨_, rfl⟩
  have zW : W.heap.size = w.heap.size + 2 := by rw [← hW]; simp
  have BW : Below w.heap.size w W := by rw [← hW]; exact ((Below.refl _ _).alloc (Nat.le_refl _) _).alloc (by simp) _
  have SW : W.heap[w.heap.size + 1]? = some zeO := by
    have h := heap_alloc_new (w.alloc zpO) zeO
    rw [hW] at h
    simp at h
    exact h
  have HF := hid (fit_any t ht ZE ZE_small (by decide) (w.heap.size + 1) W (ShB.zeO SW))
  rw [hf] at HF
  have HW := hid hW
  have HB := hid BW
  unfold ZE at HF
  clear hf hW SW BW
  go_enter Tryz.func27, Tryz.ntmps27
  go_wp2_with fail
  try rw [HW.out]
  refine HF.out.mono ?_
  rintro e wd ⟨rfl, nq, hwd⟩
  have bd : Below W.heap.size W wd := by rw [hwd]; exact below_drewN (Below.refl _ _) nq
  have BD := hid (HB.out.trans (bd.mono (by omega)))
  have zd : wd.heap.size = w.heap.size + 2 := by rw [hwd]; simpa using zW
  clear hwd bd HF HW HB nq zW
  have hneg : (-1 : Int) < 0 := by decide
  go_wp2
  go_ret3
  exact ⟨rfl, BD.out⟩
set_option maxHeartbeats 1000000 in
theorem readZone_yesE (t : ByteArray) (ht : t.size ≤ 64) (h1 : 1 ≤ t.size) (q0 q1 : Nat) (hF : ZnF t q0 q1) (k q : Nat) (hf : fitL t.data.toList (SS ZE) 0 0 = ((k : Int), q)) (w : World) :
    Calls Tryz.prog 27 #[.string t, .bool true] w fun e w' => e = .returned (tup (znP t q0 q1)) ∧ Below w.heap.size w w' := by
  have hmf : ∀ (fn : Fn) (first cap : Array Value) (w : World), (Instr.makeFunc fn first cap).run Tryz.prog w = .ok (.func fn first cap) w := fun _ _ _ _ => rfl
  obtain ⟨W, hW⟩ : ∃ W, (w.alloc zpO).alloc zeO = W := ⟨_, rfl⟩
  have zW : W.heap.size = w.heap.size + 2 := by rw [← hW]; simp
  have BW : Below w.heap.size w W := by rw [← hW]; exact ((Below.refl _ _).alloc (Nat.le_refl _) _).alloc (by simp) _
  have SW : W.heap[w.heap.size + 1]? = some zeO := by
    have h := heap_alloc_new (w.alloc zpO) zeO
    rw [hW] at h
    simp at h
    exact h
  have HF := hid (fit_any t ht ZE ZE_small (by decide) (w.heap.size + 1) W (ShB.zeO SW))
  rw [hf] at HF
  have HW := hid hW
  have HB := hid BW
  unfold ZE at HF
  have hin := rgZ_in t q0 q1 hF
  obtain ⟨c, hc⟩ : ∃ c, t[0]'(by omega) = c := ⟨_, rfl⟩
  have hc0 : t.data.toList[0]? = some c := by rw [← hc, List.getElem?_eq_getElem (by rw [Array.length_toList]; exact h1)]; exact congrArg some (byte_at t 0 h1)
  unfold znP tup
  rw [hc0]
  obtain ⟨r, hr0⟩ : ∃ r, rg t.size (sel3 q0 q1 q1) (znB t q0 q1) 2 0 = r := ⟨_, rfl⟩
  obtain ⟨v, hv0⟩ : ∃ v, znN t q0 q1 = v := ⟨_, rfl⟩
  rw [hr0, hv0] at hin ⊢
  have Hr := hid hr0
  have Hv := hid hv0
  obtain ⟨A, hA⟩ : ∃ A : Int × Int × Int, (if 0 ≤ r.1 then ((0 : Int), (33 : Int), r.1) else if some c ≠ some 45 then (v r.2, 0, 0) else if v r.2 = 0 then (0, 33, 0) else (-(v r.2), 0, 0)) = A := ⟨_, rfl⟩
  have HA1 := hid (show 0 ≤ r.1 → A = (0, 33, r.1) from fun h => by rw [← hA, if_pos h])
  have HA2 := hid (show r.1 < 0 → c ≠ 45 → A = (v r.2, 0, 0) from fun h k => by rw [← hA, if_neg (by omega), if_pos (by simp [k])])
  have HA3 := hid (show r.1 < 0 → c = 45 → v r.2 = 0 → A = (0, 33, 0) from fun h k l => by rw [← hA, if_neg (by omega), if_neg (by simp [k]), if_pos l])
  have HA4 := hid (show r.1 < 0 → c = 45 → v r.2 ≠ 0 → A = (-(v r.2), 0, 0) from fun h k l => by rw [← hA, if_neg (by omega), if_neg (by simp [k]), if_neg l])
  rw [hA]
  clear hr0 hv0 hc0 hA
  clear hf hW SW BW
  go_enter Tryz.func27, Tryz.ntmps27
  go_wp2_with fail
  try rw [HW.out]
  refine HF.out.mono ?_
  rintro e wd ⟨rfl, nq, hwd⟩
  have bd : Below W.heap.size W wd := by rw [hwd]; exact below_drewN (Below.refl _ _) nq
  have BD := hid (HB.out.trans (bd.mono (by omega)))
  have zd : wd.heap.size = w.heap.size + 2 := by rw [hwd]; simpa using zW
  clear hwd bd HF HW HB nq zW
  obtain ⟨W5, hW5⟩ : ∃ W5, (wd.alloc zI).alloc (ptZ wd.heap.size) = W5 := ⟨_, rfl⟩
  have b1 : Below wd.heap.size wd (wd.alloc zI) := (Below.refl _ _).alloc (Nat.le_refl _) _
  have b2 : Below (wd.alloc zI).heap.size (wd.alloc zI) W5 := by rw [← hW5]; exact (Below.refl _ _).alloc (Nat.le_refl _) _
  have I5 : IBox W5 wd.heap.size 0 := (show IBox (wd.alloc zI) wd.heap.size 0 from heap_alloc_new _ _).later b2
  have P5 : W5.heap[wd.heap.size + 1]? = some (ptZ wd.heap.size) := by
    have h := heap_alloc_new (wd.alloc zI) (ptZ wd.heap.size)
    rw [hW5] at h
    simpa using h
  have B5 := hid ((BD.out.trans (b1.mono (by omega))).trans (b2.mono (by simp; omega)))
  have HR := hid (refusedZ t ht q0 q1 hF wd.heap.size (wd.heap.size + 1) W5 I5 P5 (by omega))
  rw [Hr.out, Hv.out] at HR
  have HW5 := hid hW5
  have zle : w.heap.size ≤ wd.heap.size := by omega
  have hk : ¬ ((k : Nat) : Int) < 0 := by omega
  clear b1 b2 I5 P5 hW5 hF BD zd
  go_wp2_with fail
  try rw [HW5.out]
  refine HR.out.mono ?_
  rintro e w6 ⟨rfl, hs⟩
  obtain ⟨c6, _, _⟩ := hs.2.facts
  have B6 := hid (show Below w.heap.size w w6 from ⟨hs.1.os.trans B5.out.os, hs.1.tape.trans B5.out.tape, hs.1.output.trans B5.out.output, Nat.le_trans B5.out.size hs.1.size, fun j hj => (hs.1.block j (Nat.lt_of_lt_of_le hj B5.out.size) (fun e => by cases e; omega)).trans (B5.out.block j hj)⟩)
  clear hs HR HW5 Hr Hv
  have h0 : 0 ≤ v r.2 ∧ v r.2 ≤ 1000000 := hin
  by_cases hr : 0 ≤ r.1
  · go_wp2
    go_ret3
    exact ⟨by rw [HA1.out hr]; rfl, B6.out⟩
  · have hr' : r.1 < 0 := by omega
    by_cases h45 : c = 45
    · have E3 := hid (HA3.out hr' h45)
      have E4 := hid (HA4.out hr' h45)
      clear HA1 HA2 HA3 HA4
      subst h45
      by_cases hm : v r.2 = 0
      · have E := hid (E3.out hm)
        go_wp2
        go_ret3
        exact ⟨by rw [E.out]; rfl, B6.out⟩
      · have E := hid (E4.out hm)
        go_wp2
        go_ret3
        exact ⟨by rw [E.out]; rfl, B6.out⟩
    · have hcn : ¬ (c.toNat : Int) = 45 := fun e => h45 (UInt8.toNat_inj.1 (by show c.toNat = 45; omega))
      have E := hid (HA2.out hr' h45)
      go_wp2
      go_ret3
      exact ⟨by rw [E.out]; rfl, B6.out⟩
end Go.Proofs.YtjpglgemnaknhaaGreatDoor
