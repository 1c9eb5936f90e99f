/-
  What stands in a list already: has, clash.
-/
import Derived.Test.YtpplkoilpblpkaaDoorElems
namespace Go.Proofs.YtpplkoilpblpkaaDoor
open Go.RowKit
set_option maxRecDepth 100000

def hsB (L : List El) (a : List UInt8) : Bool := decide (0 ≤ plc L a)
/-- what clash answers -/
def clE (L : List El) (a : List UInt8) : Int :=
  if hsB L a then 24 else if a = [48, 49] ∧ hsB L [48, 50] = true ∨ a = [48, 50] ∧ hsB L [48, 49] = true then 25 else 0

set_option maxHeartbeats 800000 in
theorem has_any (v : Value) (L : List El) (a : ByteArray) (w : World) (hr : RE w v L) (hl : L.length ≤ 9223372036854775807) :
    Calls Tryd.prog 32 #[v, .string a] w fun e w' => e = .returned (.bool (hsB L a.data.toList)) ∧ Below w.heap.size w w' := by
  have HI : Hid (_) := placeOf_any v L a w hr hl
  clear hr hl
  go_enter Tryd.func32, Tryd.ntmps32
  go_wp2_with fail
  refine Calls.mono HI.out ?_
  rintro e w1 ⟨rfl, hb1⟩
  go_wp2
  go_ret
  exact ⟨rfl, hb1⟩

set_option maxHeartbeats 4000000 in
theorem clash_any (v : Value) (L : List El) (a : ByteArray) (w : World) (hr : RE w v L) (hl : L.length ≤ 9223372036854775807) :
    Calls Tryd.prog 29 #[v, .string a] w fun e w' => e = .returned (.int .i64 (clE L a.data.toList)) ∧ Below w.heap.size w w' := by
  have HI : Hid (_) := has_any v L a w hr hl
  have HH : Hid (∀ b w1, Below w.heap.size w w1 → Calls Tryd.prog 32 #[v, .string b] w1 fun e w' => e = .returned (.bool (hsB L b.data.toList)) ∧ Below w1.heap.size w1 w') := fun b w1 h1 => has_any v L b w1 (hr.below h1) hl
  clear hr hl
  by_cases h0 : hsB L a.data.toList = true
  · rw [h0] at HI
    have HE : Hid (_) := (show clE L a.data.toList = 24 by unfold clE; rw [h0]; rfl)
    go_enter Tryd.func29, Tryd.ntmps29
    go_wp2_with fail
    refine Calls.mono HI.out ?_
    rintro e w1 ⟨rfl, hb1⟩
    go_wp2
    go_ret
    exact ⟨ret_int HE.out.symm, hb1⟩
  · rw [Bool.not_eq_true] at h0
    rw [h0] at HI
    by_cases h1 : a.data.toList = [48, 49]
    · have hq : (a.toList == [48, 49]) = true := by rw [ByteArray.toList_eq, h1]; rfl
      have hq2 : (a.toList == [48, 50]) = false := by rw [ByteArray.toList_eq, h1]; rfl
      have HE : Hid (_) := (show clE L a.data.toList = if hsB L [48, 50] = true then 25 else 0 by unfold clE; rw [h0, h1]; simp)
      clear h1 h0
      go_enter Tryd.func29, Tryd.ntmps29
      go_wp2_with fail
      refine Calls.mono HI.out ?_
      rintro e w1 ⟨rfl, hb1⟩
      have hz1 := hb1.size
      go_wp2_with fail
      refine Calls.mono (HH.out _ _ hb1) ?_
      rintro e w2 ⟨rfl, hb2⟩
      have hb := hb1.trans (hb2.mono hz1)
      have HB : Hid (_) := hb
      clear hb1 hb2 hz1 hb
      obtain ⟨t, ht⟩ : ∃ t, t = hsB L (⟨#[48, 50]⟩ : ByteArray).data.toList := ⟨_, rfl⟩
      rw [← ht]
      have HT : Hid (_) := ht
      clear ht
      cases t
      · go_wp2
        go_ret
        exact ⟨ret_int (by rw [HE.out, if_neg (by rw [show hsB L [48, 50] = false from HT.out.symm]; simp)]), HB.out⟩
      · go_wp2
        go_ret
        exact ⟨ret_int (by rw [HE.out, if_pos HT.out.symm]), HB.out⟩
    · have hq : (a.toList == [48, 49]) = false := by rw [ByteArray.toList_eq]; exact beq_eq_false_iff_ne.2 h1
      by_cases h2 : a.data.toList = [48, 50]
      · have hq2 : (a.toList == [48, 50]) = true := by rw [ByteArray.toList_eq, h2]; rfl
        have HE : Hid (_) := (show clE L a.data.toList = if hsB L [48, 49] = true then 25 else 0 by unfold clE; rw [h0, h2]; simp)
        clear h1 h0 h2
        go_enter Tryd.func29, Tryd.ntmps29
        go_wp2_with fail
        refine Calls.mono HI.out ?_
        rintro e w1 ⟨rfl, hb1⟩
        have hz1 := hb1.size
        go_wp2_with fail
        refine Calls.mono (HH.out _ _ hb1) ?_
        rintro e w2 ⟨rfl, hb2⟩
        have hb := hb1.trans (hb2.mono hz1)
        have HB : Hid (_) := hb
        clear hb1 hb2 hz1 hb
        obtain ⟨t, ht⟩ : ∃ t, t = hsB L (⟨#[48, 49]⟩ : ByteArray).data.toList := ⟨_, rfl⟩
        rw [← ht]
        have HT : Hid (_) := ht
        clear ht
        cases t
        · go_wp2
          go_ret
          exact ⟨ret_int (by rw [HE.out, if_neg (by rw [show hsB L [48, 49] = false from HT.out.symm]; simp)]), HB.out⟩
        · go_wp2
          go_ret
          exact ⟨ret_int (by rw [HE.out, if_pos HT.out.symm]), HB.out⟩
      · have hq2 : (a.toList == [48, 50]) = false := by rw [ByteArray.toList_eq]; exact beq_eq_false_iff_ne.2 h2
        have HE : Hid (_) := (show clE L a.data.toList = 0 by unfold clE; rw [h0, if_neg (by simp), if_neg (by rintro (⟨h, _⟩ | ⟨h, _⟩); exact h1 h; exact h2 h)])
        clear h1 h0 h2
        go_enter Tryd.func29, Tryd.ntmps29
        go_wp2_with fail
        refine Calls.mono HI.out ?_
        rintro e w1 ⟨rfl, hb1⟩
        go_wp2
        go_ret
        exact ⟨ret_int HE.out.symm, hb1⟩
end Go.Proofs.YtpplkoilpblpkaaDoor
