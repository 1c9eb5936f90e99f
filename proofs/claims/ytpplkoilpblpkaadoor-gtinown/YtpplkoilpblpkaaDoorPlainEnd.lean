/-
  Where a Value of known length ends: plainEnd.
-/
import Derived.Test.YtpplkoilpblpkaaDoorFaultsD
import Derived.Test.YtpplkoilpblpkaaDoorBytes
namespace Go.Proofs.YtpplkoilpblpkaaDoor
open Go.RowKit
set_option maxRecDepth 100000
set_option linter.unusedVariables false

def badAt (l : List UInt8) (i : Nat) : Bool := !((l[i]?.map isDB).getD false)
/-- what plainEnd answers -/
def peV (l : List UInt8) (fr most : Nat) : Value := match (List.range most).find? (fun j => badAt l (fr + j)) with
  | none => .tuple #[.int .i64 ((fr + most : Nat) : Int), .int .i64 0, .int .i64 0]
  | some j => if fr + j = l.length then .tuple #[.int .i64 0, .int .i64 3, .int .i64 (l.length : Int)] else .tuple #[.int .i64 0, .int .i64 20, .int .i64 ((fr + j : Nat) : Int)]

theorem range_find_none {p : Nat → Bool} {n : Nat} (h : ∀ j, j < n → p j = false) : (List.range n).find? p = none := by
  rw [List.find?_eq_none]
  intro x hx
  rw [h x (List.mem_range.1 hx)]
  simp
theorem range_find_some {p : Nat → Bool} {n k : Nat} (hk : k < n) (h : ∀ j, j < k → p j = false) (hp : p k = true) : (List.range n).find? p = some k := by
  rw [List.find?_eq_some_iff_getElem]
  refine ⟨hp, k, by simpa using hk, by simp, fun j hj => ?_⟩
  rw [List.getElem_range, h j hj]
  rfl
theorem badAt_lt (s : ByteArray) (i : Nat) (h : i < s.size) : badAt s.data.toList i = !(isDB (s[i]'h)) := by
  unfold badAt
  rw [List.getElem?_eq_getElem (by rw [len_list]; exact h), byte_list s i h]
  rfl
theorem badAt_end (s : ByteArray) (i : Nat) (h : i = s.size) : badAt s.data.toList i = true := by
  unfold badAt
  rw [List.getElem?_eq_none (by rw [len_list]; omega)]
  rfl

set_option maxHeartbeats 4000000 in
theorem plainEnd_D (s : ByteArray) (fr least most : Nat) (plain : Bool) (g : Nat) (w : World) (hs : s.size ≤ 1000000) (hf : fr ≤ s.size) (hm : most ≤ 1000) :
    Calls Tryd.prog 51 #[.string s, .int .i64 (fr : Int), frm least most plain 47 g] w fun e w' => e = .returned (peV s.data.toList fr most) ∧ Below w.heap.size w w' := by
  have HX : Hid (_) := (show ∀ wr : World, w.heap.size ≤ wr.heap.size → True from fun _ _ => trivial)
  unfold frm
  have hw0 : w.heap.size < (w.alloc (.cells #[.int .i64 (least : Int), .int .i64 (most : Int), .bool plain, .func (.func 47) #[] #[], .func (.func g) #[] #[]] 79)).heap.size := by simp
  go_enter Tryd.func51, Tryd.ntmps51
  go_wp2_with fail
  go_loopw [13] (fun i wr => ∃ k : Nat, k ≤ most ∧ i = .int .i64 (k : Int) ∧ Below w.heap.size w wr ∧ wr.heap[w.heap.size]? = some (.cells #[.int .i64 (least : Int), .int .i64 (most : Int), .bool plain, .func (.func 47) #[] #[], .func (.func g) #[] #[]] 79 (0, 0)) ∧ fr + k ≤ s.size ∧ ∀ j, j < k → badAt s.data.toList (fr + j) = false) (fun i _ => most - (intOf i).toNat)
  case atStart => exact ⟨0, by omega, rfl, (Below.refl _ _).alloc (Nat.le_refl _) _, heap_alloc_new _ _, by omega, fun j hj => by omega⟩
  case round =>
    obtain ⟨k, hk, rfl, hbl, hblk, hfk, hall⟩ := hrel
    have HA : Hid (_) := hall
    have HB : Hid (_) := hblk
    clear hall hw0 HX
    have hz := hbl.size
    have c1 : wr.cell? ⟨w.heap.size, 1, none⟩ = some (.int .i64 (most : Int)) := by rw [Lib.cell_of_heap hblk]; rfl
    have c3 : wr.cell? ⟨w.heap.size, 3, none⟩ = some (.func (.func 47) #[] #[]) := by rw [Lib.cell_of_heap hblk]; rfl
    clear hblk
    obtain ⟨p, hp⟩ : ∃ p : Nat, p = fr + k := ⟨_, rfl⟩
    have hwr : IntKind.i64.wrap ((fr : Int) + (k : Int)) = (p : Int) := by rw [IntKind.wrap_i64]; omega
    have hsm : (fr : Int) + (k : Int) = (p : Int) := by omega
    have HP : Hid (_) := hp
    clear hp
    by_cases hlt : k < most
    · have hltI : (k : Int) < (most : Int) := by omega
      have hpf := HP.out
      by_cases hend : p = s.size
      · have hendI : (p : Int) = (s.size : Int) := by omega
        clear hpf
        go_wp2
        go_ret3
        refine ⟨?_, hbl⟩
        unfold peV
        rw [range_find_some hlt HA.out (by rw [← HP.out]; exact badAt_end s _ hend)]
        show _ = Ending.returned (if fr + k = s.data.toList.length then _ else _)
        rw [if_pos (by rw [len_list, ← HP.out]; exact hend), len_list]
        rfl
      · have hendI : ¬ (p : Int) = (s.size : Int) := by omega
        have hin : p < s.size := by omega
        have hinI : (p : Int) < (s.size : Int) := by omega
        clear hpf
        by_cases hb : isDB (s[p]'hin) = true
        · have hbb : dF (s[p]'hin) = 0 := by unfold dF; rw [hb]; rfl
          go_wp2_with fail
          go_quiet ((go_at_call 47; exact Calls.quiet_of_same (digitFault_any _ _)))
          have hB1 := below_drewN hbl nq
          have hh1 : (wr.drewN nq).heap[w.heap.size]? = some (.cells #[.int .i64 (least : Int), .int .i64 (most : Int), .bool plain, .func (.func 47) #[] #[], .func (.func g) #[] #[]] 79 (0, 0)) := HB.out
          have HH1 : Hid (_) := hh1
          clear hh1 c1 c3
          go_wp2
          go_roundw
          case rel =>
            have hpf := HP.out
            refine ⟨k + 1, by omega, by go_num, hB1, HH1.out, by omega, fun j hj => ?_⟩
            by_cases e : j = k
            · subst e; rw [← hpf, badAt_lt s _ hin, hb]; rfl
            · exact HA.out j (by omega)
          case measure => simp [intOf]; omega
        · have hbb : dF (s[p]'hin) = 20 := by unfold dF; rw [Bool.not_eq_true] at hb; rw [hb]; rfl
          go_wp2_with fail
          go_quiet ((go_at_call 47; exact Calls.quiet_of_same (digitFault_any _ _)))
          have hB1 := below_drewN hbl nq
          clear c1 c3
          go_wp2
          go_ret3
          refine ⟨?_, hB1⟩
          unfold peV
          rw [range_find_some hlt HA.out (by rw [← HP.out, badAt_lt s _ hin]; rw [Bool.not_eq_true] at hb; rw [hb]; rfl)]
          show _ = Ending.returned (if fr + k = s.data.toList.length then _ else _)
          rw [if_neg (by rw [len_list, ← HP.out]; omega), ← HP.out]
          show Ending.returned (.tuple #[.int .i64 0, .int .i64 (dF (s[p]'hin)), .int .i64 (p : Int)]) = _
          rw [hbb]
    · have hkm : k = most := by omega
      have hltI : ¬ (k : Int) < (most : Int) := by omega
      have hpf := HP.out
      have hwm : IntKind.i64.wrap ((fr : Int) + (most : Int)) = (p : Int) := by rw [IntKind.wrap_i64]; omega
      have hsm2 : (fr : Int) + (most : Int) = (p : Int) := by omega
      clear hwr hsm hpf
      go_wp2
      go_ret3
      refine ⟨?_, hbl⟩
      unfold peV
      rw [range_find_none (fun j hj => HA.out j (by omega))]
      show _ = Ending.returned (.tuple #[.int .i64 ((fr + most : Nat) : Int), .int .i64 0, .int .i64 0])
      rw [← hkm, ← HP.out]
      rfl
end Go.Proofs.YtpplkoilpblpkaaDoor
