/-
  An element that says no day: element, on that road.
-/
import Derived.Test.YtcenlpfanikdnaaDoorAhead
import Derived.Test.YtcenlpfanikdnaaDoorClash
import Derived.Test.YtcenlpfanikdnaaDoorValueEnd
import Derived.Test.YtcenlpfanikdnaaDoorDay
namespace Go.Proofs.YtcenlpfanikdnaaDoor
open Go.RowKit
set_option maxRecDepth 100000

theorem peV_all (s : ByteArray) (h : s.size = 8) (hd : ∀ i (hi : i < s.size), 2 ≤ i → isDB (s[i]'hi) = true) : peV s.data.toList 2 6 = .tuple #[.int .i64 8, .int .i64 0, .int .i64 0] := by
  unfold peV
  rw [range_find_none (fun j hj => by rw [badAt_lt s (2 + j) (by omega), hd (2 + j) (by omega) (by omega)]; rfl)]
  rfl

set_option maxHeartbeats 4000000 in
theorem element_day (b : Nat) (s : ByteArray) (w : World) (hkn : HasKn w) (hs : s.size = 8) (c0 : w.cell? ⟨b, 0, none⟩ = some (.string s)) (c1 : w.cell? ⟨b, 1, none⟩ = some (.int .i64 0)) (c2 : w.cell? ⟨b, 2, none⟩ = some (.slice none 0 0))
    (ha : ahK s.data.toList = some ([49, 53], 3)) (hd : ∀ i (hi : i < s.size), 2 ≤ i → isDB (s[i]'hi) = true) (hno : ¬ DayOk (yy (s.extract 2 8).data.toList) (mm (s.extract 2 8).data.toList) (dd (s.extract 2 8).data.toList)) :
    Calls Tryd.prog 34 #[.pointer (some ⟨b, 0, none⟩)] w fun e w' => e = .returned (.tuple #[.int .i64 28, .int .i64 2]) ∧ Below w.heap.size w w' := by
  have hx : s.extract 0 s.size = s := ByteArray.extract_zero_size
  have hx8 : s.extract 0 8 = s := by rw [← hs]; exact hx
  have HA : Hid (_) := ahead_any s w hkn
  rw [show ahV s.data.toList = .tuple #[.agg #[.string ⟨#[49, 53]⟩, .int .i64 3], .int .i64 0] by unfold ahV; rw [ha]] at HA
  have HC : Hid (_) := fun wx => clash_any (.slice none 0 0) [] ⟨#[49, 53]⟩ wx (.inl ⟨rfl, none, 0, rfl, fun _ => rfl⟩) (by simp)
  rw [show clE [] (⟨#[49, 53]⟩ : ByteArray).data.toList = 0 by rfl] at HC
  have HV : Hid (_) := fun wx (h : wx.cell? ⟨b, 0, none⟩ = some (.string s)) => valueEnd_D b s 2 6 6 46 wx (by omega) (by omega) (by omega) h
  rw [peV_all s hs hd] at HV
  have HD : Hid (_) := fun wx => dayFault_any (s.extract 2 8) wx (by rw [ByteArray.size_extract]; omega)
  simp only [if_neg hno] at HD
  have HF : Hid (_) := fun wx => formOf_any 3 wx (by omega) (by omega)
  clear ha hd hno hkn
  go_enter Tryd.func34, Tryd.ntmps34
  go_wp2_with fail
  refine Calls.mono HA.out ?_
  rintro e w1 ⟨rfl, b1⟩
  have hz1 := b1.size
  have c01 := below_cells b1 _ _ c0
  have c21 := below_cells b1 _ _ c2
  clear c0 c1 c2
  obtain ⟨wA, hwA⟩ : ∃ wA, wA = w1.alloc (.cells #[.string ⟨#[49, 53]⟩, .int .i64 3] 87) := ⟨_, rfl⟩
  have bA : Below w1.heap.size w1 wA := hwA ▸ (Below.refl _ _).alloc (Nat.le_refl _) _
  have hnA : wA.heap[w1.heap.size]? = some (.cells #[.string ⟨#[49, 53]⟩, .int .i64 3] 87 (0, 0)) := hwA ▸ heap_alloc_new _ _
  have k0 : wA.cell? ⟨w1.heap.size, 0, none⟩ = some (.string ⟨#[49, 53]⟩) := by rw [Lib.cell_of_heap hnA]; rfl
  have k1 : wA.cell? ⟨w1.heap.size, 1, none⟩ = some (.int .i64 3) := by rw [Lib.cell_of_heap hnA]; rfl
  have cA0 := below_cells bA _ _ c01
  have cA2 := below_cells bA _ _ c21
  have B0 : Below w.heap.size w wA := b1.trans (bA.mono hz1)
  have hzA := B0.size
  have hzA1 : w1.heap.size < wA.heap.size := by rw [hwA]; simp
  have HB0 : Hid (_) := B0
  have HcA0 : Hid (_) := cA0
  have Hk1 : Hid (_) := k1
  have Hk0 : Hid (_) := k0
  clear B0 hnA bA
  go_upto_region 7 with fail
  rw [← hwA]
  clear hwA c01 c21 k1 cA0
  go_cut [7] from 6 to 48 (fun s7 wx => s7 = .int .i64 0 ∧ Below wA.heap.size wA wx)
  case first =>
    go_region_with ((go_at_call 51; refine (HC.out _).mono ?_; rintro e w3 ⟨rfl, s3⟩))
    all_goals
      go_wp2_with fail
      go_meet
      exact ⟨rfl, (Below.refl _ _).drew.trans s3⟩
  case rest =>
    obtain ⟨rfl, hbc⟩ := hcut
    have hzc := hbc.size
    have q0 := below_cells hbc _ _ Hk0.out
    have q1 := below_cells hbc _ _ Hk1.out
    have qb := below_cells hbc _ _ HcA0.out
    have Bc : Hid (_) := HB0.out.trans (hbc.mono hzA)
    have hzwc : w.heap.size ≤ wc.heap.size := Nat.le_trans hzA hzc
    clear hbc k0 cA2
    go_wp2_with fail
    refine (HF.out _).mono ?_
    rintro e w3 ⟨rfl, b3⟩
    have hz3 := b3.size
    have r0 := below_cells b3 _ _ q0
    have rb := below_cells b3 _ _ qb
    have B3 := Bc.out.trans (b3.mono hzwc)
    have hzw3 : w.heap.size ≤ w3.heap.size := Nat.le_trans hzwc hz3
    clear q0 q1 qb b3
    rw [show frmOf 3 = frm 6 6 true 48 46 from rfl]
    rw [show frm 6 6 true 48 46 = .agg #[.int .i64 6, .int .i64 6, .bool true, .func (.func 48) #[] #[], .func (.func 46) #[] #[]] from rfl]
    obtain ⟨wF, hwF⟩ : ∃ wF, wF = w3.alloc (.cells #[.int .i64 6, .int .i64 6, .bool true, .func (.func 48) #[] #[], .func (.func 46) #[] #[]] 64) := ⟨_, rfl⟩
    have bF : Below w3.heap.size w3 wF := hwF ▸ (Below.refl _ _).alloc (Nat.le_refl _) _
    have hnF : wF.heap[w3.heap.size]? = some (.cells #[.int .i64 6, .int .i64 6, .bool true, .func (.func 48) #[] #[], .func (.func 46) #[] #[]] 64 (0, 0)) := hwF ▸ heap_alloc_new _ _
    have f4 : wF.cell? ⟨w3.heap.size, 4, none⟩ = some (.func (.func 46) #[] #[]) := by rw [Lib.cell_of_heap hnF]; rfl
    have cF := below_cells bF _ _ rb
    have BF : Hid (_) := B3.trans (bF.mono hzw3)
    have hzF : w.heap.size ≤ wF.heap.size := Nat.le_trans hzw3 bF.size
    have HVF : Hid (_) := HV.out wF cF
    have Hf4 : Hid (_) := f4
    have HcF : Hid (_) := cF
    clear hnF bF f4 cF B3
    rw [hwF] at HVF
    rw [show frm 6 6 true 48 46 = .agg #[.int .i64 6, .int .i64 6, .bool true, .func (.func 48) #[] #[], .func (.func 46) #[] #[]] from rfl] at HVF
    have hlt13 : w1.heap.size < w3.heap.size := by omega
    have hne13 : ¬ w1.heap.size = w3.heap.size := by omega
    go_wp2_with fail
    refine Calls.mono HVF.out ?_
    rw [← hwF]
    rintro e w4 ⟨rfl, b4⟩
    clear HVF hwF r0 rb
    have m4 := below_cells b4 _ _ Hf4.out
    have mb := below_cells b4 _ _ HcF.out
    have hz4 := b4.size
    have B4 := BF.out.trans (b4.mono hzF)
    have hzw4 : w.heap.size ≤ w4.heap.size := Nat.le_trans hzF hz4
    clear b4
    go_wp2_with fail
    refine (HD.out _).mono ?_
    rintro e w5 ⟨rfl, b5⟩
    have B5 := B4.trans (b5.mono hzw4)
    have HB5 : Hid (_) := B5
    clear B4 b5 m4 mb B5
    go_wp2
    go_ret2
    exact ⟨rfl, HB5.out⟩
end Go.Proofs.YtcenlpfanikdnaaDoor
