/-
  Values that are grown: within, stock, value.
-/
import Derived.Test.YtpplkoilpblpkaaDoorFwd
import Derived.Lib.Strings
namespace Go.Proofs.YtpplkoilpblpkaaDoor
open Go.RowKit
set_option maxRecDepth 100000

theorem within_neg (n d : Int) (hd : 0 < d) (h : n.tmod d < 0) : n.tmod d + d = n % d := by
  have h1 := Int.mul_tdiv_add_tmod n d
  have h2 := Int.lt_tmod_of_pos n hd
  have h3 : n = (n.tmod d + d) + d * (n.tdiv d - 1) := by
    rw [Int.mul_sub, Int.mul_one]
    omega
  have h4 : n % d = (n.tmod d + d) % d := by
    conv => lhs; rw [h3]
    rw [Int.add_mul_emod_self_left]
  rw [h4, Int.emod_eq_of_lt (by omega) (by omega)]

theorem within_pos (n d : Int) (hd : 0 < d) (h : ¬ n.tmod d < 0) : n.tmod d = n % d := by
  have h1 := Int.mul_tdiv_add_tmod n d
  have h2 := Int.tmod_lt_of_pos n hd
  have h3 : n = n.tmod d + d * n.tdiv d := by omega
  have h4 : n % d = (n.tmod d) % d := by
    conv => lhs; rw [h3]
    rw [Int.add_mul_emod_self_left]
  rw [h4, Int.emod_eq_of_lt (by omega) (by omega)]

theorem within_any (n m : Int) (w : World) (h0 : 0 ≤ m) (h1 : m < 1000000) :
    Calls Tryd.prog 26 #[.int .i64 n, .int .i64 m] w fun e w' => e = .returned (.int .i64 (n % (m + 1))) ∧ w' = w := by
  have hlt := Int.tmod_lt_of_pos n (show 0 < m + 1 by omega)
  have hgt := Int.lt_tmod_of_pos n (show 0 < m + 1 by omega)
  have hne : ¬ m + 1 = 0 := by omega
  by_cases h : n.tmod (m + 1) < 0
  · have e := within_neg n (m + 1) (by omega) h
    have HE : Hid (_) := e
    clear e
    go_enter Tryd.func26, Tryd.ntmps26
    go_wp2
    go_ret
    exact ⟨ret_int (by have := HE.out; omega), rfl⟩
  · have e := within_pos n (m + 1) (by omega) h
    have HE : Hid (_) := e
    clear e
    go_enter Tryd.func26, Tryd.ntmps26
    go_wp2
    go_ret
    exact ⟨ret_int (by have := HE.out; omega), rfl⟩

theorem allD_snoc {l : List UInt8} {c : UInt8} (h : AllD l) (hc : IsD c) : AllD (l ++ [c]) := by
  intro x hx
  rcases List.mem_append.1 hx with hx | hx
  · exact h x hx
  · rw [List.mem_singleton.1 hx]; exact hc

theorem allD_nil : AllD (⟨#[]⟩ : ByteArray).data.toList := by
  intro c hc
  simp at hc

def dc (z : Nat) : UInt8 := UInt8.ofNat (48 + z % 10)
theorem dc_toNat (z : Nat) : (dc z).toNat = 48 + z % 10 := by
  unfold dc
  rw [UInt8.toNat_ofNat']
  omega
theorem dc_digit (z : Nat) : IsD (dc z) := by
  unfold IsD
  rw [dc_toNat]
  omega

theorem fo_neg_iff (l : List UInt8) : ¬ 0 ≤ fo l ↔ AllD l := by
  rcases fo_cases l with ⟨a, b⟩ | ⟨j, hj, a, b⟩
  · rw [b]; exact ⟨fun _ => a, fun _ => by omega⟩
  · rw [b]; exact ⟨fun h => absurd (Int.natCast_nonneg j) h, fun h => absurd h a⟩
theorem Reads.here {w : World} {v : Value} {l : List UInt8} (h : Reads w v l) (hl : 0 < l.length) : ∃ b off cap, v = .slice (some ⟨b, off, none⟩) l.length cap ∧ l.length ≤ cap ∧ ∀ j (hj : j < l.length), w.cell? ⟨b, off + j, none⟩ = some (.int .u8 (l[j].toNat : Int)) := by
  rcases h with ⟨rfl, _⟩ | h
  · simp at hl
  · exact h
/-- a Value that may be, and is short -/
def VOk (k : Int) (x : ByteArray) : Prop := fltK k x.data.toList = 0 ∧ x.size ≤ 19
theorem flt_code {n : Nat} {l : List UInt8} (h : l.length = n) (ha : AllD l) (hs : sm l % 10 = 0) : fltE n n dF (cF l).1 l = 0 := by
  unfold fltE cF
  rw [if_neg (by omega), if_neg (by omega), if_neg (by rw [(byF_zero l).2 ha]; simp), if_pos hs]
theorem flt_dig {lo hi : Nat} {l : List UInt8} (h : lo ≤ l.length ∧ l.length ≤ hi) (ha : AllD l) : fltE lo hi dF 0 l = 0 := by
  unfold fltE
  rw [if_neg (by omega), if_neg (by omega), if_neg (by rw [(byF_zero l).2 ha]; simp)]
theorem flt_chr {lo hi : Nat} {l : List UInt8} (h : lo ≤ l.length ∧ l.length ≤ hi) (ha : ∀ c ∈ l, chF c = 0) : fltE lo hi chF 0 l = 0 := by
  unfold fltE
  rw [if_neg (by omega), if_neg (by omega), if_neg (by rw [byF_none ha]; simp)]

set_option maxHeartbeats 4000000 in
theorem value_0 (v : Value) (l : List UInt8) (w : World) (hr : Reads w v l) (hlen : l.length ≤ 9223372036854775807) :
    Calls Tryd.prog 13 #[.string ⟨#[48, 48]⟩, .int .i64 18, v] w fun e w' => ∃ x : ByteArray, e = .returned (.tuple #[.string x, .bool true]) ∧ VOk 0 x ∧ Below w.heap.size w w' := by
  have HL := hid hlen
  obtain ⟨ao, cap, rfl⟩ := hr.form
  have HR := hid hr
  clear hr hlen
  go_enter Tryd.func13, Tryd.ntmps13
  go_wp2_with fail
  go_loopw [8, 9] (fun t i wr => ∃ (k : Nat) (tb : ByteArray), t = .string tb ∧ i = .int .i64 (k : Int) ∧ k ≤ 17 ∧ tb.size = k ∧ AllD tb.data.toList ∧ Below w.heap.size w wr) (fun _ i _ => 17 - (intOf i).toNat)
  case atStart => exact ⟨0, ⟨#[]⟩, rfl, rfl, Nat.zero_le _, rfl, allD_nil, Below.refl _ _⟩
  case round =>
    obtain ⟨k, tb, rfl, rfl, hk, hsz, hall, hbl⟩ := hrel
    have hz := hbl.size
    by_cases hlt : k < 17
    · by_cases hin : k < l.length
      · obtain ⟨b, off, cap', hv, hcap, hcell⟩ := HR.out.here (by omega)
        cases hv
        have hc := below_cells hbl _ _ (hcell k hin)
        have hu : (48 + (l[k].toNat : Int) % 10) = ((dc l[k].toNat).toNat : Int) := by rw [dc_toNat]; omega
        have kc := run_one wr _ _ hu
        have hsn : (tb ++ (⟨#[dc l[k].toNat]⟩ : ByteArray)).size = tb.size + 1 := by simp [ByteArray.size_append]; rfl
        have hda : AllD (tb ++ (⟨#[dc l[k].toNat]⟩ : ByteArray)).data.toList := by
          rw [ByteArray.data_append, Array.toList_append]
          exact allD_snoc hall (dc_digit _)
        have HX : Hid (_) := And.intro hsn hda
        have hl2 := HL.out
        clear hu hsn hda hall hcell
        go_wp2
        go_roundw
        case rel => exact ⟨k + 1, _, rfl, by go_num, by omega, by rw [HX.out.1, hsz], HX.out.2, hbl.alloc hz _⟩
        case measure => simp [intOf]; omega
      · have hinI : ¬ (k : Int) < (l.length : Int) := by omega
        have hu : (48 : Int) = ((dc 0).toNat : Int) := by rw [dc_toNat]; rfl
        have kc := run_one wr _ _ hu
        have hsn : (tb ++ (⟨#[dc 0]⟩ : ByteArray)).size = tb.size + 1 := by simp [ByteArray.size_append]; rfl
        have hda : AllD (tb ++ (⟨#[dc 0]⟩ : ByteArray)).data.toList := by
          rw [ByteArray.data_append, Array.toList_append]
          exact allD_snoc hall (dc_digit 0)
        have HX : Hid (_) := And.intro hsn hda
        clear hu hsn hda hall
        go_wp2
        go_roundw
        case rel => exact ⟨k + 1, _, rfl, by go_num, by omega, by rw [HX.out.1, hsz], HX.out.2, hbl.alloc hz _⟩
        case measure => simp [intOf]; omega
    · have hkN : k = 17 := by omega
      have hl := len_list tb
      have HD := hid (digit_any tb wr (by omega))
      rw [digV_ok (by omega) (by omega) ((fo_neg_iff _).2 hall)] at HD
      have kc := run_one wr _ (ck tb.data.toList) rfl
      have hsn : (tb ++ (⟨#[ck tb.data.toList]⟩ : ByteArray)).size = tb.size + 1 := by simp [ByteArray.size_append]; rfl
      have hda : (tb ++ (⟨#[ck tb.data.toList]⟩ : ByteArray)).data.toList = tb.data.toList ++ [ck tb.data.toList] := by rw [ByteArray.data_append, Array.toList_append]
      have hok : VOk 0 (tb ++ (⟨#[ck tb.data.toList]⟩ : ByteArray)) := by
        refine ⟨?_, by omega⟩
        rw [hda]
        exact flt_code (n := 18) (by rw [List.length_append, hl]; simp; omega) (allD_snoc hall (ck_digit _)) (sm_ck_self _)
      have HX := hid hok
      clear hok hsn hda hall
      generalize ck tb.data.toList = c at HD kc HX
      go_wp2_with fail
      refine Calls.mono HD.out ?_
      rintro e w' ⟨rfl, hwz⟩
      have hws := hwz.symm
      clear hwz HD
      subst hws
      go_wp2
      go_ret2
      exact ⟨_, rfl, HX.out, hbl.alloc hz _⟩

set_option maxHeartbeats 4000000 in
theorem value_1 (v : Value) (l : List UInt8) (w : World) (hr : Reads w v l) (hlen : l.length ≤ 9223372036854775807) :
    Calls Tryd.prog 13 #[.string ⟨#[48, 49]⟩, .int .i64 14, v] w fun e w' => ∃ x : ByteArray, e = .returned (.tuple #[.string x, .bool true]) ∧ VOk 1 x ∧ Below w.heap.size w w' := by
  have HL := hid hlen
  obtain ⟨ao, cap, rfl⟩ := hr.form
  have HR := hid hr
  clear hr hlen
  go_enter Tryd.func13, Tryd.ntmps13
  go_wp2_with fail
  go_loopw [8, 9] (fun t i wr => ∃ (k : Nat) (tb : ByteArray), t = .string tb ∧ i = .int .i64 (k : Int) ∧ k ≤ 13 ∧ tb.size = k ∧ AllD tb.data.toList ∧ Below w.heap.size w wr) (fun _ i _ => 13 - (intOf i).toNat)
  case atStart => exact ⟨0, ⟨#[]⟩, rfl, rfl, Nat.zero_le _, rfl, allD_nil, Below.refl _ _⟩
  case round =>
    obtain ⟨k, tb, rfl, rfl, hk, hsz, hall, hbl⟩ := hrel
    have hz := hbl.size
    by_cases hlt : k < 13
    · by_cases hin : k < l.length
      · obtain ⟨b, off, cap', hv, hcap, hcell⟩ := HR.out.here (by omega)
        cases hv
        have hc := below_cells hbl _ _ (hcell k hin)
        have hu : (48 + (l[k].toNat : Int) % 10) = ((dc l[k].toNat).toNat : Int) := by rw [dc_toNat]; omega
        have kc := run_one wr _ _ hu
        have hsn : (tb ++ (⟨#[dc l[k].toNat]⟩ : ByteArray)).size = tb.size + 1 := by simp [ByteArray.size_append]; rfl
        have hda : AllD (tb ++ (⟨#[dc l[k].toNat]⟩ : ByteArray)).data.toList := by
          rw [ByteArray.data_append, Array.toList_append]
          exact allD_snoc hall (dc_digit _)
        have HX : Hid (_) := And.intro hsn hda
        have hl2 := HL.out
        clear hu hsn hda hall hcell
        go_wp2
        go_roundw
        case rel => exact ⟨k + 1, _, rfl, by go_num, by omega, by rw [HX.out.1, hsz], HX.out.2, hbl.alloc hz _⟩
        case measure => simp [intOf]; omega
      · have hinI : ¬ (k : Int) < (l.length : Int) := by omega
        have hu : (48 : Int) = ((dc 0).toNat : Int) := by rw [dc_toNat]; rfl
        have kc := run_one wr _ _ hu
        have hsn : (tb ++ (⟨#[dc 0]⟩ : ByteArray)).size = tb.size + 1 := by simp [ByteArray.size_append]; rfl
        have hda : AllD (tb ++ (⟨#[dc 0]⟩ : ByteArray)).data.toList := by
          rw [ByteArray.data_append, Array.toList_append]
          exact allD_snoc hall (dc_digit 0)
        have HX : Hid (_) := And.intro hsn hda
        clear hu hsn hda hall
        go_wp2
        go_roundw
        case rel => exact ⟨k + 1, _, rfl, by go_num, by omega, by rw [HX.out.1, hsz], HX.out.2, hbl.alloc hz _⟩
        case measure => simp [intOf]; omega
    · have hkN : k = 13 := by omega
      have hl := len_list tb
      have HD := hid (digit_any tb wr (by omega))
      rw [digV_ok (by omega) (by omega) ((fo_neg_iff _).2 hall)] at HD
      have kc := run_one wr _ (ck tb.data.toList) rfl
      have hsn : (tb ++ (⟨#[ck tb.data.toList]⟩ : ByteArray)).size = tb.size + 1 := by simp [ByteArray.size_append]; rfl
      have hda : (tb ++ (⟨#[ck tb.data.toList]⟩ : ByteArray)).data.toList = tb.data.toList ++ [ck tb.data.toList] := by rw [ByteArray.data_append, Array.toList_append]
      have hok : VOk 1 (tb ++ (⟨#[ck tb.data.toList]⟩ : ByteArray)) := by
        refine ⟨?_, by omega⟩
        rw [hda]
        exact flt_code (n := 14) (by rw [List.length_append, hl]; simp; omega) (allD_snoc hall (ck_digit _)) (sm_ck_self _)
      have HX := hid hok
      clear hok hsn hda hall
      generalize ck tb.data.toList = c at HD kc HX
      go_wp2_with fail
      refine Calls.mono HD.out ?_
      rintro e w' ⟨rfl, hwz⟩
      have hws := hwz.symm
      clear hwz HD
      subst hws
      go_wp2
      go_ret2
      exact ⟨_, rfl, HX.out, hbl.alloc hz _⟩

set_option maxHeartbeats 4000000 in
theorem value_9 (v : Value) (l : List UInt8) (w : World) (hr : Reads w v l) (hlen : l.length ≤ 9223372036854775807) :
    Calls Tryd.prog 13 #[.string ⟨#[52, 49, 52]⟩, .int .i64 13, v] w fun e w' => ∃ x : ByteArray, e = .returned (.tuple #[.string x, .bool true]) ∧ VOk 2 x ∧ Below w.heap.size w w' := by
  have HL := hid hlen
  obtain ⟨ao, cap, rfl⟩ := hr.form
  have HR := hid hr
  clear hr hlen
  go_enter Tryd.func13, Tryd.ntmps13
  go_wp2_with fail
  go_loopw [8, 9] (fun t i wr => ∃ (k : Nat) (tb : ByteArray), t = .string tb ∧ i = .int .i64 (k : Int) ∧ k ≤ 12 ∧ tb.size = k ∧ AllD tb.data.toList ∧ Below w.heap.size w wr) (fun _ i _ => 12 - (intOf i).toNat)
  case atStart => exact ⟨0, ⟨#[]⟩, rfl, rfl, Nat.zero_le _, rfl, allD_nil, Below.refl _ _⟩
  case round =>
    obtain ⟨k, tb, rfl, rfl, hk, hsz, hall, hbl⟩ := hrel
    have hz := hbl.size
    by_cases hlt : k < 12
    · by_cases hin : k < l.length
      · obtain ⟨b, off, cap', hv, hcap, hcell⟩ := HR.out.here (by omega)
        cases hv
        have hc := below_cells hbl _ _ (hcell k hin)
        have hu : (48 + (l[k].toNat : Int) % 10) = ((dc l[k].toNat).toNat : Int) := by rw [dc_toNat]; omega
        have kc := run_one wr _ _ hu
        have hsn : (tb ++ (⟨#[dc l[k].toNat]⟩ : ByteArray)).size = tb.size + 1 := by simp [ByteArray.size_append]; rfl
        have hda : AllD (tb ++ (⟨#[dc l[k].toNat]⟩ : ByteArray)).data.toList := by
          rw [ByteArray.data_append, Array.toList_append]
          exact allD_snoc hall (dc_digit _)
        have HX : Hid (_) := And.intro hsn hda
        have hl2 := HL.out
        clear hu hsn hda hall hcell
        go_wp2
        go_roundw
        case rel => exact ⟨k + 1, _, rfl, by go_num, by omega, by rw [HX.out.1, hsz], HX.out.2, hbl.alloc hz _⟩
        case measure => simp [intOf]; omega
      · have hinI : ¬ (k : Int) < (l.length : Int) := by omega
        have hu : (48 : Int) = ((dc 0).toNat : Int) := by rw [dc_toNat]; rfl
        have kc := run_one wr _ _ hu
        have hsn : (tb ++ (⟨#[dc 0]⟩ : ByteArray)).size = tb.size + 1 := by simp [ByteArray.size_append]; rfl
        have hda : AllD (tb ++ (⟨#[dc 0]⟩ : ByteArray)).data.toList := by
          rw [ByteArray.data_append, Array.toList_append]
          exact allD_snoc hall (dc_digit 0)
        have HX : Hid (_) := And.intro hsn hda
        clear hu hsn hda hall
        go_wp2
        go_roundw
        case rel => exact ⟨k + 1, _, rfl, by go_num, by omega, by rw [HX.out.1, hsz], HX.out.2, hbl.alloc hz _⟩
        case measure => simp [intOf]; omega
    · have hkN : k = 12 := by omega
      have hl := len_list tb
      have HD := hid (digit_any tb wr (by omega))
      rw [digV_ok (by omega) (by omega) ((fo_neg_iff _).2 hall)] at HD
      have kc := run_one wr _ (ck tb.data.toList) rfl
      have hsn : (tb ++ (⟨#[ck tb.data.toList]⟩ : ByteArray)).size = tb.size + 1 := by simp [ByteArray.size_append]; rfl
      have hda : (tb ++ (⟨#[ck tb.data.toList]⟩ : ByteArray)).data.toList = tb.data.toList ++ [ck tb.data.toList] := by rw [ByteArray.data_append, Array.toList_append]
      have hok : VOk 2 (tb ++ (⟨#[ck tb.data.toList]⟩ : ByteArray)) := by
        refine ⟨?_, by omega⟩
        rw [hda]
        exact flt_code (n := 13) (by rw [List.length_append, hl]; simp; omega) (allD_snoc hall (ck_digit _)) (sm_ck_self _)
      have HX := hid hok
      clear hok hsn hda hall
      generalize ck tb.data.toList = c at HD kc HX
      go_wp2_with fail
      refine Calls.mono HD.out ?_
      rintro e w' ⟨rfl, hwz⟩
      have hws := hwz.symm
      clear hwz HD
      subst hws
      go_wp2
      go_ret2
      exact ⟨_, rfl, HX.out, hbl.alloc hz _⟩

set_option maxHeartbeats 4000000 in
theorem value_4 (v : Value) (l : List UInt8) (w : World) (hr : Reads w v l) (hlen : l.length ≤ 9223372036854775807) :
    Calls Tryd.prog 13 #[.string ⟨#[50, 48]⟩, .int .i64 2, v] w fun e w' => ∃ x : ByteArray, e = .returned (.tuple #[.string x, .bool true]) ∧ VOk 4 x ∧ Below w.heap.size w w' := by
  have HL := hid hlen
  obtain ⟨ao, cap, rfl⟩ := hr.form
  have HR := hid hr
  clear hr hlen
  go_enter Tryd.func13, Tryd.ntmps13
  go_wp2_with fail
  go_loopw [19, 20] (fun t i wr => ∃ (k : Nat) (tb : ByteArray), t = .string tb ∧ i = .int .i64 (k : Int) ∧ k ≤ 2 ∧ tb.size = k ∧ AllD tb.data.toList ∧ Below w.heap.size w wr) (fun _ i _ => 2 - (intOf i).toNat)
  case atStart => exact ⟨0, ⟨#[]⟩, rfl, rfl, Nat.zero_le _, rfl, allD_nil, Below.refl _ _⟩
  case round =>
    obtain ⟨k, tb, rfl, rfl, hk, hsz, hall, hbl⟩ := hrel
    have hz := hbl.size
    by_cases hlt : k < 2
    · by_cases hin : k < l.length
      · obtain ⟨b, off, cap', hv, hcap, hcell⟩ := HR.out.here (by omega)
        cases hv
        have hc := below_cells hbl _ _ (hcell k hin)
        have hu : (48 + (l[k].toNat : Int) % 10) = ((dc l[k].toNat).toNat : Int) := by rw [dc_toNat]; omega
        have kc := run_one wr _ _ hu
        have hsn : (tb ++ (⟨#[dc l[k].toNat]⟩ : ByteArray)).size = tb.size + 1 := by simp [ByteArray.size_append]; rfl
        have hda : AllD (tb ++ (⟨#[dc l[k].toNat]⟩ : ByteArray)).data.toList := by
          rw [ByteArray.data_append, Array.toList_append]
          exact allD_snoc hall (dc_digit _)
        have HX : Hid (_) := And.intro hsn hda
        have hl2 := HL.out
        clear hu hsn hda hall hcell
        go_wp2
        go_roundw
        case rel => exact ⟨k + 1, _, rfl, by go_num, by omega, by rw [HX.out.1, hsz], HX.out.2, hbl.alloc hz _⟩
        case measure => simp [intOf]; omega
      · have hinI : ¬ (k : Int) < (l.length : Int) := by omega
        have hu : (55 : Int) = ((dc 7).toNat : Int) := by rw [dc_toNat]; rfl
        have kc := run_one wr _ _ hu
        have hsn : (tb ++ (⟨#[dc 7]⟩ : ByteArray)).size = tb.size + 1 := by simp [ByteArray.size_append]; rfl
        have hda : AllD (tb ++ (⟨#[dc 7]⟩ : ByteArray)).data.toList := by
          rw [ByteArray.data_append, Array.toList_append]
          exact allD_snoc hall (dc_digit 7)
        have HX : Hid (_) := And.intro hsn hda
        clear hu hsn hda hall
        go_wp2
        go_roundw
        case rel => exact ⟨k + 1, _, rfl, by go_num, by omega, by rw [HX.out.1, hsz], HX.out.2, hbl.alloc hz _⟩
        case measure => simp [intOf]; omega
    · have hkN : k = 2 := by omega
      have hl := len_list tb
      have HX := hid (show VOk 4 tb from ⟨flt_dig (lo := 2) (hi := 2) (by omega) hall, by omega⟩)
      clear hall
      go_wp2
      go_ret2
      exact ⟨_, rfl, HX.out, hbl⟩

set_option maxHeartbeats 4000000 in
theorem value_7 (v : Value) (l : List UInt8) (w : World) (hr : Reads w v l) (hlen : l.length ≤ 9223372036854775807) :
    Calls Tryd.prog 13 #[.string ⟨#[51, 49, 48, 51]⟩, .int .i64 6, v] w fun e w' => ∃ x : ByteArray, e = .returned (.tuple #[.string x, .bool true]) ∧ VOk 6 x ∧ Below w.heap.size w w' := by
  have HL := hid hlen
  obtain ⟨ao, cap, rfl⟩ := hr.form
  have HR := hid hr
  clear hr hlen
  go_enter Tryd.func13, Tryd.ntmps13
  go_wp2_with fail
  go_loopw [19, 20] (fun t i wr => ∃ (k : Nat) (tb : ByteArray), t = .string tb ∧ i = .int .i64 (k : Int) ∧ k ≤ 6 ∧ tb.size = k ∧ AllD tb.data.toList ∧ Below w.heap.size w wr) (fun _ i _ => 6 - (intOf i).toNat)
  case atStart => exact ⟨0, ⟨#[]⟩, rfl, rfl, Nat.zero_le _, rfl, allD_nil, Below.refl _ _⟩
  case round =>
    obtain ⟨k, tb, rfl, rfl, hk, hsz, hall, hbl⟩ := hrel
    have hz := hbl.size
    by_cases hlt : k < 6
    · by_cases hin : k < l.length
      · obtain ⟨b, off, cap', hv, hcap, hcell⟩ := HR.out.here (by omega)
        cases hv
        have hc := below_cells hbl _ _ (hcell k hin)
        have hu : (48 + (l[k].toNat : Int) % 10) = ((dc l[k].toNat).toNat : Int) := by rw [dc_toNat]; omega
        have kc := run_one wr _ _ hu
        have hsn : (tb ++ (⟨#[dc l[k].toNat]⟩ : ByteArray)).size = tb.size + 1 := by simp [ByteArray.size_append]; rfl
        have hda : AllD (tb ++ (⟨#[dc l[k].toNat]⟩ : ByteArray)).data.toList := by
          rw [ByteArray.data_append, Array.toList_append]
          exact allD_snoc hall (dc_digit _)
        have HX : Hid (_) := And.intro hsn hda
        have hl2 := HL.out
        clear hu hsn hda hall hcell
        go_wp2
        go_roundw
        case rel => exact ⟨k + 1, _, rfl, by go_num, by omega, by rw [HX.out.1, hsz], HX.out.2, hbl.alloc hz _⟩
        case measure => simp [intOf]; omega
      · have hinI : ¬ (k : Int) < (l.length : Int) := by omega
        have hu : (55 : Int) = ((dc 7).toNat : Int) := by rw [dc_toNat]; rfl
        have kc := run_one wr _ _ hu
        have hsn : (tb ++ (⟨#[dc 7]⟩ : ByteArray)).size = tb.size + 1 := by simp [ByteArray.size_append]; rfl
        have hda : AllD (tb ++ (⟨#[dc 7]⟩ : ByteArray)).data.toList := by
          rw [ByteArray.data_append, Array.toList_append]
          exact allD_snoc hall (dc_digit 7)
        have HX : Hid (_) := And.intro hsn hda
        clear hu hsn hda hall
        go_wp2
        go_roundw
        case rel => exact ⟨k + 1, _, rfl, by go_num, by omega, by rw [HX.out.1, hsz], HX.out.2, hbl.alloc hz _⟩
        case measure => simp [intOf]; omega
    · have hkN : k = 6 := by omega
      have hl := len_list tb
      have HX := hid (show VOk 6 tb from ⟨flt_dig (lo := 6) (hi := 6) (by omega) hall, by omega⟩)
      clear hall
      go_wp2
      go_ret2
      exact ⟨_, rfl, HX.out, hbl⟩

set_option maxHeartbeats 4000000 in
theorem value_10 (v : Value) (l : List UInt8) (w : World) (hr : Reads w v l) (hlen : l.length ≤ 9223372036854775807) :
    Calls Tryd.prog 13 #[.string ⟨#[56, 48, 48, 53]⟩, .int .i64 6, v] w fun e w' => ∃ x : ByteArray, e = .returned (.tuple #[.string x, .bool true]) ∧ VOk 8 x ∧ Below w.heap.size w w' := by
  have HL := hid hlen
  obtain ⟨ao, cap, rfl⟩ := hr.form
  have HR := hid hr
  clear hr hlen
  go_enter Tryd.func13, Tryd.ntmps13
  go_wp2_with fail
  go_loopw [19, 20] (fun t i wr => ∃ (k : Nat) (tb : ByteArray), t = .string tb ∧ i = .int .i64 (k : Int) ∧ k ≤ 6 ∧ tb.size = k ∧ AllD tb.data.toList ∧ Below w.heap.size w wr) (fun _ i _ => 6 - (intOf i).toNat)
  case atStart => exact ⟨0, ⟨#[]⟩, rfl, rfl, Nat.zero_le _, rfl, allD_nil, Below.refl _ _⟩
  case round =>
    obtain ⟨k, tb, rfl, rfl, hk, hsz, hall, hbl⟩ := hrel
    have hz := hbl.size
    by_cases hlt : k < 6
    · by_cases hin : k < l.length
      · obtain ⟨b, off, cap', hv, hcap, hcell⟩ := HR.out.here (by omega)
        cases hv
        have hc := below_cells hbl _ _ (hcell k hin)
        have hu : (48 + (l[k].toNat : Int) % 10) = ((dc l[k].toNat).toNat : Int) := by rw [dc_toNat]; omega
        have kc := run_one wr _ _ hu
        have hsn : (tb ++ (⟨#[dc l[k].toNat]⟩ : ByteArray)).size = tb.size + 1 := by simp [ByteArray.size_append]; rfl
        have hda : AllD (tb ++ (⟨#[dc l[k].toNat]⟩ : ByteArray)).data.toList := by
          rw [ByteArray.data_append, Array.toList_append]
          exact allD_snoc hall (dc_digit _)
        have HX : Hid (_) := And.intro hsn hda
        have hl2 := HL.out
        clear hu hsn hda hall hcell
        go_wp2
        go_roundw
        case rel => exact ⟨k + 1, _, rfl, by go_num, by omega, by rw [HX.out.1, hsz], HX.out.2, hbl.alloc hz _⟩
        case measure => simp [intOf]; omega
      · have hinI : ¬ (k : Int) < (l.length : Int) := by omega
        have hu : (55 : Int) = ((dc 7).toNat : Int) := by rw [dc_toNat]; rfl
        have kc := run_one wr _ _ hu
        have hsn : (tb ++ (⟨#[dc 7]⟩ : ByteArray)).size = tb.size + 1 := by simp [ByteArray.size_append]; rfl
        have hda : AllD (tb ++ (⟨#[dc 7]⟩ : ByteArray)).data.toList := by
          rw [ByteArray.data_append, Array.toList_append]
          exact allD_snoc hall (dc_digit 7)
        have HX : Hid (_) := And.intro hsn hda
        clear hu hsn hda hall
        go_wp2
        go_roundw
        case rel => exact ⟨k + 1, _, rfl, by go_num, by omega, by rw [HX.out.1, hsz], HX.out.2, hbl.alloc hz _⟩
        case measure => simp [intOf]; omega
    · have hkN : k = 6 := by omega
      have hl := len_list tb
      have HX := hid (show VOk 8 tb from ⟨flt_dig (lo := 6) (hi := 6) (by omega) hall, by omega⟩)
      clear hall
      go_wp2
      go_ret2
      exact ⟨_, rfl, HX.out, hbl⟩

set_option maxHeartbeats 4000000 in
theorem value_6 (v : Value) (l : List UInt8) (w : World) (hr : Reads w v l) (hlen : l.length ≤ 9223372036854775807) :
    Calls Tryd.prog 13 #[.string ⟨#[51, 48]⟩, .int .i64 (-8), v] w fun e w' => ∃ x : ByteArray, e = .returned (.tuple #[.string x, .bool true]) ∧ VOk 5 x ∧ Below w.heap.size w w' := by
  have HL := hid hlen
  obtain ⟨ao, cap, rfl⟩ := hr.form
  have HR := hid hr
  clear hr hlen
  have HW := hid (within_any (l.length : Int) 7 w (by omega) (by omega))
  obtain ⟨q, hq⟩ : ∃ q : Nat, (l.length : Int) % (7 + 1) = (q : Int) := ⟨((l.length : Int) % (7 + 1)).toNat, by omega⟩
  have hq8 : q + 1 ≤ 8 := by omega
  rw [hq] at HW
  clear hq
  go_enter Tryd.func13, Tryd.ntmps13
  go_wp2_with fail
  refine Calls.mono HW.out ?_
  rintro e wz ⟨rfl, hwz⟩
  have hws := hwz.symm
  clear hwz HW
  subst hws
  obtain ⟨N, hN⟩ : ∃ N : Nat, N = q + 1 := ⟨_, rfl⟩
  have hNI : (1 : Int) + (q : Int) = (N : Int) := by omega
  have hN1 : 1 ≤ N := by omega
  have hN2 : N ≤ 8 := by omega
  clear hN hq8
  go_wp2_with fail
  go_loopw [19, 20] (fun t i wr => ∃ (k : Nat) (tb : ByteArray), t = .string tb ∧ i = .int .i64 (k : Int) ∧ k ≤ N ∧ tb.size = k ∧ AllD tb.data.toList ∧ Below w.heap.size w wr) (fun _ i _ => N - (intOf i).toNat)
  case atStart => exact ⟨0, ⟨#[]⟩, rfl, rfl, Nat.zero_le _, rfl, allD_nil, Below.refl _ _⟩
  case round =>
    obtain ⟨k, tb, rfl, rfl, hk, hsz, hall, hbl⟩ := hrel
    have hz := hbl.size
    by_cases hlt : k < N
    · by_cases hin : k < l.length
      · obtain ⟨b, off, cap', hv, hcap, hcell⟩ := HR.out.here (by omega)
        cases hv
        have hc := below_cells hbl _ _ (hcell k hin)
        have hu : (48 + (l[k].toNat : Int) % 10) = ((dc l[k].toNat).toNat : Int) := by rw [dc_toNat]; omega
        have kc := run_one wr _ _ hu
        have hsn : (tb ++ (⟨#[dc l[k].toNat]⟩ : ByteArray)).size = tb.size + 1 := by simp [ByteArray.size_append]; rfl
        have hda : AllD (tb ++ (⟨#[dc l[k].toNat]⟩ : ByteArray)).data.toList := by
          rw [ByteArray.data_append, Array.toList_append]
          exact allD_snoc hall (dc_digit _)
        have HX : Hid (_) := And.intro hsn hda
        have hl2 := HL.out
        clear hu hsn hda hall hcell
        go_wp2
        go_roundw
        case rel => exact ⟨k + 1, _, rfl, by go_num, by omega, by rw [HX.out.1, hsz], HX.out.2, hbl.alloc hz _⟩
        case measure => simp [intOf]; omega
      · have hinI : ¬ (k : Int) < (l.length : Int) := by omega
        have hu : (55 : Int) = ((dc 7).toNat : Int) := by rw [dc_toNat]; rfl
        have kc := run_one wr _ _ hu
        have hsn : (tb ++ (⟨#[dc 7]⟩ : ByteArray)).size = tb.size + 1 := by simp [ByteArray.size_append]; rfl
        have hda : AllD (tb ++ (⟨#[dc 7]⟩ : ByteArray)).data.toList := by
          rw [ByteArray.data_append, Array.toList_append]
          exact allD_snoc hall (dc_digit 7)
        have HX : Hid (_) := And.intro hsn hda
        clear hu hsn hda hall
        go_wp2
        go_roundw
        case rel => exact ⟨k + 1, _, rfl, by go_num, by omega, by rw [HX.out.1, hsz], HX.out.2, hbl.alloc hz _⟩
        case measure => simp [intOf]; omega
    · have hkN : k = N := by omega
      have hl := len_list tb
      have HX := hid (show VOk 5 tb from ⟨flt_dig (lo := 1) (hi := 8) (by omega) hall, by omega⟩)
      clear hall
      go_wp2
      go_ret2
      exact ⟨_, rfl, HX.out, hbl⟩

set_option maxHeartbeats 4000000 in
theorem value_8 (v : Value) (l : List UInt8) (w : World) (hr : Reads w v l) (hlen : l.length ≤ 9223372036854775807) :
    Calls Tryd.prog 13 #[.string ⟨#[51, 57, 50, 50]⟩, .int .i64 (-15), v] w fun e w' => ∃ x : ByteArray, e = .returned (.tuple #[.string x, .bool true]) ∧ VOk 7 x ∧ Below w.heap.size w w' := by
  have HL := hid hlen
  obtain ⟨ao, cap, rfl⟩ := hr.form
  have HR := hid hr
  clear hr hlen
  have HW := hid (within_any (l.length : Int) 14 w (by omega) (by omega))
  obtain ⟨q, hq⟩ : ∃ q : Nat, (l.length : Int) % (14 + 1) = (q : Int) := ⟨((l.length : Int) % (14 + 1)).toNat, by omega⟩
  have hq8 : q + 1 ≤ 15 := by omega
  rw [hq] at HW
  clear hq
  go_enter Tryd.func13, Tryd.ntmps13
  go_wp2_with fail
  refine Calls.mono HW.out ?_
  rintro e wz ⟨rfl, hwz⟩
  have hws := hwz.symm
  clear hwz HW
  subst hws
  obtain ⟨N, hN⟩ : ∃ N : Nat, N = q + 1 := ⟨_, rfl⟩
  have hNI : (1 : Int) + (q : Int) = (N : Int) := by omega
  have hN1 : 1 ≤ N := by omega
  have hN2 : N ≤ 15 := by omega
  clear hN hq8
  go_wp2_with fail
  go_loopw [19, 20] (fun t i wr => ∃ (k : Nat) (tb : ByteArray), t = .string tb ∧ i = .int .i64 (k : Int) ∧ k ≤ N ∧ tb.size = k ∧ AllD tb.data.toList ∧ Below w.heap.size w wr) (fun _ i _ => N - (intOf i).toNat)
  case atStart => exact ⟨0, ⟨#[]⟩, rfl, rfl, Nat.zero_le _, rfl, allD_nil, Below.refl _ _⟩
  case round =>
    obtain ⟨k, tb, rfl, rfl, hk, hsz, hall, hbl⟩ := hrel
    have hz := hbl.size
    by_cases hlt : k < N
    · by_cases hin : k < l.length
      · obtain ⟨b, off, cap', hv, hcap, hcell⟩ := HR.out.here (by omega)
        cases hv
        have hc := below_cells hbl _ _ (hcell k hin)
        have hu : (48 + (l[k].toNat : Int) % 10) = ((dc l[k].toNat).toNat : Int) := by rw [dc_toNat]; omega
        have kc := run_one wr _ _ hu
        have hsn : (tb ++ (⟨#[dc l[k].toNat]⟩ : ByteArray)).size = tb.size + 1 := by simp [ByteArray.size_append]; rfl
        have hda : AllD (tb ++ (⟨#[dc l[k].toNat]⟩ : ByteArray)).data.toList := by
          rw [ByteArray.data_append, Array.toList_append]
          exact allD_snoc hall (dc_digit _)
        have HX : Hid (_) := And.intro hsn hda
        have hl2 := HL.out
        clear hu hsn hda hall hcell
        go_wp2
        go_roundw
        case rel => exact ⟨k + 1, _, rfl, by go_num, by omega, by rw [HX.out.1, hsz], HX.out.2, hbl.alloc hz _⟩
        case measure => simp [intOf]; omega
      · have hinI : ¬ (k : Int) < (l.length : Int) := by omega
        have hu : (55 : Int) = ((dc 7).toNat : Int) := by rw [dc_toNat]; rfl
        have kc := run_one wr _ _ hu
        have hsn : (tb ++ (⟨#[dc 7]⟩ : ByteArray)).size = tb.size + 1 := by simp [ByteArray.size_append]; rfl
        have hda : AllD (tb ++ (⟨#[dc 7]⟩ : ByteArray)).data.toList := by
          rw [ByteArray.data_append, Array.toList_append]
          exact allD_snoc hall (dc_digit 7)
        have HX : Hid (_) := And.intro hsn hda
        clear hu hsn hda hall
        go_wp2
        go_roundw
        case rel => exact ⟨k + 1, _, rfl, by go_num, by omega, by rw [HX.out.1, hsz], HX.out.2, hbl.alloc hz _⟩
        case measure => simp [intOf]; omega
    · have hkN : k = N := by omega
      have hl := len_list tb
      have HX := hid (show VOk 7 tb from ⟨flt_dig (lo := 1) (hi := 15) (by omega) hall, by omega⟩)
      clear hall
      go_wp2
      go_ret2
      exact ⟨_, rfl, HX.out, hbl⟩

def lettL : List UInt8 := [65, 66, 67, 120, 121, 122, 48, 49, 57, 33, 34, 37, 38, 39, 40, 41, 42, 43, 44, 45, 46, 47, 58, 59, 60, 61, 62, 63, 95]
theorem lett_ok : ∀ c ∈ lettL, chF c = 0 := by decide +kernel
theorem lett_at (k : Nat) (h : k < 29) : ∃ c : UInt8, chF c = 0 ∧ ((⟨#[65, 66, 67, 120, 121, 122, 48, 49, 57, 33, 34, 37, 38, 39, 40, 41, 42, 43, 44, 45, 46, 47, 58, 59, 60, 61, 62, 63, 95]⟩ : ByteArray).extract k (k + 1)).data.toList = [c] := by
  have hk : k < lettL.length := h
  refine ⟨lettL[k], lett_ok _ (List.getElem_mem hk), ?_⟩
  rw [Lib.extract_data]
  show List.take (k + 1 - k) (lettL.drop k) = _
  rw [List.drop_eq_getElem_cons hk, show k + 1 - k = 0 + 1 by omega, List.take_succ_cons, List.take_zero]

set_option maxHeartbeats 4000000 in
theorem value_2 (v : Value) (l : List UInt8) (w : World) (hr : Reads w v l) (hlen : l.length ≤ 9223372036854775807) :
    Calls Tryd.prog 13 #[.string ⟨#[49, 48]⟩, .int .i64 0, v] w fun e w' => ∃ x : ByteArray, e = .returned (.tuple #[.string x, .bool true]) ∧ VOk 9 x ∧ Below w.heap.size w w' := by
  have HL := hid hlen
  obtain ⟨ao, cap, rfl⟩ := hr.form
  have HR := hid hr
  clear hr hlen
  go_enter Tryd.func13, Tryd.ntmps13
  go_wp2_with fail
  go_loopw [15, 16] (fun t i wr => ∃ (k : Nat) (tb : ByteArray), t = .string tb ∧ i = .int .i64 (k : Int) ∧ k ≤ 18 ∧ tb.size = k ∧ (∀ c ∈ tb.data.toList, chF c = 0) ∧ Below w.heap.size w wr) (fun _ i _ => 18 - (intOf i).toNat)
  case atStart => exact ⟨0, ⟨#[]⟩, rfl, rfl, Nat.zero_le _, rfl, fun c hc => by simp at hc, Below.refl _ _⟩
  case round =>
    obtain ⟨k, tb, rfl, rfl, hk, hsz, hall, hbl⟩ := hrel
    have hz := hbl.size
    by_cases hlt : k < 18 ∧ k < l.length
    · obtain ⟨hlt, hin⟩ := hlt
      obtain ⟨b, off, cap', hv, hcap, hcell⟩ := HR.out.here (by omega)
      cases hv
      have hc := below_cells hbl _ _ (hcell k hin)
      have hyb := l[k].toNat_lt
      generalize l[k].toNat = y at *
      have hy2 : y < 256 := hyb
      clear hyb
      obtain ⟨q, hq⟩ : ∃ q : Nat, (y : Int) % 29 = (q : Int) := ⟨y % 29, by omega⟩
      have hq2 : q < 29 := by omega
      obtain ⟨c, hc0, hx⟩ := lett_at q hq2
      have hxs : ((⟨#[65, 66, 67, 120, 121, 122, 48, 49, 57, 33, 34, 37, 38, 39, 40, 41, 42, 43, 44, 45, 46, 47, 58, 59, 60, 61, 62, 63, 95]⟩ : ByteArray).extract q (q + 1)).size = 1 := by rw [← len_list, hx]; rfl
      obtain ⟨X, hX⟩ : ∃ X, (⟨#[65, 66, 67, 120, 121, 122, 48, 49, 57, 33, 34, 37, 38, 39, 40, 41, 42, 43, 44, 45, 46, 47, 58, 59, 60, 61, 62, 63, 95]⟩ : ByteArray).extract q (q + 1) = X := ⟨_, rfl⟩
      rw [hX] at hx hxs
      have hm : (y : Int).tmod 29 = (q : Int) := by rw [Int.tmod_eq_emod_of_nonneg (by omega)]; exact hq
      have hsn : (tb ++ X).size = tb.size + 1 := by rw [ByteArray.size_append, hxs]
      have hda : ∀ c ∈ (tb ++ X).data.toList, chF c = 0 := by
        rw [ByteArray.data_append, Array.toList_append, hx]
        intro d hd
        rcases List.mem_append.1 hd with hd | hd
        · exact hall d hd
        · rw [List.mem_singleton.1 hd]; exact hc0
      have HX := hid (And.intro hsn hda)
      have hsubq := fun w => run_subG (⟨#[65, 66, 67, 120, 121, 122, 48, 49, 57, 33, 34, 37, 38, 39, 40, 41, 42, 43, 44, 45, 46, 47, 58, 59, 60, 61, 62, 63, 95]⟩ : ByteArray) q (q + 1) ((q : Int) + 1) (by omega) (by omega) (by show q + 1 ≤ 29; omega) w
      rw [hX] at hsubq
      have hl2 := HL.out
      clear hsn hda hall hcell hx hX hc0 hq
      go_wp2
      go_roundw
      case rel => exact ⟨k + 1, _, rfl, by go_num, by omega, by rw [HX.out.1, hsz], HX.out.2, hbl⟩
      case measure => simp [intOf]; omega
    · have hsn : (tb ++ (⟨#[90]⟩ : ByteArray)).size = tb.size + 1 := by simp [ByteArray.size_append]; rfl
      have hda : (tb ++ (⟨#[90]⟩ : ByteArray)).data.toList = tb.data.toList ++ [90] := by rw [ByteArray.data_append, Array.toList_append]
      have hl := len_list tb
      have hok : VOk 9 (tb ++ (⟨#[90]⟩ : ByteArray)) := by
        refine ⟨?_, by omega⟩
        rw [hda]
        refine flt_chr (lo := 1) (hi := 20) (by rw [List.length_append, hl]; simp; omega) (fun c hc => ?_)
        rcases List.mem_append.1 hc with hc | hc
        · exact hall c hc
        · rw [List.mem_singleton.1 hc]; decide
      have HX := hid hok
      clear hok hsn hda hall
      by_cases h18 : k < 18
      · have h18I : (k : Int) < 18 := by omega
        have hin : ¬ (k : Int) < (l.length : Int) := by omega
        clear hlt
        go_wp2
        go_ret2
        exact ⟨_, rfl, HX.out, hbl⟩
      · have h18I : ¬ (k : Int) < 18 := by omega
        clear hlt
        go_wp2
        go_ret2
        exact ⟨_, rfl, HX.out, hbl⟩

set_option maxHeartbeats 4000000 in
theorem value_5 (v : Value) (l : List UInt8) (w : World) (hr : Reads w v l) (hlen : l.length ≤ 9223372036854775807) :
    Calls Tryd.prog 13 #[.string ⟨#[50, 49]⟩, .int .i64 0, v] w fun e w' => ∃ x : ByteArray, e = .returned (.tuple #[.string x, .bool true]) ∧ VOk 9 x ∧ Below w.heap.size w w' := by
  have HL := hid hlen
  obtain ⟨ao, cap, rfl⟩ := hr.form
  have HR := hid hr
  clear hr hlen
  go_enter Tryd.func13, Tryd.ntmps13
  go_wp2_with fail
  go_loopw [15, 16] (fun t i wr => ∃ (k : Nat) (tb : ByteArray), t = .string tb ∧ i = .int .i64 (k : Int) ∧ k ≤ 18 ∧ tb.size = k ∧ (∀ c ∈ tb.data.toList, chF c = 0) ∧ Below w.heap.size w wr) (fun _ i _ => 18 - (intOf i).toNat)
  case atStart => exact ⟨0, ⟨#[]⟩, rfl, rfl, Nat.zero_le _, rfl, fun c hc => by simp at hc, Below.refl _ _⟩
  case round =>
    obtain ⟨k, tb, rfl, rfl, hk, hsz, hall, hbl⟩ := hrel
    have hz := hbl.size
    by_cases hlt : k < 18 ∧ k < l.length
    · obtain ⟨hlt, hin⟩ := hlt
      obtain ⟨b, off, cap', hv, hcap, hcell⟩ := HR.out.here (by omega)
      cases hv
      have hc := below_cells hbl _ _ (hcell k hin)
      have hyb := l[k].toNat_lt
      generalize l[k].toNat = y at *
      have hy2 : y < 256 := hyb
      clear hyb
      obtain ⟨q, hq⟩ : ∃ q : Nat, (y : Int) % 29 = (q : Int) := ⟨y % 29, by omega⟩
      have hq2 : q < 29 := by omega
      obtain ⟨c, hc0, hx⟩ := lett_at q hq2
      have hxs : ((⟨#[65, 66, 67, 120, 121, 122, 48, 49, 57, 33, 34, 37, 38, 39, 40, 41, 42, 43, 44, 45, 46, 47, 58, 59, 60, 61, 62, 63, 95]⟩ : ByteArray).extract q (q + 1)).size = 1 := by rw [← len_list, hx]; rfl
      obtain ⟨X, hX⟩ : ∃ X, (⟨#[65, 66, 67, 120, 121, 122, 48, 49, 57, 33, 34, 37, 38, 39, 40, 41, 42, 43, 44, 45, 46, 47, 58, 59, 60, 61, 62, 63, 95]⟩ : ByteArray).extract q (q + 1) = X := ⟨_, rfl⟩
      rw [hX] at hx hxs
      have hm : (y : Int).tmod 29 = (q : Int) := by rw [Int.tmod_eq_emod_of_nonneg (by omega)]; exact hq
      have hsn : (tb ++ X).size = tb.size + 1 := by rw [ByteArray.size_append, hxs]
      have hda : ∀ c ∈ (tb ++ X).data.toList, chF c = 0 := by
        rw [ByteArray.data_append, Array.toList_append, hx]
        intro d hd
        rcases List.mem_append.1 hd with hd | hd
        · exact hall d hd
        · rw [List.mem_singleton.1 hd]; exact hc0
      have HX := hid (And.intro hsn hda)
      have hsubq := fun w => run_subG (⟨#[65, 66, 67, 120, 121, 122, 48, 49, 57, 33, 34, 37, 38, 39, 40, 41, 42, 43, 44, 45, 46, 47, 58, 59, 60, 61, 62, 63, 95]⟩ : ByteArray) q (q + 1) ((q : Int) + 1) (by omega) (by omega) (by show q + 1 ≤ 29; omega) w
      rw [hX] at hsubq
      have hl2 := HL.out
      clear hsn hda hall hcell hx hX hc0 hq
      go_wp2
      go_roundw
      case rel => exact ⟨k + 1, _, rfl, by go_num, by omega, by rw [HX.out.1, hsz], HX.out.2, hbl⟩
      case measure => simp [intOf]; omega
    · have hsn : (tb ++ (⟨#[90]⟩ : ByteArray)).size = tb.size + 1 := by simp [ByteArray.size_append]; rfl
      have hda : (tb ++ (⟨#[90]⟩ : ByteArray)).data.toList = tb.data.toList ++ [90] := by rw [ByteArray.data_append, Array.toList_append]
      have hl := len_list tb
      have hok : VOk 9 (tb ++ (⟨#[90]⟩ : ByteArray)) := by
        refine ⟨?_, by omega⟩
        rw [hda]
        refine flt_chr (lo := 1) (hi := 20) (by rw [List.length_append, hl]; simp; omega) (fun c hc => ?_)
        rcases List.mem_append.1 hc with hc | hc
        · exact hall c hc
        · rw [List.mem_singleton.1 hc]; decide
      have HX := hid hok
      clear hok hsn hda hall
      by_cases h18 : k < 18
      · have h18I : (k : Int) < 18 := by omega
        have hin : ¬ (k : Int) < (l.length : Int) := by omega
        clear hlt
        go_wp2
        go_ret2
        exact ⟨_, rfl, HX.out, hbl⟩
      · have h18I : ¬ (k : Int) < 18 := by omega
        clear hlt
        go_wp2
        go_ret2
        exact ⟨_, rfl, HX.out, hbl⟩

set_option maxHeartbeats 4000000 in
theorem value_11 (v : Value) (l : List UInt8) (w : World) (hr : Reads w v l) (hlen : l.length ≤ 9223372036854775807) :
    Calls Tryd.prog 13 #[.string ⟨#[57, 49]⟩, .int .i64 0, v] w fun e w' => ∃ x : ByteArray, e = .returned (.tuple #[.string x, .bool true]) ∧ VOk 12 x ∧ Below w.heap.size w w' := by
  have HL := hid hlen
  obtain ⟨ao, cap, rfl⟩ := hr.form
  have HR := hid hr
  clear hr hlen
  go_enter Tryd.func13, Tryd.ntmps13
  go_wp2_with fail
  go_loopw [15, 16] (fun t i wr => ∃ (k : Nat) (tb : ByteArray), t = .string tb ∧ i = .int .i64 (k : Int) ∧ k ≤ 18 ∧ tb.size = k ∧ (∀ c ∈ tb.data.toList, chF c = 0) ∧ Below w.heap.size w wr) (fun _ i _ => 18 - (intOf i).toNat)
  case atStart => exact ⟨0, ⟨#[]⟩, rfl, rfl, Nat.zero_le _, rfl, fun c hc => by simp at hc, Below.refl _ _⟩
  case round =>
    obtain ⟨k, tb, rfl, rfl, hk, hsz, hall, hbl⟩ := hrel
    have hz := hbl.size
    by_cases hlt : k < 18 ∧ k < l.length
    · obtain ⟨hlt, hin⟩ := hlt
      obtain ⟨b, off, cap', hv, hcap, hcell⟩ := HR.out.here (by omega)
      cases hv
      have hc := below_cells hbl _ _ (hcell k hin)
      have hyb := l[k].toNat_lt
      generalize l[k].toNat = y at *
      have hy2 : y < 256 := hyb
      clear hyb
      obtain ⟨q, hq⟩ : ∃ q : Nat, (y : Int) % 29 = (q : Int) := ⟨y % 29, by omega⟩
      have hq2 : q < 29 := by omega
      obtain ⟨c, hc0, hx⟩ := lett_at q hq2
      have hxs : ((⟨#[65, 66, 67, 120, 121, 122, 48, 49, 57, 33, 34, 37, 38, 39, 40, 41, 42, 43, 44, 45, 46, 47, 58, 59, 60, 61, 62, 63, 95]⟩ : ByteArray).extract q (q + 1)).size = 1 := by rw [← len_list, hx]; rfl
      obtain ⟨X, hX⟩ : ∃ X, (⟨#[65, 66, 67, 120, 121, 122, 48, 49, 57, 33, 34, 37, 38, 39, 40, 41, 42, 43, 44, 45, 46, 47, 58, 59, 60, 61, 62, 63, 95]⟩ : ByteArray).extract q (q + 1) = X := ⟨_, rfl⟩
      rw [hX] at hx hxs
      have hm : (y : Int).tmod 29 = (q : Int) := by rw [Int.tmod_eq_emod_of_nonneg (by omega)]; exact hq
      have hsn : (tb ++ X).size = tb.size + 1 := by rw [ByteArray.size_append, hxs]
      have hda : ∀ c ∈ (tb ++ X).data.toList, chF c = 0 := by
        rw [ByteArray.data_append, Array.toList_append, hx]
        intro d hd
        rcases List.mem_append.1 hd with hd | hd
        · exact hall d hd
        · rw [List.mem_singleton.1 hd]; exact hc0
      have HX := hid (And.intro hsn hda)
      have hsubq := fun w => run_subG (⟨#[65, 66, 67, 120, 121, 122, 48, 49, 57, 33, 34, 37, 38, 39, 40, 41, 42, 43, 44, 45, 46, 47, 58, 59, 60, 61, 62, 63, 95]⟩ : ByteArray) q (q + 1) ((q : Int) + 1) (by omega) (by omega) (by show q + 1 ≤ 29; omega) w
      rw [hX] at hsubq
      have hl2 := HL.out
      clear hsn hda hall hcell hx hX hc0 hq
      go_wp2
      go_roundw
      case rel => exact ⟨k + 1, _, rfl, by go_num, by omega, by rw [HX.out.1, hsz], HX.out.2, hbl⟩
      case measure => simp [intOf]; omega
    · have hsn : (tb ++ (⟨#[90]⟩ : ByteArray)).size = tb.size + 1 := by simp [ByteArray.size_append]; rfl
      have hda : (tb ++ (⟨#[90]⟩ : ByteArray)).data.toList = tb.data.toList ++ [90] := by rw [ByteArray.data_append, Array.toList_append]
      have hl := len_list tb
      have hok : VOk 12 (tb ++ (⟨#[90]⟩ : ByteArray)) := by
        refine ⟨?_, by omega⟩
        rw [hda]
        refine flt_chr (lo := 1) (hi := 90) (by rw [List.length_append, hl]; simp; omega) (fun c hc => ?_)
        rcases List.mem_append.1 hc with hc | hc
        · exact hall c hc
        · rw [List.mem_singleton.1 hc]; decide
      have HX := hid hok
      clear hok hsn hda hall
      by_cases h18 : k < 18
      · have h18I : (k : Int) < 18 := by omega
        have hin : ¬ (k : Int) < (l.length : Int) := by omega
        clear hlt
        go_wp2
        go_ret2
        exact ⟨_, rfl, HX.out, hbl⟩
      · have h18I : ¬ (k : Int) < 18 := by omega
        clear hlt
        go_wp2
        go_ret2
        exact ⟨_, rfl, HX.out, hbl⟩

theorem dig_ex (z : Int) (h0 : 0 ≤ z) (h1 : z < 10) : ∃ c : UInt8, 48 + z = (c.toNat : Int) ∧ IsD c ∧ (dv c : Int) = z := by
  have e : (UInt8.ofNat (48 + z.toNat)).toNat = 48 + z.toNat := by rw [UInt8.toNat_ofNat']; omega
  refine ⟨UInt8.ofNat (48 + z.toNat), by rw [e]; omega, ?_, ?_⟩
  · unfold IsD; rw [e]; omega
  · unfold dv; rw [e]; omega

theorem reads_six (w : World) (c0 c1 c2 c3 c4 c5 : UInt8) : Reads (w.alloc (.cells #[.int .u8 (c0.toNat : Int), .int .u8 (c1.toNat : Int), .int .u8 (c2.toNat : Int), .int .u8 (c3.toNat : Int), .int .u8 (c4.toNat : Int), .int .u8 (c5.toNat : Int)] 5)) (.slice (some ⟨w.heap.size, 0, none⟩) 6 6) [c0, c1, c2, c3, c4, c5] := by
  refine .inr ⟨w.heap.size, 0, 6, rfl, Nat.le_refl _, fun j hj => ?_⟩
  have hj' : j < 6 := hj
  have : j = 0 ∨ j = 1 ∨ j = 2 ∨ j = 3 ∨ j = 4 ∨ j = 5 := by omega
  rcases this with rfl | rfl | rfl | rfl | rfl | rfl <;> simp

theorem run_six (w : World) (c0 c1 c2 c3 c4 c5 : UInt8) :
    (convert 34 9 (.slice (some ⟨w.heap.size, 0, none⟩) 6 6)).run Tryd.prog (w.alloc (.cells #[.int .u8 (c0.toNat : Int), .int .u8 (c1.toNat : Int), .int .u8 (c2.toNat : Int), .int .u8 (c3.toNat : Int), .int .u8 (c4.toNat : Int), .int .u8 (c5.toNat : Int)] 5)) = .ok (.string ⟨#[c0, c1, c2, c3, c4, c5]⟩) (w.alloc (.cells #[.int .u8 (c0.toNat : Int), .int .u8 (c1.toNat : Int), .int .u8 (c2.toNat : Int), .int .u8 (c3.toNat : Int), .int .u8 (c4.toNat : Int), .int .u8 (c5.toNat : Int)] 5)) :=
  run_text (l := [c0, c1, c2, c3, c4, c5]) 34 9 Tryd.underlying34 Tryd.underlying5 Tryd.underlying9 (reads_six w c0 c1 c2 c3 c4 c5)

theorem parts_six (c0 c1 c2 c3 c4 c5 : UInt8) : yy [c0, c1, c2, c3, c4, c5] = 10 * dv c0 + dv c1 ∧ mm [c0, c1, c2, c3, c4, c5] = 10 * dv c2 + dv c3 ∧ dd [c0, c1, c2, c3, c4, c5] = 10 * dv c4 + dv c5 := by
  unfold yy mm dd nm
  simp
  omega


/-- the day's text -/
theorem day_val (Y M : Int) (hY0 : 0 ≤ Y) (hY1 : Y < 100) (hM0 : 0 ≤ M) (hM1 : M < 12) : ∃ c0 c1 c2 c3 c4 c5 : UInt8, 48 + Y / 10 = (c0.toNat : Int) ∧ 48 + Y % 10 = (c1.toNat : Int) ∧ 48 + (M + 1) / 10 = (c2.toNat : Int) ∧ 48 + (M + 1) % 10 = (c3.toNat : Int) ∧ 48 + Y % 3 = (c4.toNat : Int) ∧ 48 + M % 9 = (c5.toNat : Int) ∧ VOk 3 ⟨#[c0, c1, c2, c3, c4, c5]⟩ := by
  obtain ⟨c0, z0, d0, v0⟩ := dig_ex (Y / 10) (by omega) (by omega)
  obtain ⟨c1, z1, d1, v1⟩ := dig_ex (Y % 10) (by omega) (by omega)
  obtain ⟨c2, z2, d2, v2⟩ := dig_ex ((M + 1) / 10) (by omega) (by omega)
  obtain ⟨c3, z3, d3, v3⟩ := dig_ex ((M + 1) % 10) (by omega) (by omega)
  obtain ⟨c4, z4, d4, v4⟩ := dig_ex (Y % 3) (by omega) (by omega)
  obtain ⟨c5, z5, d5, v5⟩ := dig_ex (M % 9) (by omega) (by omega)
  have hp := parts_six c0 c1 c2 c3 c4 c5
  have hAll : AllD [c0, c1, c2, c3, c4, c5] := by
    intro c hc
    simp only [List.mem_cons, List.not_mem_nil, or_false] at hc
    rcases hc with rfl | rfl | rfl | rfl | rfl | rfl <;> assumption
  have hok : DayOk (yy [c0, c1, c2, c3, c4, c5]) (mm [c0, c1, c2, c3, c4, c5]) (dd [c0, c1, c2, c3, c4, c5]) := by
    refine dayOk_iff.2 ⟨by omega, by omega, ?_⟩
    unfold lastD
    split
    · split <;> omega
    · split <;> omega
  have hv : VOk 3 ⟨#[c0, c1, c2, c3, c4, c5]⟩ := by
    refine ⟨?_, by show 6 ≤ 19; omega⟩
    show fltE 6 6 dF (if DayOk (yy [c0, c1, c2, c3, c4, c5]) (mm [c0, c1, c2, c3, c4, c5]) (dd [c0, c1, c2, c3, c4, c5]) then 0 else 28) [c0, c1, c2, c3, c4, c5] = 0
    rw [if_pos hok]
    exact flt_dig ⟨by simp, by simp⟩ hAll
  exact ⟨c0, c1, c2, c3, c4, c5, z0, z1, z2, z3, z4, z5, hv⟩

set_option maxHeartbeats 4000000 in
theorem value_3 (v : Value) (l : List UInt8) (w : World) (hr : Reads w v l) (hlen : l.length ≤ 9223372036854775807) :
    Calls Tryd.prog 13 #[.string ⟨#[49, 55]⟩, .int .i64 6, v] w fun e w' => ∃ x : ByteArray, e = .returned (.tuple #[.string x, .bool true]) ∧ VOk 3 x ∧ Below w.heap.size w w' := by
  have HL := hid hlen
  obtain ⟨ao, cap, rfl⟩ := hr.form
  have HR := hid hr
  clear hr hlen
  by_cases h1 : 1 < l.length
  · have h1I : (1 : Int) < (l.length : Int) := by omega
    obtain ⟨b, off, cap', hv, hcap, hcell⟩ := HR.out.here (by omega)
    cases hv
    have hc0 := hcell 0 (by omega)
    rw [Nat.add_zero] at hc0
    have hc1 := hcell 1 (by omega)
    have hl2 := HL.out
    have hy := (l[0]'(by omega)).toNat_lt
    have hm := (l[1]'(by omega)).toNat_lt
    generalize (l[0]'(by omega)).toNat = y at *
    generalize (l[1]'(by omega)).toNat = m at *
    clear hcell HR
    go_enter Tryd.func13, Tryd.ntmps13
    go_wp2_with fail
    rw [show (y : Int) % 10 = (y : Int) % 100 % 10 by omega]
    obtain ⟨Y, hY⟩ : ∃ Y : Int, (y : Int) % 100 = Y := ⟨_, rfl⟩
    obtain ⟨M, hM⟩ : ∃ M : Int, (m : Int) % 12 = M := ⟨_, rfl⟩
    rw [hY, hM]
    have hY0 : 0 ≤ Y ∧ Y < 100 := by omega
    have hM0 : 0 ≤ M ∧ M < 12 := by omega
    obtain ⟨c0, c1, c2, c3, c4, c5, z0, z1, z2, z3, z4, z5, hv⟩ := day_val Y M (by omega) (by omega) (by omega) (by omega)
    rw [z0, z1, z2, z3, z4, z5]
    have kc := run_six w c0 c1 c2 c3 c4 c5
    have HX := hid hv
    obtain ⟨w1, hw1⟩ : ∃ w1, w1 = w.alloc (.cells #[.int .u8 (c0.toNat : Int), .int .u8 (c1.toNat : Int), .int .u8 (c2.toNat : Int), .int .u8 (c3.toNat : Int), .int .u8 (c4.toNat : Int), .int .u8 (c5.toNat : Int)] 5) := ⟨_, rfl⟩
    have b1 : Below w.heap.size w w1 := hw1 ▸ (Below.refl _ _).alloc (Nat.le_refl _) _
    rw [← hw1] at kc ⊢
    clear hv z0 z1 z2 z3 z4 z5 hw1
    go_wp2_with fail
    rw [kc]
    go_wp2
    go_ret2
    exact ⟨_, rfl, HX.out, b1⟩
  · have h1I : ¬ (1 : Int) < (l.length : Int) := by omega
    have kc := run_six w 48 48 48 49 48 48
    rw [show ((48 : UInt8).toNat : Int) = 48 from rfl, show ((49 : UInt8).toNat : Int) = 49 from rfl] at kc
    have HX := hid (show VOk 3 ⟨#[48, 48, 48, 49, 48, 48]⟩ from ⟨by decide +kernel, by decide +kernel⟩)
    go_enter Tryd.func13, Tryd.ntmps13
    go_wp2
    go_ret2
    exact ⟨_, rfl, HX.out, (Below.refl _ _).alloc (Nat.le_refl _) _⟩
end Go.Proofs.YtpplkoilpblpkaaDoor
