/-
  Values that are grown: within, stock, value.
-/
import Derived.Test.YtjmpkogjilefnaaDoorFwd
import Derived.Lib.Strings
namespace Go.Proofs.YtjmpkogjilefnaaDoor
open Go.RowKit
set_option maxRecDepth 100000

theorem within_neg (n d : Int) (hd : 0 < d) (h : n.tmod d < 0) : n.tmod d + d = n % d := by
  have h1 := Int.mul_tdiv_add_tmod n d
  have h2 := Int.lt_tmod_of_pos n hd
  have h3 : n = (n.tmod d + d) + d * (n.tdiv d - 1) := by
    rw [Int.mul_sub, Int.mul_one]
    omega
  have h4 : n % d = (n.tmod d + d) % d := by
    conv => lhs; rw [h3]
    rw [Int.add_mul_emod_self_left]
  rw [h4, Int.emod_eq_of_lt (by omega) (by omega)]

theorem within_pos (n d : Int) (hd : 0 < d) (h : ¬ n.tmod d < 0) : n.tmod d = n % d := by
  have h1 := Int.mul_tdiv_add_tmod n d
  have h2 := Int.tmod_lt_of_pos n hd
  have h3 : n = n.tmod d + d * n.tdiv d := by omega
  have h4 : n % d = (n.tmod d) % d := by
    conv => lhs; rw [h3]
    rw [Int.add_mul_emod_self_left]
  rw [h4, Int.emod_eq_of_lt (by omega) (by omega)]

theorem within_any (n m : Int) (w : World) (h0 : 0 ≤ m) (h1 : m < 1000000) :
    Calls Tryd.prog 17 #[.int .i64 n, .int .i64 m] w fun e w' => e = .returned (.int .i64 (n % (m + 1))) ∧ w' = w := by
  have hlt := Int.tmod_lt_of_pos n (show 0 < m + 1 by omega)
  have hgt := Int.lt_tmod_of_pos n (show 0 < m + 1 by omega)
  have hne : ¬ m + 1 = 0 := by omega
  by_cases h : n.tmod (m + 1) < 0
  · have e := within_neg n (m + 1) (by omega) h
    have HE : Hid (_) := e
    clear e
    go_enter Tryd.func17, Tryd.ntmps17
    go_wp2
    go_ret
    exact ⟨ret_int (by have := HE.out; omega), rfl⟩
  · have e := within_pos n (m + 1) (by omega) h
    have HE : Hid (_) := e
    clear e
    go_enter Tryd.func17, Tryd.ntmps17
    go_wp2
    go_ret
    exact ⟨ret_int (by have := HE.out; omega), rfl⟩

theorem allD_snoc {l : List UInt8} {c : UInt8} (h : AllD l) (hc : IsD c) : AllD (l ++ [c]) := by
  intro x hx
  rcases List.mem_append.1 hx with hx | hx
  · exact h x hx
  · rw [List.mem_singleton.1 hx]; exact hc

theorem allD_nil : AllD (⟨#[]⟩ : ByteArray).data.toList := by
  intro c hc
  simp at hc

def dc (z : Nat) : UInt8 := UInt8.ofNat (48 + z % 10)
theorem dc_toNat (z : Nat) : (dc z).toNat = 48 + z % 10 := by
  unfold dc
  rw [UInt8.toNat_ofNat']
  omega
theorem dc_digit (z : Nat) : IsD (dc z) := by
  unfold IsD
  rw [dc_toNat]
  omega

theorem fo_neg_iff (l : List UInt8) : ¬ 0 ≤ fo l ↔ AllD l := by
  rcases fo_cases l with ⟨a, b⟩ | ⟨j, hj, a, b⟩
  · rw [b]; exact ⟨fun _ => a, fun _ => by omega⟩
  · rw [b]; exact ⟨fun h => absurd (Int.natCast_nonneg j) h, fun h => absurd h a⟩
theorem Reads.here {w : World} {v : Value} {l : List UInt8} (h : Reads w v l) (hl : 0 < l.length) : ∃ b off cap, v = .slice (some ⟨b, off, none⟩) l.length cap ∧ l.length ≤ cap ∧ ∀ j (hj : j < l.length), w.cell? ⟨b, off + j, none⟩ = some (.int .u8 (l[j].toNat : Int)) := by
  rcases h with ⟨rfl, _⟩ | h
  · simp at hl
  · exact h
/-- a Value that may be, and is short -/
def VOk (k : Int) (x : ByteArray) : Prop := fltK k x.data.toList = 0 ∧ x.size ≤ 19
theorem flt_code {n : Nat} {l : List UInt8} (h : l.length = n) (ha : AllD l) (hs : sm l % 10 = 0) : fltE n n dF (cF l).1 l = 0 := by
  unfold fltE cF
  rw [if_neg (by omega), if_neg (by omega), if_neg (by rw [(byF_zero l).2 ha]; simp), if_pos hs]
theorem flt_dig {lo hi : Nat} {l : List UInt8} (h : lo ≤ l.length ∧ l.length ≤ hi) (ha : AllD l) : fltE lo hi dF 0 l = 0 := by
  unfold fltE
  rw [if_neg (by omega), if_neg (by omega), if_neg (by rw [(byF_zero l).2 ha]; simp)]
theorem flt_chr {lo hi : Nat} {l : List UInt8} (h : lo ≤ l.length ∧ l.length ≤ hi) (ha : ∀ c ∈ l, chF c = 0) : fltE lo hi chF 0 l = 0 := by
  unfold fltE
  rw [if_neg (by omega), if_neg (by omega), if_neg (by rw [byF_none ha]; simp)]

set_option maxHeartbeats 4000000 in
theorem value_0 (v : Value) (l : List UInt8) (w : World) (hr : Reads w v l) (hlen : l.length ≤ 9223372036854775807) :
    Calls Tryd.prog 16 #[.string ⟨#[48, 48]⟩, .int .i64 18, v] w fun e w' => ∃ x : ByteArray, e = .returned (.tuple #[.string x, .bool true]) ∧ VOk 0 x ∧ Below w.heap.size w w' := by
  have HL := hid hlen
  obtain ⟨ao, cap, rfl⟩ := hr.form
  have HR := hid hr
  clear hr hlen
  go_enter Tryd.func16, Tryd.ntmps16
  go_wp2_with fail
  go_loopw [8, 9] (fun t i wr => ∃ (k : Nat) (tb : ByteArray), t = .string tb ∧ i = .int .i64 (k : Int) ∧ k ≤ 17 ∧ tb.size = k ∧ AllD tb.data.toList ∧ Below w.heap.size w wr) (fun _ i _ => 17 - (intOf i).toNat)
  case atStart => exact ⟨0, ⟨#[]⟩, rfl, rfl, Nat.zero_le _, rfl, allD_nil, Below.refl _ _⟩
  case round =>
    obtain ⟨k, tb, rfl, rfl, hk, hsz, hall, hbl⟩ := hrel
    have hz := hbl.size
    by_cases hlt : k < 17
    · by_cases hin : k < l.length
      · obtain ⟨b, off, cap', hv, hcap, hcell⟩ := HR.out.here (by omega)
        cases hv
        have hc := below_cells hbl _ _ (hcell k hin)
        have hu : (48 + (l[k].toNat : Int) % 10) = ((dc l[k].toNat).toNat : Int) := by rw [dc_toNat]; omega
        have kc := run_one wr _ _ hu
        have hsn : (tb ++ (⟨#[dc l[k].toNat]⟩ : ByteArray)).size = tb.size + 1 := by simp [ByteArray.size_append]; rfl
        have hda : AllD (tb ++ (⟨#[dc l[k].toNat]⟩ : ByteArray)).data.toList := by
          rw [ByteArray.data_append, Array.toList_append]
          exact allD_snoc hall (dc_digit _)
        have HX : Hid (_) := And.intro hsn hda
        have hl2 := HL.out
        clear hu hsn hda hall hcell
        go_wp2
        go_roundw
        case rel => exact ⟨k + 1, _, rfl, by go_num, by omega, by rw [HX.out.1, hsz], HX.out.2, hbl.alloc hz _⟩
        case measure => simp [intOf]; omega
      · have hinI : ¬ (k : Int) < (l.length : Int) := by omega
        have hu : (48 : Int) = ((dc 0).toNat : Int) := by rw [dc_toNat]; rfl
        have kc := run_one wr _ _ hu
        have hsn : (tb ++ (⟨#[dc 0]⟩ : ByteArray)).size = tb.size + 1 := by simp [ByteArray.size_append]; rfl
        have hda : AllD (tb ++ (⟨#[dc 0]⟩ : ByteArray)).data.toList := by
          rw [ByteArray.data_append, Array.toList_append]
          exact allD_snoc hall (dc_digit 0)
        have HX : Hid (_) := And.intro hsn hda
        clear hu hsn hda hall
        go_wp2
        go_roundw
        case rel => exact ⟨k + 1, _, rfl, by go_num, by omega, by rw [HX.out.1, hsz], HX.out.2, hbl.alloc hz _⟩
        case measure => simp [intOf]; omega
    · have hkN : k = 17 := by omega
      have hl := len_list tb
      have HD := hid (digit_any tb wr (by omega))
      rw [digV_ok (by omega) (by omega) ((fo_neg_iff _).2 hall)] at HD
      have kc := run_one wr _ (ck tb.data.toList) rfl
      have hsn : (tb ++ (⟨#[ck tb.data.toList]⟩ : ByteArray)).size = tb.size + 1 := by simp [ByteArray.size_append]; rfl
      have hda : (tb ++ (⟨#[ck tb.data.toList]⟩ : ByteArray)).data.toList = tb.data.toList ++ [ck tb.data.toList] := by rw [ByteArray.data_append, Array.toList_append]
      have hok : VOk 0 (tb ++ (⟨#[ck tb.data.toList]⟩ : ByteArray)) := by
        refine ⟨?_, by omega⟩
        rw [hda]
        exact flt_code (n := 18) (by rw [List.length_append, hl]; simp; omega) (allD_snoc hall (ck_digit _)) (sm_ck_self _)
      have HX := hid hok
      clear hok hsn hda hall
      generalize ck tb.data.toList = c at HD kc HX
      go_wp2_with fail
      refine Calls.mono HD.out ?_
      rintro e w' ⟨rfl, hwz⟩
      have hws := hwz.symm
      clear hwz HD
      subst hws
      go_wp2
      go_ret2
      exact ⟨_, rfl, HX.out, hbl.alloc hz _⟩

set_option maxHeartbeats 4000000 in
theorem value_1 (v : Value) (l : List UInt8) (w : World) (hr : Reads w v l) (hlen : l.length ≤ 9223372036854775807) :
    Calls Tryd.prog 16 #[.string ⟨#[48, 49]⟩, .int .i64 14, v] w fun e w' => ∃ x : ByteArray, e = .returned (.tuple #[.string x, .bool true]) ∧ VOk 1 x ∧ Below w.heap.size w w' := by
  have HL := hid hlen
  obtain ⟨ao, cap, rfl⟩ := hr.form
  have HR := hid hr
  clear hr hlen
  go_enter Tryd.func16, Tryd.ntmps16
  go_wp2_with fail
  go_loopw [8, 9] (fun t i wr => ∃ (k : Nat) (tb : ByteArray), t = .string tb ∧ i = .int .i64 (k : Int) ∧ k ≤ 13 ∧ tb.size = k ∧ AllD tb.data.toList ∧ Below w.heap.size w wr) (fun _ i _ => 13 - (intOf i).toNat)
  case atStart => exact ⟨0, ⟨#[]⟩, rfl, rfl, Nat.zero_le _, rfl, allD_nil, Below.refl _ _⟩
  case round =>
    obtain ⟨k, tb, rfl, rfl, hk, hsz, hall, hbl⟩ := hrel
    have hz := hbl.size
    by_cases hlt : k < 13
    · by_cases hin : k < l.length
      · obtain ⟨b, off, cap', hv, hcap, hcell⟩ := HR.out.here (by omega)
        cases hv
        have hc := below_cells hbl _ _ (hcell k hin)
        have hu : (48 + (l[k].toNat : Int) % 10) = ((dc l[k].toNat).toNat : Int) := by rw [dc_toNat]; omega
        have kc := run_one wr _ _ hu
        have hsn : (tb ++ (⟨#[dc l[k].toNat]⟩ : ByteArray)).size = tb.size + 1 := by simp [ByteArray.size_append]; rfl
        have hda : AllD (tb ++ (⟨#[dc l[k].toNat]⟩ : ByteArray)).data.toList := by
          rw [ByteArray.data_append, Array.toList_append]
          exact allD_snoc hall (dc_digit _)
        have HX : Hid (_) := And.intro hsn hda
        have hl2 := HL.out
        clear hu hsn hda hall hcell
        go_wp2
        go_roundw
        case rel => exact ⟨k + 1, _, rfl, by go_num, by omega, by rw [HX.out.1, hsz], HX.out.2, hbl.alloc hz _⟩
        case measure => simp [intOf]; omega
      · have hinI : ¬ (k : Int) < (l.length : Int) := by omega
        have hu : (48 : Int) = ((dc 0).toNat : Int) := by rw [dc_toNat]; rfl
        have kc := run_one wr _ _ hu
        have hsn : (tb ++ (⟨#[dc 0]⟩ : ByteArray)).size = tb.size + 1 := by simp [ByteArray.size_append]; rfl
        have hda : AllD (tb ++ (⟨#[dc 0]⟩ : ByteArray)).data.toList := by
          rw [ByteArray.data_append, Array.toList_append]
          exact allD_snoc hall (dc_digit 0)
        have HX : Hid (_) := And.intro hsn hda
        clear hu hsn hda hall
        go_wp2
        go_roundw
        case rel => exact ⟨k + 1, _, rfl, by go_num, by omega, by rw [HX.out.1, hsz], HX.out.2, hbl.alloc hz _⟩
        case measure => simp [intOf]; omega
    · have hkN : k = 13 := by omega
      have hl := len_list tb
      have HD := hid (digit_any tb wr (by omega))
      rw [digV_ok (by omega) (by omega) ((fo_neg_iff _).2 hall)] at HD
      have kc := run_one wr _ (ck tb.data.toList) rfl
      have hsn : (tb ++ (⟨#[ck tb.data.toList]⟩ : ByteArray)).size = tb.size + 1 := by simp [ByteArray.size_append]; rfl
      have hda : (tb ++ (⟨#[ck tb.data.toList]⟩ : ByteArray)).data.toList = tb.data.toList ++ [ck tb.data.toList] := by rw [ByteArray.data_append, Array.toList_append]
      have hok : VOk 1 (tb ++ (⟨#[ck tb.data.toList]⟩ : ByteArray)) := by
        refine ⟨?_, by omega⟩
        rw [hda]
        exact flt_code (n := 14) (by rw [List.length_append, hl]; simp; omega) (allD_snoc hall (ck_digit _)) (sm_ck_self _)
      have HX := hid hok
      clear hok hsn hda hall
      generalize ck tb.data.toList = c at HD kc HX
      go_wp2_with fail
      refine Calls.mono HD.out ?_
      rintro e w' ⟨rfl, hwz⟩
      have hws := hwz.symm
      clear hwz HD
      subst hws
      go_wp2
      go_ret2
      exact ⟨_, rfl, HX.out, hbl.alloc hz _⟩

set_option maxHeartbeats 4000000 in
theorem value_9 (v : Value) (l : List UInt8) (w : World) (hr : Reads w v l) (hlen : l.length ≤ 9223372036854775807) :
    Calls Tryd.prog 16 #[.string ⟨#[52, 49, 52]⟩, .int .i64 13, v] w fun e w' => ∃ x : ByteArray, e = .returned (.tuple #[.string x, .bool true]) ∧ VOk 2 x ∧ Below w.heap.size w w' := by
  have HL := hid hlen
  obtain ⟨ao, cap, rfl⟩ := hr.form
  have HR := hid hr
  clear hr hlen
  go_enter Tryd.func16, Tryd.ntmps16
  go_wp2_with fail
  go_loopw [8, 9] (fun t i wr => ∃ (k : Nat) (tb : ByteArray), t = .string tb ∧ i = .int .i64 (k : Int) ∧ k ≤ 12 ∧ tb.size = k ∧ AllD tb.data.toList ∧ Below w.heap.size w wr) (fun _ i _ => 12 - (intOf i).toNat)
  case atStart => exact ⟨0, ⟨#[]⟩, rfl, rfl, Nat.zero_le _, rfl, allD_nil, Below.refl _ _⟩
  case round =>
    obtain ⟨k, tb, rfl, rfl, hk, hsz, hall, hbl⟩ := hrel
    have hz := hbl.size
    by_cases hlt : k < 12
    · by_cases hin : k < l.length
      · obtain ⟨b, off, cap', hv, hcap, hcell⟩ := HR.out.here (by omega)
        cases hv
        have hc := below_cells hbl _ _ (hcell k hin)
        have hu : (48 + (l[k].toNat : Int) % 10) = ((dc l[k].toNat).toNat : Int) := by rw [dc_toNat]; omega
        have kc := run_one wr _ _ hu
        have hsn : (tb ++ (⟨#[dc l[k].toNat]⟩ : ByteArray)).size = tb.size + 1 := by simp [ByteArray.size_append]; rfl
        have hda : AllD (tb ++ (⟨#[dc l[k].toNat]⟩ : ByteArray)).data.toList := by
          rw [ByteArray.data_append, Array.toList_append]
          exact allD_snoc hall (dc_digit _)
        have HX : Hid (_) := And.intro hsn hda
        have hl2 := HL.out
        clear hu hsn hda hall hcell
        go_wp2
        go_roundw
        case rel => exact ⟨k + 1, _, rfl, by go_num, by omega, by rw [HX.out.1, hsz], HX.out.2, hbl.alloc hz _⟩
        case measure => simp [intOf]; omega
      · have hinI : ¬ (k : Int) < (l.length : Int) := by omega
        have hu : (48 : Int) = ((dc 0).toNat : Int) := by rw [dc_toNat]; rfl
        have kc := run_one wr _ _ hu
        have hsn : (tb ++ (⟨#[dc 0]⟩ : ByteArray)).size = tb.size + 1 := by simp [ByteArray.size_append]; rfl
        have hda : AllD (tb ++ (⟨#[dc 0]⟩ : ByteArray)).data.toList := by
          rw [ByteArray.data_append, Array.toList_append]
          exact allD_snoc hall (dc_digit 0)
        have HX : Hid (_) := And.intro hsn hda
        clear hu hsn hda hall
        go_wp2
        go_roundw
        case rel => exact ⟨k + 1, _, rfl, by go_num, by omega, by rw [HX.out.1, hsz], HX.out.2, hbl.alloc hz _⟩
        case measure => simp [intOf]; omega
    · have hkN : k = 12 := by omega
      have hl := len_list tb
      have HD := hid (digit_any tb wr (by omega))
      rw [digV_ok (by omega) (by omega) ((fo_neg_iff _).2 hall)] at HD
      have kc := run_one wr _ (ck tb.data.toList) rfl
      have hsn : (tb ++ (⟨#[ck tb.data.toList]⟩ : ByteArray)).size = tb.size + 1 := by simp [ByteArray.size_append]; rfl
      have hda : (tb ++ (⟨#[ck tb.data.toList]⟩ : ByteArray)).data.toList = tb.data.toList ++ [ck tb.data.toList] := by rw [ByteArray.data_append, Array.toList_append]
      have hok : VOk 2 (tb ++ (⟨#[ck tb.data.toList]⟩ : ByteArray)) := by
        refine ⟨?_, by omega⟩
        rw [hda]
        exact flt_code (n := 13) (by rw [List.length_append, hl]; simp; omega) (allD_snoc hall (ck_digit _)) (sm_ck_self _)
      have HX := hid hok
      clear hok hsn hda hall
      generalize ck tb.data.toList = c at HD kc HX
      go_wp2_with fail
      refine Calls.mono HD.out ?_
      rintro e w' ⟨rfl, hwz⟩
      have hws := hwz.symm
      clear hwz HD
      subst hws
      go_wp2
      go_ret2
      exact ⟨_, rfl, HX.out, hbl.alloc hz _⟩

set_option maxHeartbeats 4000000 in
theorem value_4 (v : Value) (l : List UInt8) (w : World) (hr : Reads w v l) (hlen : l.length ≤ 9223372036854775807) :
    Calls Tryd.prog 16 #[.string ⟨#[50, 48]⟩, .int .i64 2, v] w fun e w' => ∃ x : ByteArray, e = .returned (.tuple #[.string x, .bool true]) ∧ VOk 4 x ∧ Below w.heap.size w w' := by
  have HL := hid hlen
  obtain ⟨ao, cap, rfl⟩ := hr.form
  have HR := hid hr
  clear hr hlen
  go_enter Tryd.func16, Tryd.ntmps16
  go_wp2_with fail
  go_loopw [19, 20] (fun t i wr => ∃ (k : Nat) (tb : ByteArray), t = .string tb ∧ i = .int .i64 (k : Int) ∧ k ≤ 2 ∧ tb.size = k ∧ AllD tb.data.toList ∧ Below w.heap.size w wr) (fun _ i _ => 2 - (intOf i).toNat)
  case atStart => exact ⟨0, ⟨#[]⟩, rfl, rfl, Nat.zero_le _, rfl, allD_nil, Below.refl _ _⟩
  case round =>
    obtain ⟨k, tb, rfl, rfl, hk, hsz, hall, hbl⟩ := hrel
    have hz := hbl.size
    by_cases hlt : k < 2
    · by_cases hin : k < l.length
      · obtain ⟨b, off, cap', hv, hcap, hcell⟩ := HR.out.here (by omega)
        cases hv
        have hc := below_cells hbl _ _ (hcell k hin)
        have hu : (48 + (l[k].toNat : Int) % 10) = ((dc l[k].toNat).toNat : Int) := by rw [dc_toNat]; omega
        have kc := run_one wr _ _ hu
        have hsn : (tb ++ (⟨#[dc l[k].toNat]⟩ : ByteArray)).size = tb.size + 1 := by simp [ByteArray.size_append]; rfl
        have hda : AllD (tb ++ (⟨#[dc l[k].toNat]⟩ : ByteArray)).data.toList := by
          rw [ByteArray.data_append, Array.toList_append]
          exact allD_snoc hall (dc_digit _)
        have HX : Hid (_) := And.intro hsn hda
        have hl2 := HL.out
        clear hu hsn hda hall hcell
        go_wp2
        go_roundw
        case rel => exact ⟨k + 1, _, rfl, by go_num, by omega, by rw [HX.out.1, hsz], HX.out.2, hbl.alloc hz _⟩
        case measure => simp [intOf]; omega
      · have hinI : ¬ (k : Int) < (l.length : Int) := by omega
        have hu : (55 : Int) = ((dc 7).toNat : Int) := by rw [dc_toNat]; rfl
        have kc := run_one wr _ _ hu
        have hsn : (tb ++ (⟨#[dc 7]⟩ : ByteArray)).size = tb.size + 1 := by simp [ByteArray.size_append]; rfl
        have hda : AllD (tb ++ (⟨#[dc 7]⟩ : ByteArray)).data.toList := by
          rw [ByteArray.data_append, Array.toList_append]
          exact allD_snoc hall (dc_digit 7)
        have HX : Hid (_) := And.intro hsn hda
        clear hu hsn hda hall
        go_wp2
        go_roundw
        case rel => exact ⟨k + 1, _, rfl, by go_num, by omega, by rw [HX.out.1, hsz], HX.out.2, hbl.alloc hz _⟩
        case measure => simp [intOf]; omega
    · have hkN : k = 2 := by omega
      have hl := len_list tb
      have HX := hid (show VOk 4 tb from ⟨flt_dig (lo := 2) (hi := 2) (by omega) hall, by omega⟩)
      clear hall
      go_wp2
      go_ret2
      exact ⟨_, rfl, HX.out, hbl⟩

set_option maxHeartbeats 4000000 in
theorem value_7 (v : Value) (l : List UInt8) (w : World) (hr : Reads w v l) (hlen : l.length ≤ 9223372036854775807) :
    Calls Tryd.prog 16 #[.string ⟨#[51, 49, 48, 51]⟩, .int .i64 6, v] w fun e w' => ∃ x : ByteArray, e = .returned (.tuple #[.string x, .bool true]) ∧ VOk 6 x ∧ Below w.heap.size w w' := by
  have HL := hid hlen
  obtain ⟨ao, cap, rfl⟩ := hr.form
  have HR := hid hr
  clear hr hlen
  go_enter Tryd.func16, Tryd.ntmps16
  go_wp2_with fail
  go_loopw [19, 20] (fun t i wr => ∃ (k : Nat) (tb : ByteArray), t = .string tb ∧ i = .int .i64 (k : Int) ∧ k ≤ 6 ∧ tb.size = k ∧ AllD tb.data.toList ∧ Below w.heap.size w wr) (fun _ i _ => 6 - (intOf i).toNat)
  case atStart => exact ⟨0, ⟨#[]⟩, rfl, rfl, Nat.zero_le _, rfl, allD_nil, Below.refl _ _⟩
  case round =>
    obtain ⟨k, tb, rfl, rfl, hk, hsz, hall, hbl⟩ := hrel
    have hz := hbl.size
    by_cases hlt : k < 6
    · by_cases hin : k < l.length
      · obtain ⟨b, off, cap', hv, hcap, hcell⟩ := HR.out.here (by omega)
        cases hv
        have hc := below_cells hbl _ _ (hcell k hin)
        have hu : (48 + (l[k].toNat : Int) % 10) = ((dc l[k].toNat).toNat : Int) := by rw [dc_toNat]; omega
        have kc := run_one wr _ _ hu
        have hsn : (tb ++ (⟨#[dc l[k].toNat]⟩ : ByteArray)).size = tb.size + 1 := by simp [ByteArray.size_append]; rfl
        have hda : AllD (tb ++ (⟨#[dc l[k].toNat]⟩ : ByteArray)).data.toList := by
          rw [ByteArray.data_append, Array.toList_append]
          exact allD_snoc hall (dc_digit _)
        have HX : Hid (_) := And.intro hsn hda
        have hl2 := HL.out
        clear hu hsn hda hall hcell
        go_wp2
        go_roundw
        case rel => exact ⟨k + 1, _, rfl, by go_num, by omega, by rw [HX.out.1, hsz], HX.out.2, hbl.alloc hz _⟩
        case measure => simp [intOf]; omega
      · have hinI : ¬ (k : Int) < (l.length : Int) := by omega
        have hu : (55 : Int) = ((dc 7).toNat : Int) := by rw [dc_toNat]; rfl
        have kc := run_one wr _ _ hu
        have hsn : (tb ++ (⟨#[dc 7]⟩ : ByteArray)).size = tb.size + 1 := by simp [ByteArray.size_append]; rfl
        have hda : AllD (tb ++ (⟨#[dc 7]⟩ : ByteArray)).data.toList := by
          rw [ByteArray.data_append, Array.toList_append]
          exact allD_snoc hall (dc_digit 7)
        have HX : Hid (_) := And.intro hsn hda
        clear hu hsn hda hall
        go_wp2
        go_roundw
        case rel => exact ⟨k + 1, _, rfl, by go_num, by omega, by rw [HX.out.1, hsz], HX.out.2, hbl.alloc hz _⟩
        case measure => simp [intOf]; omega
    · have hkN : k = 6 := by omega
      have hl := len_list tb
      have HX := hid (show VOk 6 tb from ⟨flt_dig (lo := 6) (hi := 6) (by omega) hall, by omega⟩)
      clear hall
      go_wp2
      go_ret2
      exact ⟨_, rfl, HX.out, hbl⟩

set_option maxHeartbeats 4000000 in
theorem value_10 (v : Value) (l : List UInt8) (w : World) (hr : Reads w v l) (hlen : l.length ≤ 9223372036854775807) :
    Calls Tryd.prog 16 #[.string ⟨#[56, 48, 48, 53]⟩, .int .i64 6, v] w fun e w' => ∃ x : ByteArray, e = .returned (.tuple #[.string x, .bool true]) ∧ VOk 8 x ∧ Below w.heap.size w w' := by
  have HL := hid hlen
  obtain ⟨ao, cap, rfl⟩ := hr.form
  have HR := hid hr
  clear hr hlen
  go_enter Tryd.func16, Tryd.ntmps16
  go_wp2_with fail
  go_loopw [19, 20] (fun t i wr => ∃ (k : Nat) (tb : ByteArray), t = .string tb ∧ i = .int .i64 (k : Int) ∧ k ≤ 6 ∧ tb.size = k ∧ AllD tb.data.toList ∧ Below w.heap.size w wr) (fun _ i _ => 6 - (intOf i).toNat)
  case atStart => exact ⟨0, ⟨#[]⟩, rfl, rfl, Nat.zero_le _, rfl, allD_nil, Below.refl _ _⟩
  case round =>
    obtain ⟨k, tb, rfl, rfl, hk, hsz, hall, hbl⟩ := hrel
    have hz := hbl.size
    by_cases hlt : k < 6
    · by_cases hin : k < l.length
      · obtain ⟨b, off, cap', hv, hcap, hcell⟩ := HR.out.here (by omega)
        cases hv
        have hc := below_cells hbl _ _ (hcell k hin)
        have hu : (48 + (l[k].toNat : Int) % 10) = ((dc l[k].toNat).toNat : Int) := by rw [dc_toNat]; omega
        have kc := run_one wr _ _ hu
        have hsn : (tb ++ (⟨#[dc l[k].toNat]⟩ : ByteArray)).size = tb.size + 1 := by simp [ByteArray.size_append]; rfl
        have hda : AllD (tb ++ (⟨#[dc l[k].toNat]⟩ : ByteArray)).data.toList := by
          rw [ByteArray.data_append, Array.toList_append]
          exact allD_snoc hall (dc_digit _)
        have HX : Hid (_) := And.intro hsn hda
        have hl2 := HL.out
        clear hu hsn hda hall hcell
        go_wp2
        go_roundw
        case rel => exact ⟨k + 1, _, rfl, by go_num, by omega, by rw [HX.out.1, hsz], HX.out.2, hbl.alloc hz _⟩
        case measure => simp [intOf]; omega
      · have hinI : ¬ (k : Int) < (l.length : Int) := by omega
        have hu : (55 : Int) = ((dc 7).toNat : Int) := by rw [dc_toNat]; rfl
        have kc := run_one wr _ _ hu
        have hsn : (tb ++ (⟨#[dc 7]⟩ : ByteArray)).size = tb.size + 1 := by simp [ByteArray.size_append]; rfl
        have hda : AllD (tb ++ (⟨#[dc 7]⟩ : ByteArray)).data.toList := by
          rw [ByteArray.data_append, Array.toList_append]
          exact allD_snoc hall (dc_digit 7)
        have HX : Hid (_) := And.intro hsn hda
        clear hu hsn hda hall
        go_wp2
        go_roundw
        case rel => exact ⟨k + 1, _, rfl, by go_num, by omega, by rw [HX.out.1, hsz], HX.out.2, hbl.alloc hz _⟩
        case measure => simp [intOf]; omega
    · have hkN : k = 6 := by omega
      have hl := len_list tb
      have HX := hid (show VOk 8 tb from ⟨flt_dig (lo := 6) (hi := 6) (by omega) hall, by omega⟩)
      clear hall
      go_wp2
      go_ret2
      exact ⟨_, rfl, HX.out, hbl⟩

set_option maxHeartbeats 4000000 in
theorem value_6 (v : Value) (l : List UInt8) (w : World) (hr : Reads w v l) (hlen : l.length ≤ 9223372036854775807) :
    Calls Tryd.prog 16 #[.string ⟨#[51, 48]⟩, .int .i64 (-8), v] w fun e w' => ∃ x : ByteArray, e = .returned (.tuple #[.string x, .bool true]) ∧ VOk 5 x ∧ Below w.heap.size w w' := by
  have HL := hid hlen
  obtain ⟨ao, cap, rfl⟩ := hr.form
  have HR := hid hr
  clear hr hlen
  have HW := hid (within_any (l.length : Int) 7 w (by omega) (by omega))
  obtain ⟨q, hq⟩ : ∃ q : Nat, (l.length : Int) % (7 + 1) = (q : Int) := ⟨((l.length : Int) % (7 + 1)).toNat, by omega⟩
  have hq8 : q + 1 ≤ 8 := by omega
  rw [hq] at HW
  clear hq
  go_enter Tryd.func16, Tryd.ntmps16
  go_wp2_with fail
  refine Calls.mono HW.out ?_
  rintro e wz ⟨rfl, hwz⟩
  have hws := hwz.symm
  clear hwz HW
  subst hws
  obtain ⟨N, hN⟩ : ∃ N : Nat, N = q + 1 := ⟨_, rfl⟩
  have hNI : (1 : Int) + (q : Int) = (N : Int) := by omega
  have hN1 : 1 ≤ N := by omega
  have hN2 : N ≤ 8 := by omega
  clear hN hq8
  go_wp2_with fail
  go_loopw [19, 20] (fun t i wr => ∃ (k : Nat) (tb : ByteArray), t = .string tb ∧ i = .int .i64 (k : Int) ∧ k ≤ N ∧ tb.size = k ∧ AllD tb.data.toList ∧ Below w.heap.size w wr) (fun _ i _ => N - (intOf i).toNat)
  case atStart => exact ⟨0, ⟨#[]⟩, rfl, rfl, Nat.zero_le _, rfl, allD_nil, Below.refl _ _⟩
  case round =>
    obtain ⟨k, tb, rfl, rfl, hk, hsz, hall, hbl⟩ := hrel
    have hz := hbl.size
    by_cases hlt : k < N
    · by_cases hin : k < l.length
      · obtain ⟨b, off, cap', hv, hcap, hcell⟩ := HR.out.here (by omega)
        cases hv
        have hc := below_cells hbl _ _ (hcell k hin)
        have hu : (48 + (l[k].toNat : Int) % 10) = ((dc l[k].toNat).toNat : Int) := by rw [dc_toNat]; omega
        have kc := run_one wr _ _ hu
        have hsn : (tb ++ (⟨#[dc l[k].toNat]⟩ : ByteArray)).size = tb.size + 1 := by simp [ByteArray.size_append]; rfl
        have hda : AllD (tb ++ (⟨#[dc l[k].toNat]⟩ : ByteArray)).data.toList := by
          rw [ByteArray.data_append, Array.toList_append]
          exact allD_snoc hall (dc_digit _)
        have HX : Hid (_) := And.intro hsn hda
        have hl2 := HL.out
        clear hu hsn hda hall hcell
        go_wp2
        go_roundw
        case rel => exact ⟨k + 1, _, rfl, by go_num, by omega, by rw [HX.out.1, hsz], HX.out.2, hbl.alloc hz _⟩
        case measure => simp [intOf]; omega
      · have hinI : ¬ (k : Int) < (l.length : Int) := by omega
        have hu : (55 : Int) = ((dc 7).toNat : Int) := by rw [dc_toNat]; rfl
        have kc := run_one wr _ _ hu
        have hsn : (tb ++ (⟨#[dc 7]⟩ : ByteArray)).size = tb.size + 1 := by simp [ByteArray.size_append]; rfl
        have hda : AllD (tb ++ (⟨#[dc 7]⟩ : ByteArray)).data.toList := by
          rw [ByteArray.data_append, Array.toList_append]
          exact allD_snoc hall (dc_digit 7)
        have HX : Hid (_) := And.intro hsn hda
        clear hu hsn hda hall
        go_wp2
        go_roundw
        case rel => exact ⟨k + 1, _, rfl, by go_num, by omega, by rw [HX.out.1, hsz], HX.out.2, hbl.alloc hz _⟩
        case measure => simp [intOf]; omega
    · have hkN : k = N := by omega
      have hl := len_list tb
      have HX := hid (show VOk 5 tb from ⟨flt_dig (lo := 1) (hi := 8) (by omega) hall, by omega⟩)
      clear hall
      go_wp2
      go_ret2
      exact ⟨_, rfl, HX.out, hbl⟩

set_option maxHeartbeats 4000000 in
theorem value_8 (v : Value) (l : List UInt8) (w : World) (hr : Reads w v l) (hlen : l.length ≤ 9223372036854775807) :
    Calls Tryd.prog 16 #[.string ⟨#[51, 57, 50, 50]⟩, .int .i64 (-15), v] w fun e w' => ∃ x : ByteArray, e = .returned (.tuple #[.string x, .bool true]) ∧ VOk 7 x ∧ Below w.heap.size w w' := by
  have HL := hid hlen
  obtain ⟨ao, cap, rfl⟩ := hr.form
  have HR := hid hr
  clear hr hlen
  have HW := hid (within_any (l.length : Int) 14 w (by omega) (by omega))
  obtain ⟨q, hq⟩ : ∃ q : Nat, (l.length : Int) % (14 + 1) = (q : Int) := ⟨((l.length : Int) % (14 + 1)).toNat, by omega⟩
  have hq8 : q + 1 ≤ 15 := by omega
  rw [hq] at HW
  clear hq
  go_enter Tryd.func16, Tryd.ntmps16
  go_wp2_with fail
  refine Calls.mono HW.out ?_
  rintro e wz ⟨rfl, hwz⟩
  have hws := hwz.symm
  clear hwz HW
  subst hws
  obtain ⟨N, hN⟩ : ∃ N : Nat, N = q + 1 := ⟨_, rfl⟩
  have hNI : (1 : Int) + (q : Int) = (N : Int) := by omega
  have hN1 : 1 ≤ N := by omega
  have hN2 : N ≤ 15 := by omega
  clear hN hq8
  go_wp2_with fail
  go_loopw [19, 20] (fun t i wr => ∃ (k : Nat) (tb : ByteArray), t = .string tb ∧ i = .int .i64 (k : Int) ∧ k ≤ N ∧ tb.size = k ∧ AllD tb.data.toList ∧ Below w.heap.size w wr) (fun _ i _ => N - (intOf i).toNat)
  case atStart => exact ⟨0, ⟨#[]⟩, rfl, rfl, Nat.zero_le _, rfl, allD_nil, Below.refl _ _⟩
  case round =>
    obtain ⟨k, tb, rfl, rfl, hk, hsz, hall, hbl⟩ := hrel
    have hz := hbl.size
    by_cases hlt : k < N
    · by_cases hin : k < l.length
      · obtain ⟨b, off, cap', hv, hcap, hcell⟩ := HR.out.here (by omega)
        cases hv
        have hc := below_cells hbl _ _ (hcell k hin)
        have hu : (48 + (l[k].toNat : Int) % 10) = ((dc l[k].toNat).toNat : Int) := by rw [dc_toNat]; omega
        have kc := run_one wr _ _ hu
        have hsn : (tb ++ (⟨#[dc l[k].toNat]⟩ : ByteArray)).size = tb.size + 1 := by simp [ByteArray.size_append]; rfl
        have hda : AllD (tb ++ (⟨#[dc l[k].toNat]⟩ : ByteArray)).data.toList := by
          rw [ByteArray.data_append, Array.toList_append]
          exact allD_snoc hall (dc_digit _)
        have HX : Hid (_) := And.intro hsn hda
        have hl2 := HL.out
        clear hu hsn hda hall hcell
        go_wp2
        go_roundw
        case rel => exact ⟨k + 1, _, rfl, by go_num, by omega, by rw [HX.out.1, hsz], HX.out.2, hbl.alloc hz _⟩
        case measure => simp [intOf]; omega
      · have hinI : ¬ (k : Int) < (l.length : Int) := by omega
        have hu : (55 : Int) = ((dc 7).toNat : Int) := by rw [dc_toNat]; rfl
        have kc := run_one wr _ _ hu
        have hsn : (tb ++ (⟨#[dc 7]⟩ : ByteArray)).size = tb.size + 1 := by simp [ByteArray.size_append]; rfl
        have hda : AllD (tb ++ (⟨#[dc 7]⟩ : ByteArray)).data.toList := by
          rw [ByteArray.data_append, Array.toList_append]
          exact allD_snoc hall (dc_digit 7)
        have HX : Hid (_) := And.intro hsn hda
        clear hu hsn hda hall
        go_wp2
        go_roundw
        case rel => exact ⟨k + 1, _, rfl, by go_num, by omega, by rw [HX.out.1, hsz], HX.out.2, hbl.alloc hz _⟩
        case measure => simp [intOf]; omega
    · have hkN : k = N := by omega
      have hl := len_list tb
      have HX := hid (show VOk 7 tb from ⟨flt_dig (lo := 1) (hi := 15) (by omega) hall, by omega⟩)
      clear hall
      go_wp2
      go_ret2
      exact ⟨_, rfl, HX.out, hbl⟩
end Go.Proofs.YtjmpkogjilefnaaDoor
