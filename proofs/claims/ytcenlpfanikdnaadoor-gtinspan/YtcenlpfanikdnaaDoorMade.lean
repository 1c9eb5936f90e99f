/-
  Codes that are made: within, body, code, with.
-/
import Derived.Test.YtcenlpfanikdnaaDoorCheck
import Derived.Test.YtcenlpfanikdnaaDoorRowin
import Derived.Lib.Strings
namespace Go.Proofs.YtcenlpfanikdnaaDoor
open Go.RowKit
set_option maxRecDepth 100000

theorem within_neg (n d : Int) (hd : 0 < d) (h : n.tmod d < 0) : n.tmod d + d = n % d := by
  have h1 := Int.mul_tdiv_add_tmod n d
  have h2 := Int.lt_tmod_of_pos n hd
  have h3 : n = (n.tmod d + d) + d * (n.tdiv d - 1) := by
    rw [Int.mul_sub, Int.mul_one]
    omega
  have h4 : n % d = (n.tmod d + d) % d := by
    conv => lhs; rw [h3]
    rw [Int.add_mul_emod_self_left]
  rw [h4, Int.emod_eq_of_lt (by omega) (by omega)]

theorem within_pos (n d : Int) (hd : 0 < d) (h : ¬ n.tmod d < 0) : n.tmod d = n % d := by
  have h1 := Int.mul_tdiv_add_tmod n d
  have h2 := Int.tmod_lt_of_pos n hd
  have h3 : n = n.tmod d + d * n.tdiv d := by omega
  have h4 : n % d = (n.tmod d) % d := by
    conv => lhs; rw [h3]
    rw [Int.add_mul_emod_self_left]
  rw [h4, Int.emod_eq_of_lt (by omega) (by omega)]

theorem within_any (n m : Int) (w : World) (h0 : 0 ≤ m) (h1 : m < 1000000) :
    Calls Tryd.prog 7 #[.int .i64 n, .int .i64 m] w fun e w' => e = .returned (.int .i64 (n % (m + 1))) ∧ w' = w := by
  have hlt := Int.tmod_lt_of_pos n (show 0 < m + 1 by omega)
  have hgt := Int.lt_tmod_of_pos n (show 0 < m + 1 by omega)
  have hne : ¬ m + 1 = 0 := by omega
  by_cases h : n.tmod (m + 1) < 0
  · have e := within_neg n (m + 1) (by omega) h
    have HE : Hid (_) := e
    clear e
    go_enter Tryd.func7, Tryd.ntmps7
    go_wp2
    go_ret
    exact ⟨ret_int (by have := HE.out; omega), rfl⟩
  · have e := within_pos n (m + 1) (by omega) h
    have HE : Hid (_) := e
    clear e
    go_enter Tryd.func7, Tryd.ntmps7
    go_wp2
    go_ret
    exact ⟨ret_int (by have := HE.out; omega), rfl⟩

/-- another byte at a place -/
theorem set_cut (l : List UInt8) (k : Nat) (c : UInt8) (h : k < l.length) : l.take k ++ [c] ++ l.drop (k + 1) = l.set k c := by
  rw [List.set_eq_take_append_cons_drop, if_pos h, List.append_assoc]
  rfl

theorem with_any (s : ByteArray) (k : Nat) (c : UInt8) (w : World) (hk : k < s.size) (hs : s.size ≤ 100) :
    Calls Tryd.prog 16 #[.string s, .int .i64 (k : Int), .int .u8 (c.toNat : Int)] w fun e w' => ∃ t : ByteArray, e = .returned (.string t) ∧ t.data.toList = s.data.toList.set k c ∧ Below w.heap.size w w' := by
  have hl := len_list s
  have kc := run_one_drew w _ c rfl
  have hset := set_cut s.data.toList k c (by omega)
  go_enter Tryd.func16, Tryd.ntmps16
  go_wp2_with fail
  go_region
  go_wp2
  go_ret
  refine ⟨_, rfl, ?_, ((Below.refl _ _).alloc (Nat.le_refl _) _).drew⟩
  rw [← hset]
  have e1 : (s.extract (k + 1) s.size).data.toList = s.data.toList.drop (k + 1) := by
    rw [Lib.extract_data, ← hl, ← List.length_drop, List.take_length]
  have e2 : (s.extract 0 k).data.toList = s.data.toList.take k := by rw [Lib.extract_data]; rfl
  rw [ByteArray.data_append, Array.toList_append, ByteArray.data_append, Array.toList_append, e1, e2]

/-- how many digits -/
def bsz (r : Int) : Nat := if r = 1 then 11 else if r = 2 then 12 else if r = 3 then 13 else if r = 4 then 17 else 7

theorem allD_snoc {l : List UInt8} {c : UInt8} (h : AllD l) (hc : IsD c) : AllD (l ++ [c]) := by
  intro x hx
  rcases List.mem_append.1 hx with hx | hx
  · exact h x hx
  · rw [List.mem_singleton.1 hx]; exact hc

theorem allD_nil : AllD (⟨#[]⟩ : ByteArray).data.toList := by
  intro c hc
  simp at hc

def dc (z : Nat) : UInt8 := UInt8.ofNat (48 + z % 10)
theorem dc_toNat (z : Nat) : (dc z).toNat = 48 + z % 10 := by
  unfold dc
  rw [UInt8.toNat_ofNat']
  omega
theorem dc_digit (z : Nat) : IsD (dc z) := by
  unfold IsD
  rw [dc_toNat]
  omega

theorem cell_old {w w' : World} {p : Addr} {v : Value} (h : w.cell? p = some v) (hb : Below w.heap.size w w') : w'.cell? p = some v := by
  exact below_cells hb _ _ h

set_option maxHeartbeats 4000000 in
theorem body_any (v : Value) (l : List UInt8) (n : Int) (w : World) (hr : Reads w v l) (hlen : l.length ≤ 9223372036854775807) :
    Calls Tryd.prog 17 #[v, .int .i64 n] w fun e w' => ∃ b : ByteArray, e = .returned (.string b) ∧ AllD b.data.toList ∧ b.size = bsz (n % 5) ∧ Below w.heap.size w w' := by
  have HL : Hid (_) := hlen
  clear hlen
  have hw := within_any n 4 w (by omega) (by omega)
  have HW : Hid (_) := hw
  clear hw
  have h0 : 0 ≤ n % 5 := by omega
  have h5 : n % 5 < 5 := by omega
  rw [show (4 : Int) + 1 = 5 from rfl] at HW
  generalize n % 5 = r at HW h0 h5
  rcases hr with ⟨rfl, ao, cap, rfl, _⟩ | ⟨b, off, cap, rfl, hcap, hcell⟩
  · clear HL
    go_enter Tryd.func17, Tryd.ntmps17
    go_wp2_with fail
    refine Calls.mono HW.out ?_
    rintro e w' ⟨rfl, rfl⟩
    clear HW
    have hr5 : r = 0 ∨ r = 1 ∨ r = 2 ∨ r = 3 ∨ r = 4 := by omega
    clear h0 h5
    rcases hr5 with rfl | rfl | rfl | rfl | rfl
    · go_wp2_with fail
      go_loopw [6, 7] (fun t i wr => ∃ (k : Nat) (tb : ByteArray), t = .string tb ∧ i = .int .i64 (k : Int) ∧ k ≤ 7 ∧ tb.size = k ∧ AllD tb.data.toList ∧ Below w'.heap.size w' wr) (fun _ i _ => 7 - (intOf i).toNat)
      case atStart => exact ⟨0, ⟨#[]⟩, rfl, rfl, Nat.zero_le _, rfl, allD_nil, Below.refl _ _⟩
      case round =>
        obtain ⟨k, tb, rfl, rfl, hk, hsz, hall, hbl⟩ := hrel
        have hz := hbl.size
        by_cases hlt : k < 7
        · have hu : (48 : Int) = ((dc 0).toNat : Int) := by rw [dc_toNat]; rfl
          have kc := run_one wr _ _ hu
          have hsn : (tb ++ (⟨#[dc 0]⟩ : ByteArray)).size = tb.size + 1 := by simp [ByteArray.size_append]; rfl
          have hda : AllD (tb ++ (⟨#[dc 0]⟩ : ByteArray)).data.toList := by
            rw [ByteArray.data_append, Array.toList_append]
            exact allD_snoc hall (dc_digit 0)
          have HX : Hid (_) := And.intro hsn hda
          clear hu hsn hda hall
          go_wp2
          go_roundw
          case rel => exact ⟨k + 1, _, rfl, by go_num, by omega, by rw [HX.out.1, hsz], HX.out.2, hbl.alloc hz _⟩
          case measure => simp [intOf]; omega
        · have HA : Hid (_) := hall
          clear hall
          go_wp2
          go_ret
          exact ⟨tb, rfl, HA.out, by rw [hsz]; show k = 7; omega, hbl⟩
    · go_wp2_with fail
      go_loopw [6, 7] (fun t i wr => ∃ (k : Nat) (tb : ByteArray), t = .string tb ∧ i = .int .i64 (k : Int) ∧ k ≤ 11 ∧ tb.size = k ∧ AllD tb.data.toList ∧ Below w'.heap.size w' wr) (fun _ i _ => 11 - (intOf i).toNat)
      case atStart => exact ⟨0, ⟨#[]⟩, rfl, rfl, Nat.zero_le _, rfl, allD_nil, Below.refl _ _⟩
      case round =>
        obtain ⟨k, tb, rfl, rfl, hk, hsz, hall, hbl⟩ := hrel
        have hz := hbl.size
        by_cases hlt : k < 11
        · have hu : (48 : Int) = ((dc 0).toNat : Int) := by rw [dc_toNat]; rfl
          have kc := run_one wr _ _ hu
          have hsn : (tb ++ (⟨#[dc 0]⟩ : ByteArray)).size = tb.size + 1 := by simp [ByteArray.size_append]; rfl
          have hda : AllD (tb ++ (⟨#[dc 0]⟩ : ByteArray)).data.toList := by
            rw [ByteArray.data_append, Array.toList_append]
            exact allD_snoc hall (dc_digit 0)
          have HX : Hid (_) := And.intro hsn hda
          clear hu hsn hda hall
          go_wp2
          go_roundw
          case rel => exact ⟨k + 1, _, rfl, by go_num, by omega, by rw [HX.out.1, hsz], HX.out.2, hbl.alloc hz _⟩
          case measure => simp [intOf]; omega
        · have HA : Hid (_) := hall
          clear hall
          go_wp2
          go_ret
          exact ⟨tb, rfl, HA.out, by rw [hsz]; show k = 11; omega, hbl⟩
    · go_wp2_with fail
      go_loopw [6, 7] (fun t i wr => ∃ (k : Nat) (tb : ByteArray), t = .string tb ∧ i = .int .i64 (k : Int) ∧ k ≤ 12 ∧ tb.size = k ∧ AllD tb.data.toList ∧ Below w'.heap.size w' wr) (fun _ i _ => 12 - (intOf i).toNat)
      case atStart => exact ⟨0, ⟨#[]⟩, rfl, rfl, Nat.zero_le _, rfl, allD_nil, Below.refl _ _⟩
      case round =>
        obtain ⟨k, tb, rfl, rfl, hk, hsz, hall, hbl⟩ := hrel
        have hz := hbl.size
        by_cases hlt : k < 12
        · have hu : (48 : Int) = ((dc 0).toNat : Int) := by rw [dc_toNat]; rfl
          have kc := run_one wr _ _ hu
          have hsn : (tb ++ (⟨#[dc 0]⟩ : ByteArray)).size = tb.size + 1 := by simp [ByteArray.size_append]; rfl
          have hda : AllD (tb ++ (⟨#[dc 0]⟩ : ByteArray)).data.toList := by
            rw [ByteArray.data_append, Array.toList_append]
            exact allD_snoc hall (dc_digit 0)
          have HX : Hid (_) := And.intro hsn hda
          clear hu hsn hda hall
          go_wp2
          go_roundw
          case rel => exact ⟨k + 1, _, rfl, by go_num, by omega, by rw [HX.out.1, hsz], HX.out.2, hbl.alloc hz _⟩
          case measure => simp [intOf]; omega
        · have HA : Hid (_) := hall
          clear hall
          go_wp2
          go_ret
          exact ⟨tb, rfl, HA.out, by rw [hsz]; show k = 12; omega, hbl⟩
    · go_wp2_with fail
      go_loopw [6, 7] (fun t i wr => ∃ (k : Nat) (tb : ByteArray), t = .string tb ∧ i = .int .i64 (k : Int) ∧ k ≤ 13 ∧ tb.size = k ∧ AllD tb.data.toList ∧ Below w'.heap.size w' wr) (fun _ i _ => 13 - (intOf i).toNat)
      case atStart => exact ⟨0, ⟨#[]⟩, rfl, rfl, Nat.zero_le _, rfl, allD_nil, Below.refl _ _⟩
      case round =>
        obtain ⟨k, tb, rfl, rfl, hk, hsz, hall, hbl⟩ := hrel
        have hz := hbl.size
        by_cases hlt : k < 13
        · have hu : (48 : Int) = ((dc 0).toNat : Int) := by rw [dc_toNat]; rfl
          have kc := run_one wr _ _ hu
          have hsn : (tb ++ (⟨#[dc 0]⟩ : ByteArray)).size = tb.size + 1 := by simp [ByteArray.size_append]; rfl
          have hda : AllD (tb ++ (⟨#[dc 0]⟩ : ByteArray)).data.toList := by
            rw [ByteArray.data_append, Array.toList_append]
            exact allD_snoc hall (dc_digit 0)
          have HX : Hid (_) := And.intro hsn hda
          clear hu hsn hda hall
          go_wp2
          go_roundw
          case rel => exact ⟨k + 1, _, rfl, by go_num, by omega, by rw [HX.out.1, hsz], HX.out.2, hbl.alloc hz _⟩
          case measure => simp [intOf]; omega
        · have HA : Hid (_) := hall
          clear hall
          go_wp2
          go_ret
          exact ⟨tb, rfl, HA.out, by rw [hsz]; show k = 13; omega, hbl⟩
    · go_wp2_with fail
      go_loopw [6, 7] (fun t i wr => ∃ (k : Nat) (tb : ByteArray), t = .string tb ∧ i = .int .i64 (k : Int) ∧ k ≤ 17 ∧ tb.size = k ∧ AllD tb.data.toList ∧ Below w'.heap.size w' wr) (fun _ i _ => 17 - (intOf i).toNat)
      case atStart => exact ⟨0, ⟨#[]⟩, rfl, rfl, Nat.zero_le _, rfl, allD_nil, Below.refl _ _⟩
      case round =>
        obtain ⟨k, tb, rfl, rfl, hk, hsz, hall, hbl⟩ := hrel
        have hz := hbl.size
        by_cases hlt : k < 17
        · have hu : (48 : Int) = ((dc 0).toNat : Int) := by rw [dc_toNat]; rfl
          have kc := run_one wr _ _ hu
          have hsn : (tb ++ (⟨#[dc 0]⟩ : ByteArray)).size = tb.size + 1 := by simp [ByteArray.size_append]; rfl
          have hda : AllD (tb ++ (⟨#[dc 0]⟩ : ByteArray)).data.toList := by
            rw [ByteArray.data_append, Array.toList_append]
            exact allD_snoc hall (dc_digit 0)
          have HX : Hid (_) := And.intro hsn hda
          clear hu hsn hda hall
          go_wp2
          go_roundw
          case rel => exact ⟨k + 1, _, rfl, by go_num, by omega, by rw [HX.out.1, hsz], HX.out.2, hbl.alloc hz _⟩
          case measure => simp [intOf]; omega
        · have HA : Hid (_) := hall
          clear hall
          go_wp2
          go_ret
          exact ⟨tb, rfl, HA.out, by rw [hsz]; show k = 17; omega, hbl⟩
  · have HC0 : Hid (_) := hcap
    clear hcap
    go_enter Tryd.func17, Tryd.ntmps17
    go_wp2_with fail
    refine Calls.mono HW.out ?_
    rintro e w' ⟨rfl, rfl⟩
    clear HW
    have hr5 : r = 0 ∨ r = 1 ∨ r = 2 ∨ r = 3 ∨ r = 4 := by omega
    clear h0 h5
    rcases hr5 with rfl | rfl | rfl | rfl | rfl
    · go_wp2_with fail
      go_loopw [6, 7] (fun t i wr => ∃ (k : Nat) (tb : ByteArray), t = .string tb ∧ i = .int .i64 (k : Int) ∧ k ≤ 7 ∧ tb.size = k ∧ AllD tb.data.toList ∧ Below w'.heap.size w' wr) (fun _ i _ => 7 - (intOf i).toNat)
      case atStart => exact ⟨0, ⟨#[]⟩, rfl, rfl, Nat.zero_le _, rfl, allD_nil, Below.refl _ _⟩
      case round =>
        obtain ⟨k, tb, rfl, rfl, hk, hsz, hall, hbl⟩ := hrel
        have hz := hbl.size
        by_cases hlt : k < 7
        · by_cases hin : k < l.length
          · have hc := cell_old (hcell k hin) hbl
            have hu : (48 + (l[k].toNat : Int) % 10) = ((dc l[k].toNat).toNat : Int) := by rw [dc_toNat]; omega
            have kc := run_one wr _ _ hu
            have hsn : (tb ++ (⟨#[dc l[k].toNat]⟩ : ByteArray)).size = tb.size + 1 := by simp [ByteArray.size_append]; rfl
            have hda : AllD (tb ++ (⟨#[dc l[k].toNat]⟩ : ByteArray)).data.toList := by
              rw [ByteArray.data_append, Array.toList_append]
              exact allD_snoc hall (dc_digit _)
            have HX : Hid (_) := And.intro hsn hda
            have HC : Hid (_) := hcell
            have hl2 := HL.out
            clear hu hsn hda hall hcell
            go_wp2
            go_roundw
            case rel => exact ⟨k + 1, _, rfl, by go_num, by omega, by rw [HX.out.1, hsz], HX.out.2, hbl.alloc hz _⟩
            case measure => simp [intOf]; omega
          · have hu : (48 : Int) = ((dc 0).toNat : Int) := by rw [dc_toNat]; rfl
            have kc := run_one wr _ _ hu
            have hsn : (tb ++ (⟨#[dc 0]⟩ : ByteArray)).size = tb.size + 1 := by simp [ByteArray.size_append]; rfl
            have hda : AllD (tb ++ (⟨#[dc 0]⟩ : ByteArray)).data.toList := by
              rw [ByteArray.data_append, Array.toList_append]
              exact allD_snoc hall (dc_digit 0)
            have HX : Hid (_) := And.intro hsn hda
            clear hu hsn hda hall hcell
            go_wp2
            go_roundw
            case rel => exact ⟨k + 1, _, rfl, by go_num, by omega, by rw [HX.out.1, hsz], HX.out.2, hbl.alloc hz _⟩
            case measure => simp [intOf]; omega
        · have HA : Hid (_) := hall
          clear hall
          go_wp2
          go_ret
          exact ⟨tb, rfl, HA.out, by rw [hsz]; show k = 7; omega, hbl⟩
    · go_wp2_with fail
      go_loopw [6, 7] (fun t i wr => ∃ (k : Nat) (tb : ByteArray), t = .string tb ∧ i = .int .i64 (k : Int) ∧ k ≤ 11 ∧ tb.size = k ∧ AllD tb.data.toList ∧ Below w'.heap.size w' wr) (fun _ i _ => 11 - (intOf i).toNat)
      case atStart => exact ⟨0, ⟨#[]⟩, rfl, rfl, Nat.zero_le _, rfl, allD_nil, Below.refl _ _⟩
      case round =>
        obtain ⟨k, tb, rfl, rfl, hk, hsz, hall, hbl⟩ := hrel
        have hz := hbl.size
        by_cases hlt : k < 11
        · by_cases hin : k < l.length
          · have hc := cell_old (hcell k hin) hbl
            have hu : (48 + (l[k].toNat : Int) % 10) = ((dc l[k].toNat).toNat : Int) := by rw [dc_toNat]; omega
            have kc := run_one wr _ _ hu
            have hsn : (tb ++ (⟨#[dc l[k].toNat]⟩ : ByteArray)).size = tb.size + 1 := by simp [ByteArray.size_append]; rfl
            have hda : AllD (tb ++ (⟨#[dc l[k].toNat]⟩ : ByteArray)).data.toList := by
              rw [ByteArray.data_append, Array.toList_append]
              exact allD_snoc hall (dc_digit _)
            have HX : Hid (_) := And.intro hsn hda
            have HC : Hid (_) := hcell
            have hl2 := HL.out
            clear hu hsn hda hall hcell
            go_wp2
            go_roundw
            case rel => exact ⟨k + 1, _, rfl, by go_num, by omega, by rw [HX.out.1, hsz], HX.out.2, hbl.alloc hz _⟩
            case measure => simp [intOf]; omega
          · have hu : (48 : Int) = ((dc 0).toNat : Int) := by rw [dc_toNat]; rfl
            have kc := run_one wr _ _ hu
            have hsn : (tb ++ (⟨#[dc 0]⟩ : ByteArray)).size = tb.size + 1 := by simp [ByteArray.size_append]; rfl
            have hda : AllD (tb ++ (⟨#[dc 0]⟩ : ByteArray)).data.toList := by
              rw [ByteArray.data_append, Array.toList_append]
              exact allD_snoc hall (dc_digit 0)
            have HX : Hid (_) := And.intro hsn hda
            clear hu hsn hda hall hcell
            go_wp2
            go_roundw
            case rel => exact ⟨k + 1, _, rfl, by go_num, by omega, by rw [HX.out.1, hsz], HX.out.2, hbl.alloc hz _⟩
            case measure => simp [intOf]; omega
        · have HA : Hid (_) := hall
          clear hall
          go_wp2
          go_ret
          exact ⟨tb, rfl, HA.out, by rw [hsz]; show k = 11; omega, hbl⟩
    · go_wp2_with fail
      go_loopw [6, 7] (fun t i wr => ∃ (k : Nat) (tb : ByteArray), t = .string tb ∧ i = .int .i64 (k : Int) ∧ k ≤ 12 ∧ tb.size = k ∧ AllD tb.data.toList ∧ Below w'.heap.size w' wr) (fun _ i _ => 12 - (intOf i).toNat)
      case atStart => exact ⟨0, ⟨#[]⟩, rfl, rfl, Nat.zero_le _, rfl, allD_nil, Below.refl _ _⟩
      case round =>
        obtain ⟨k, tb, rfl, rfl, hk, hsz, hall, hbl⟩ := hrel
        have hz := hbl.size
        by_cases hlt : k < 12
        · by_cases hin : k < l.length
          · have hc := cell_old (hcell k hin) hbl
            have hu : (48 + (l[k].toNat : Int) % 10) = ((dc l[k].toNat).toNat : Int) := by rw [dc_toNat]; omega
            have kc := run_one wr _ _ hu
            have hsn : (tb ++ (⟨#[dc l[k].toNat]⟩ : ByteArray)).size = tb.size + 1 := by simp [ByteArray.size_append]; rfl
            have hda : AllD (tb ++ (⟨#[dc l[k].toNat]⟩ : ByteArray)).data.toList := by
              rw [ByteArray.data_append, Array.toList_append]
              exact allD_snoc hall (dc_digit _)
            have HX : Hid (_) := And.intro hsn hda
            have HC : Hid (_) := hcell
            have hl2 := HL.out
            clear hu hsn hda hall hcell
            go_wp2
            go_roundw
            case rel => exact ⟨k + 1, _, rfl, by go_num, by omega, by rw [HX.out.1, hsz], HX.out.2, hbl.alloc hz _⟩
            case measure => simp [intOf]; omega
          · have hu : (48 : Int) = ((dc 0).toNat : Int) := by rw [dc_toNat]; rfl
            have kc := run_one wr _ _ hu
            have hsn : (tb ++ (⟨#[dc 0]⟩ : ByteArray)).size = tb.size + 1 := by simp [ByteArray.size_append]; rfl
            have hda : AllD (tb ++ (⟨#[dc 0]⟩ : ByteArray)).data.toList := by
              rw [ByteArray.data_append, Array.toList_append]
              exact allD_snoc hall (dc_digit 0)
            have HX : Hid (_) := And.intro hsn hda
            clear hu hsn hda hall hcell
            go_wp2
            go_roundw
            case rel => exact ⟨k + 1, _, rfl, by go_num, by omega, by rw [HX.out.1, hsz], HX.out.2, hbl.alloc hz _⟩
            case measure => simp [intOf]; omega
        · have HA : Hid (_) := hall
          clear hall
          go_wp2
          go_ret
          exact ⟨tb, rfl, HA.out, by rw [hsz]; show k = 12; omega, hbl⟩
    · go_wp2_with fail
      go_loopw [6, 7] (fun t i wr => ∃ (k : Nat) (tb : ByteArray), t = .string tb ∧ i = .int .i64 (k : Int) ∧ k ≤ 13 ∧ tb.size = k ∧ AllD tb.data.toList ∧ Below w'.heap.size w' wr) (fun _ i _ => 13 - (intOf i).toNat)
      case atStart => exact ⟨0, ⟨#[]⟩, rfl, rfl, Nat.zero_le _, rfl, allD_nil, Below.refl _ _⟩
      case round =>
        obtain ⟨k, tb, rfl, rfl, hk, hsz, hall, hbl⟩ := hrel
        have hz := hbl.size
        by_cases hlt : k < 13
        · by_cases hin : k < l.length
          · have hc := cell_old (hcell k hin) hbl
            have hu : (48 + (l[k].toNat : Int) % 10) = ((dc l[k].toNat).toNat : Int) := by rw [dc_toNat]; omega
            have kc := run_one wr _ _ hu
            have hsn : (tb ++ (⟨#[dc l[k].toNat]⟩ : ByteArray)).size = tb.size + 1 := by simp [ByteArray.size_append]; rfl
            have hda : AllD (tb ++ (⟨#[dc l[k].toNat]⟩ : ByteArray)).data.toList := by
              rw [ByteArray.data_append, Array.toList_append]
              exact allD_snoc hall (dc_digit _)
            have HX : Hid (_) := And.intro hsn hda
            have HC : Hid (_) := hcell
            have hl2 := HL.out
            clear hu hsn hda hall hcell
            go_wp2
            go_roundw
            case rel => exact ⟨k + 1, _, rfl, by go_num, by omega, by rw [HX.out.1, hsz], HX.out.2, hbl.alloc hz _⟩
            case measure => simp [intOf]; omega
          · have hu : (48 : Int) = ((dc 0).toNat : Int) := by rw [dc_toNat]; rfl
            have kc := run_one wr _ _ hu
            have hsn : (tb ++ (⟨#[dc 0]⟩ : ByteArray)).size = tb.size + 1 := by simp [ByteArray.size_append]; rfl
            have hda : AllD (tb ++ (⟨#[dc 0]⟩ : ByteArray)).data.toList := by
              rw [ByteArray.data_append, Array.toList_append]
              exact allD_snoc hall (dc_digit 0)
            have HX : Hid (_) := And.intro hsn hda
            clear hu hsn hda hall hcell
            go_wp2
            go_roundw
            case rel => exact ⟨k + 1, _, rfl, by go_num, by omega, by rw [HX.out.1, hsz], HX.out.2, hbl.alloc hz _⟩
            case measure => simp [intOf]; omega
        · have HA : Hid (_) := hall
          clear hall
          go_wp2
          go_ret
          exact ⟨tb, rfl, HA.out, by rw [hsz]; show k = 13; omega, hbl⟩
    · go_wp2_with fail
      go_loopw [6, 7] (fun t i wr => ∃ (k : Nat) (tb : ByteArray), t = .string tb ∧ i = .int .i64 (k : Int) ∧ k ≤ 17 ∧ tb.size = k ∧ AllD tb.data.toList ∧ Below w'.heap.size w' wr) (fun _ i _ => 17 - (intOf i).toNat)
      case atStart => exact ⟨0, ⟨#[]⟩, rfl, rfl, Nat.zero_le _, rfl, allD_nil, Below.refl _ _⟩
      case round =>
        obtain ⟨k, tb, rfl, rfl, hk, hsz, hall, hbl⟩ := hrel
        have hz := hbl.size
        by_cases hlt : k < 17
        · by_cases hin : k < l.length
          · have hc := cell_old (hcell k hin) hbl
            have hu : (48 + (l[k].toNat : Int) % 10) = ((dc l[k].toNat).toNat : Int) := by rw [dc_toNat]; omega
            have kc := run_one wr _ _ hu
            have hsn : (tb ++ (⟨#[dc l[k].toNat]⟩ : ByteArray)).size = tb.size + 1 := by simp [ByteArray.size_append]; rfl
            have hda : AllD (tb ++ (⟨#[dc l[k].toNat]⟩ : ByteArray)).data.toList := by
              rw [ByteArray.data_append, Array.toList_append]
              exact allD_snoc hall (dc_digit _)
            have HX : Hid (_) := And.intro hsn hda
            have HC : Hid (_) := hcell
            have hl2 := HL.out
            clear hu hsn hda hall hcell
            go_wp2
            go_roundw
            case rel => exact ⟨k + 1, _, rfl, by go_num, by omega, by rw [HX.out.1, hsz], HX.out.2, hbl.alloc hz _⟩
            case measure => simp [intOf]; omega
          · have hu : (48 : Int) = ((dc 0).toNat : Int) := by rw [dc_toNat]; rfl
            have kc := run_one wr _ _ hu
            have hsn : (tb ++ (⟨#[dc 0]⟩ : ByteArray)).size = tb.size + 1 := by simp [ByteArray.size_append]; rfl
            have hda : AllD (tb ++ (⟨#[dc 0]⟩ : ByteArray)).data.toList := by
              rw [ByteArray.data_append, Array.toList_append]
              exact allD_snoc hall (dc_digit 0)
            have HX : Hid (_) := And.intro hsn hda
            clear hu hsn hda hall hcell
            go_wp2
            go_roundw
            case rel => exact ⟨k + 1, _, rfl, by go_num, by omega, by rw [HX.out.1, hsz], HX.out.2, hbl.alloc hz _⟩
            case measure => simp [intOf]; omega
        · have HA : Hid (_) := hall
          clear hall
          go_wp2
          go_ret
          exact ⟨tb, rfl, HA.out, by rw [hsz]; show k = 17; omega, hbl⟩

theorem bsz_code (r : Int) : SizeOk (bsz r + 1) := by
  unfold bsz SizeOk
  repeat' split
  all_goals omega

theorem bsz_le (r : Int) : bsz r ≤ 17 ∧ 7 ≤ bsz r := by
  unfold bsz
  repeat' split
  all_goals omega

set_option maxHeartbeats 800000 in
theorem code_any (v : Value) (l : List UInt8) (n : Int) (w : World) (hr : Reads w v l) (hlen : l.length ≤ 9223372036854775807) :
    Calls Tryd.prog 6 #[v, .int .i64 n] w fun e w' => ∃ c : ByteArray, e = .returned (.tuple #[.string c, .bool true]) ∧ Code1 c.data.toList ∧ c.size = bsz (n % 5) + 1 ∧ Below w.heap.size w w' := by
  have HB : Hid (_) := body_any v l n w hr hlen
  clear hr hlen
  go_enter Tryd.func6, Tryd.ntmps6
  go_wp2_with fail
  refine Calls.mono HB.out ?_
  rintro e w1 ⟨b, rfl, hall, hsz, hb⟩
  clear HB
  have hle := bsz_le (n % 5)
  have hl := len_list b
  have hz := hb.size
  have HD : Hid (_) := digit_any b w1 (by omega)
  rw [digV_ok (by omega) (by omega) ((fo_neg_iff _).2 hall)] at HD
  have hck := ck_toNat b.data.toList
  have hlt := ckN_lt b.data.toList
  have kc := run_one w1 _ (ck b.data.toList) rfl
  have hsn : (b ++ (⟨#[ck b.data.toList]⟩ : ByteArray)).size = b.size + 1 := by simp [ByteArray.size_append]; rfl
  have hda : (b ++ (⟨#[ck b.data.toList]⟩ : ByteArray)).data.toList = b.data.toList ++ [ck b.data.toList] := by rw [ByteArray.data_append, Array.toList_append]
  have hcode : Code1 (b ++ (⟨#[ck b.data.toList]⟩ : ByteArray)).data.toList := by
    rw [hda]
    refine ⟨allD_snoc hall (ck_digit _), ?_, sm_ck_self _⟩
    rw [List.length_append, hl, hsz]
    exact bsz_code _
  have HX : Hid (_) := And.intro hcode hsn
  clear hcode hsn hda hall
  generalize ck b.data.toList = c at HD kc HX hck
  have h1 : (48 : Int) ≤ c.toNat := by omega
  have h2 : (c.toNat : Int) ≤ 57 := by omega
  clear hck hlt
  go_wp2_with fail
  refine Calls.mono HD.out ?_
  rintro e w' ⟨rfl, rfl⟩
  clear HD
  go_wp2
  go_ret2
  exact ⟨_, rfl, HX.out.1, by rw [HX.out.2, hsz], hb.alloc hz _⟩
theorem ba_ext {a b : ByteArray} (h : a.data.toList = b.data.toList) : a = b := by
  cases a with | mk x =>
  cases b with | mk y =>
  congr 1
  exact Array.toList_inj.1 h

theorem allD_set {l : List UInt8} {k : Nat} {c : UInt8} (h : AllD l) (hc : IsD c) : AllD (l.set k c) := by
  intro x hx
  rcases List.mem_or_eq_of_mem_set hx with hx | hx
  · exact h x hx
  · rw [hx]; exact hc

theorem code_size {l : List UInt8} (h : Code1 l) : 8 ≤ l.length ∧ l.length ≤ 18 := by
  have := h.2.1
  unfold SizeOk at this
  omega

end Go.Proofs.YtcenlpfanikdnaaDoor
