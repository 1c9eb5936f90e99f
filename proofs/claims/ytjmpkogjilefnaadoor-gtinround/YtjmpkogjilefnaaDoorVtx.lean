/-
  Values that are grown: characters.
-/
import Derived.Test.YtjmpkogjilefnaaDoorVal
namespace Go.Proofs.YtjmpkogjilefnaaDoor
open Go.RowKit
set_option maxRecDepth 100000

def lettL : List UInt8 := [65, 66, 67, 120, 121, 122, 48, 49, 57, 33, 34, 37, 38, 39, 40, 41, 42, 43, 44, 45, 46, 47, 58, 59, 60, 61, 62, 63, 95]
theorem lett_ok : ∀ c ∈ lettL, chF c = 0 := by decide +kernel
theorem lett_at (k : Nat) (h : k < 29) : ∃ c : UInt8, chF c = 0 ∧ ((⟨#[65, 66, 67, 120, 121, 122, 48, 49, 57, 33, 34, 37, 38, 39, 40, 41, 42, 43, 44, 45, 46, 47, 58, 59, 60, 61, 62, 63, 95]⟩ : ByteArray).extract k (k + 1)).data.toList = [c] := by
  have hk : k < lettL.length := h
  refine ⟨lettL[k], lett_ok _ (List.getElem_mem hk), ?_⟩
  rw [Lib.extract_data]
  show List.take (k + 1 - k) (lettL.drop k) = _
  rw [List.drop_eq_getElem_cons hk, show k + 1 - k = 0 + 1 by omega, List.take_succ_cons, List.take_zero]

set_option maxHeartbeats 4000000 in
theorem value_2 (v : Value) (l : List UInt8) (w : World) (hr : Reads w v l) (hlen : l.length ≤ 9223372036854775807) :
    Calls Tryd.prog 16 #[.string ⟨#[49, 48]⟩, .int .i64 0, v] w fun e w' => ∃ x : ByteArray, e = .returned (.tuple #[.string x, .bool true]) ∧ VOk 9 x ∧ Below w.heap.size w w' := by
  have HL := hid hlen
  obtain ⟨ao, cap, rfl⟩ := hr.form
  have HR := hid hr
  clear hr hlen
  go_enter Tryd.func16, Tryd.ntmps16
  go_wp2_with fail
  go_loopw [15, 16] (fun t i wr => ∃ (k : Nat) (tb : ByteArray), t = .string tb ∧ i = .int .i64 (k : Int) ∧ k ≤ 18 ∧ tb.size = k ∧ (∀ c ∈ tb.data.toList, chF c = 0) ∧ Below w.heap.size w wr) (fun _ i _ => 18 - (intOf i).toNat)
  case atStart => exact ⟨0, ⟨#[]⟩, rfl, rfl, Nat.zero_le _, rfl, fun c hc => by simp at hc, Below.refl _ _⟩
  case round =>
    obtain ⟨k, tb, rfl, rfl, hk, hsz, hall, hbl⟩ := hrel
    have hz := hbl.size
    by_cases hlt : k < 18 ∧ k < l.length
    · obtain ⟨hlt, hin⟩ := hlt
      obtain ⟨b, off, cap', hv, hcap, hcell⟩ := HR.out.here (by omega)
      cases hv
      have hc := below_cells hbl _ _ (hcell k hin)
      have hyb := l[k].toNat_lt
      generalize l[k].toNat = y at *
      have hy2 : y < 256 := hyb
      clear hyb
      obtain ⟨q, hq⟩ : ∃ q : Nat, (y : Int) % 29 = (q : Int) := ⟨y % 29, by omega⟩
      have hq2 : q < 29 := by omega
      obtain ⟨c, hc0, hx⟩ := lett_at q hq2
      have hxs : ((⟨#[65, 66, 67, 120, 121, 122, 48, 49, 57, 33, 34, 37, 38, 39, 40, 41, 42, 43, 44, 45, 46, 47, 58, 59, 60, 61, 62, 63, 95]⟩ : ByteArray).extract q (q + 1)).size = 1 := by rw [← len_list, hx]; rfl
      obtain ⟨X, hX⟩ : ∃ X, (⟨#[65, 66, 67, 120, 121, 122, 48, 49, 57, 33, 34, 37, 38, 39, 40, 41, 42, 43, 44, 45, 46, 47, 58, 59, 60, 61, 62, 63, 95]⟩ : ByteArray).extract q (q + 1) = X := ⟨_, rfl⟩
      rw [hX] at hx hxs
      have hm : (y : Int).tmod 29 = (q : Int) := by rw [Int.tmod_eq_emod_of_nonneg (by omega)]; exact hq
      have hsn : (tb ++ X).size = tb.size + 1 := by rw [ByteArray.size_append, hxs]
      have hda : ∀ c ∈ (tb ++ X).data.toList, chF c = 0 := by
        rw [ByteArray.data_append, Array.toList_append, hx]
        intro d hd
        rcases List.mem_append.1 hd with hd | hd
        · exact hall d hd
        · rw [List.mem_singleton.1 hd]; exact hc0
      have HX := hid (And.intro hsn hda)
      have hsubq := fun w => run_subG (⟨#[65, 66, 67, 120, 121, 122, 48, 49, 57, 33, 34, 37, 38, 39, 40, 41, 42, 43, 44, 45, 46, 47, 58, 59, 60, 61, 62, 63, 95]⟩ : ByteArray) q (q + 1) ((q : Int) + 1) (by omega) (by omega) (by show q + 1 ≤ 29; omega) w
      rw [hX] at hsubq
      have hl2 := HL.out
      clear hsn hda hall hcell hx hX hc0 hq
      go_wp2
      go_roundw
      case rel => exact ⟨k + 1, _, rfl, by go_num, by omega, by rw [HX.out.1, hsz], HX.out.2, hbl⟩
      case measure => simp [intOf]; omega
    · have hsn : (tb ++ (⟨#[90]⟩ : ByteArray)).size = tb.size + 1 := by simp [ByteArray.size_append]; rfl
      have hda : (tb ++ (⟨#[90]⟩ : ByteArray)).data.toList = tb.data.toList ++ [90] := by rw [ByteArray.data_append, Array.toList_append]
      have hl := len_list tb
      have hok : VOk 9 (tb ++ (⟨#[90]⟩ : ByteArray)) := by
        refine ⟨?_, by omega⟩
        rw [hda]
        refine flt_chr (lo := 1) (hi := 20) (by rw [List.length_append, hl]; simp; omega) (fun c hc => ?_)
        rcases List.mem_append.1 hc with hc | hc
        · exact hall c hc
        · rw [List.mem_singleton.1 hc]; decide
      have HX := hid hok
      clear hok hsn hda hall
      by_cases h18 : k < 18
      · have h18I : (k : Int) < 18 := by omega
        have hin : ¬ (k : Int) < (l.length : Int) := by omega
        clear hlt
        go_wp2
        go_ret2
        exact ⟨_, rfl, HX.out, hbl⟩
      · have h18I : ¬ (k : Int) < 18 := by omega
        clear hlt
        go_wp2
        go_ret2
        exact ⟨_, rfl, HX.out, hbl⟩

set_option maxHeartbeats 4000000 in
theorem value_5 (v : Value) (l : List UInt8) (w : World) (hr : Reads w v l) (hlen : l.length ≤ 9223372036854775807) :
    Calls Tryd.prog 16 #[.string ⟨#[50, 49]⟩, .int .i64 0, v] w fun e w' => ∃ x : ByteArray, e = .returned (.tuple #[.string x, .bool true]) ∧ VOk 9 x ∧ Below w.heap.size w w' := by
  have HL := hid hlen
  obtain ⟨ao, cap, rfl⟩ := hr.form
  have HR := hid hr
  clear hr hlen
  go_enter Tryd.func16, Tryd.ntmps16
  go_wp2_with fail
  go_loopw [15, 16] (fun t i wr => ∃ (k : Nat) (tb : ByteArray), t = .string tb ∧ i = .int .i64 (k : Int) ∧ k ≤ 18 ∧ tb.size = k ∧ (∀ c ∈ tb.data.toList, chF c = 0) ∧ Below w.heap.size w wr) (fun _ i _ => 18 - (intOf i).toNat)
  case atStart => exact ⟨0, ⟨#[]⟩, rfl, rfl, Nat.zero_le _, rfl, fun c hc => by simp at hc, Below.refl _ _⟩
  case round =>
    obtain ⟨k, tb, rfl, rfl, hk, hsz, hall, hbl⟩ := hrel
    have hz := hbl.size
    by_cases hlt : k < 18 ∧ k < l.length
    · obtain ⟨hlt, hin⟩ := hlt
      obtain ⟨b, off, cap', hv, hcap, hcell⟩ := HR.out.here (by omega)
      cases hv
      have hc := below_cells hbl _ _ (hcell k hin)
      have hyb := l[k].toNat_lt
      generalize l[k].toNat = y at *
      have hy2 : y < 256 := hyb
      clear hyb
      obtain ⟨q, hq⟩ : ∃ q : Nat, (y : Int) % 29 = (q : Int) := ⟨y % 29, by omega⟩
      have hq2 : q < 29 := by omega
      obtain ⟨c, hc0, hx⟩ := lett_at q hq2
      have hxs : ((⟨#[65, 66, 67, 120, 121, 122, 48, 49, 57, 33, 34, 37, 38, 39, 40, 41, 42, 43, 44, 45, 46, 47, 58, 59, 60, 61, 62, 63, 95]⟩ : ByteArray).extract q (q + 1)).size = 1 := by rw [← len_list, hx]; rfl
      obtain ⟨X, hX⟩ : ∃ X, (⟨#[65, 66, 67, 120, 121, 122, 48, 49, 57, 33, 34, 37, 38, 39, 40, 41, 42, 43, 44, 45, 46, 47, 58, 59, 60, 61, 62, 63, 95]⟩ : ByteArray).extract q (q + 1) = X := ⟨_, rfl⟩
      rw [hX] at hx hxs
      have hm : (y : Int).tmod 29 = (q : Int) := by rw [Int.tmod_eq_emod_of_nonneg (by omega)]; exact hq
      have hsn : (tb ++ X).size = tb.size + 1 := by rw [ByteArray.size_append, hxs]
      have hda : ∀ c ∈ (tb ++ X).data.toList, chF c = 0 := by
        rw [ByteArray.data_append, Array.toList_append, hx]
        intro d hd
        rcases List.mem_append.1 hd with hd | hd
        · exact hall d hd
        · rw [List.mem_singleton.1 hd]; exact hc0
      have HX := hid (And.intro hsn hda)
      have hsubq := fun w => run_subG (⟨#[65, 66, 67, 120, 121, 122, 48, 49, 57, 33, 34, 37, 38, 39, 40, 41, 42, 43, 44, 45, 46, 47, 58, 59, 60, 61, 62, 63, 95]⟩ : ByteArray) q (q + 1) ((q : Int) + 1) (by omega) (by omega) (by show q + 1 ≤ 29; omega) w
      rw [hX] at hsubq
      have hl2 := HL.out
      clear hsn hda hall hcell hx hX hc0 hq
      go_wp2
      go_roundw
      case rel => exact ⟨k + 1, _, rfl, by go_num, by omega, by rw [HX.out.1, hsz], HX.out.2, hbl⟩
      case measure => simp [intOf]; omega
    · have hsn : (tb ++ (⟨#[90]⟩ : ByteArray)).size = tb.size + 1 := by simp [ByteArray.size_append]; rfl
      have hda : (tb ++ (⟨#[90]⟩ : ByteArray)).data.toList = tb.data.toList ++ [90] := by rw [ByteArray.data_append, Array.toList_append]
      have hl := len_list tb
      have hok : VOk 9 (tb ++ (⟨#[90]⟩ : ByteArray)) := by
        refine ⟨?_, by omega⟩
        rw [hda]
        refine flt_chr (lo := 1) (hi := 20) (by rw [List.length_append, hl]; simp; omega) (fun c hc => ?_)
        rcases List.mem_append.1 hc with hc | hc
        · exact hall c hc
        · rw [List.mem_singleton.1 hc]; decide
      have HX := hid hok
      clear hok hsn hda hall
      by_cases h18 : k < 18
      · have h18I : (k : Int) < 18 := by omega
        have hin : ¬ (k : Int) < (l.length : Int) := by omega
        clear hlt
        go_wp2
        go_ret2
        exact ⟨_, rfl, HX.out, hbl⟩
      · have h18I : ¬ (k : Int) < 18 := by omega
        clear hlt
        go_wp2
        go_ret2
        exact ⟨_, rfl, HX.out, hbl⟩

set_option maxHeartbeats 4000000 in
theorem value_11 (v : Value) (l : List UInt8) (w : World) (hr : Reads w v l) (hlen : l.length ≤ 9223372036854775807) :
    Calls Tryd.prog 16 #[.string ⟨#[57, 49]⟩, .int .i64 0, v] w fun e w' => ∃ x : ByteArray, e = .returned (.tuple #[.string x, .bool true]) ∧ VOk 12 x ∧ Below w.heap.size w w' := by
  have HL := hid hlen
  obtain ⟨ao, cap, rfl⟩ := hr.form
  have HR := hid hr
  clear hr hlen
  go_enter Tryd.func16, Tryd.ntmps16
  go_wp2_with fail
  go_loopw [15, 16] (fun t i wr => ∃ (k : Nat) (tb : ByteArray), t = .string tb ∧ i = .int .i64 (k : Int) ∧ k ≤ 18 ∧ tb.size = k ∧ (∀ c ∈ tb.data.toList, chF c = 0) ∧ Below w.heap.size w wr) (fun _ i _ => 18 - (intOf i).toNat)
  case atStart => exact ⟨0, ⟨#[]⟩, rfl, rfl, Nat.zero_le _, rfl, fun c hc => by simp at hc, Below.refl _ _⟩
  case round =>
    obtain ⟨k, tb, rfl, rfl, hk, hsz, hall, hbl⟩ := hrel
    have hz := hbl.size
    by_cases hlt : k < 18 ∧ k < l.length
    · obtain ⟨hlt, hin⟩ := hlt
      obtain ⟨b, off, cap', hv, hcap, hcell⟩ := HR.out.here (by omega)
      cases hv
      have hc := below_cells hbl _ _ (hcell k hin)
      have hyb := l[k].toNat_lt
      generalize l[k].toNat = y at *
      have hy2 : y < 256 := hyb
      clear hyb
      obtain ⟨q, hq⟩ : ∃ q : Nat, (y : Int) % 29 = (q : Int) := ⟨y % 29, by omega⟩
      have hq2 : q < 29 := by omega
      obtain ⟨c, hc0, hx⟩ := lett_at q hq2
      have hxs : ((⟨#[65, 66, 67, 120, 121, 122, 48, 49, 57, 33, 34, 37, 38, 39, 40, 41, 42, 43, 44, 45, 46, 47, 58, 59, 60, 61, 62, 63, 95]⟩ : ByteArray).extract q (q + 1)).size = 1 := by rw [← len_list, hx]; rfl
      obtain ⟨X, hX⟩ : ∃ X, (⟨#[65, 66, 67, 120, 121, 122, 48, 49, 57, 33, 34, 37, 38, 39, 40, 41, 42, 43, 44, 45, 46, 47, 58, 59, 60, 61, 62, 63, 95]⟩ : ByteArray).extract q (q + 1) = X := ⟨_, rfl⟩
      rw [hX] at hx hxs
      have hm : (y : Int).tmod 29 = (q : Int) := by rw [Int.tmod_eq_emod_of_nonneg (by omega)]; exact hq
      have hsn : (tb ++ X).size = tb.size + 1 := by rw [ByteArray.size_append, hxs]
      have hda : ∀ c ∈ (tb ++ X).data.toList, chF c = 0 := by
        rw [ByteArray.data_append, Array.toList_append, hx]
        intro d hd
        rcases List.mem_append.1 hd with hd | hd
        · exact hall d hd
        · rw [List.mem_singleton.1 hd]; exact hc0
      have HX := hid (And.intro hsn hda)
      have hsubq := fun w => run_subG (⟨#[65, 66, 67, 120, 121, 122, 48, 49, 57, 33, 34, 37, 38, 39, 40, 41, 42, 43, 44, 45, 46, 47, 58, 59, 60, 61, 62, 63, 95]⟩ : ByteArray) q (q + 1) ((q : Int) + 1) (by omega) (by omega) (by show q + 1 ≤ 29; omega) w
      rw [hX] at hsubq
      have hl2 := HL.out
      clear hsn hda hall hcell hx hX hc0 hq
      go_wp2
      go_roundw
      case rel => exact ⟨k + 1, _, rfl, by go_num, by omega, by rw [HX.out.1, hsz], HX.out.2, hbl⟩
      case measure => simp [intOf]; omega
    · have hsn : (tb ++ (⟨#[90]⟩ : ByteArray)).size = tb.size + 1 := by simp [ByteArray.size_append]; rfl
      have hda : (tb ++ (⟨#[90]⟩ : ByteArray)).data.toList = tb.data.toList ++ [90] := by rw [ByteArray.data_append, Array.toList_append]
      have hl := len_list tb
      have hok : VOk 12 (tb ++ (⟨#[90]⟩ : ByteArray)) := by
        refine ⟨?_, by omega⟩
        rw [hda]
        refine flt_chr (lo := 1) (hi := 90) (by rw [List.length_append, hl]; simp; omega) (fun c hc => ?_)
        rcases List.mem_append.1 hc with hc | hc
        · exact hall c hc
        · rw [List.mem_singleton.1 hc]; decide
      have HX := hid hok
      clear hok hsn hda hall
      by_cases h18 : k < 18
      · have h18I : (k : Int) < 18 := by omega
        have hin : ¬ (k : Int) < (l.length : Int) := by omega
        clear hlt
        go_wp2
        go_ret2
        exact ⟨_, rfl, HX.out, hbl⟩
      · have h18I : ¬ (k : Int) < 18 := by omega
        clear hlt
        go_wp2
        go_ret2
        exact ⟨_, rfl, HX.out, hbl⟩
end Go.Proofs.YtjmpkogjilefnaaDoor
