/-
  Midnight's texts read. Laid by mktm1.py.
-/
import Derived.Test.YtjpglgemnaknhaaGreatDoorTc1
import Derived.Test.YtjpglgemnaknhaaGreatDoorRnd4
namespace Go.Proofs.YtjpglgemnaknhaaGreatDoor
open Go.RowKit
set_option maxRecDepth 100000
set_option linter.unusedSimpArgs false

theorem pad_no (c : UInt8) (hc : isDB c = false) (n k : Nat) : c ∉ padD n k := fun h => by
  have := padD_dig n k c h
  rw [hc] at this
  cases this
/-- what stands in a day's text -/
theorem pd_facts (y m d : Int) (hv : VD y m d) (hw : 0 ≤ wkY y (nb y m d)) (f : Nat) (hf : f < 6) : (84 : UInt8) ∉ pdL f y m d ∧ (pdL f y m d).contains 45 = decide (f % 2 = 0) ∧ (pdL f y m d).length ≤ 10 := by
  have n84 := pad_no 84 (by decide)
  have n45 := pad_no 45 (by decide)
  have hl : ∀ k, (h : (pdT k y m d).size ≤ 10) → (pdL (k : Int) y m d).length ≤ 10 := fun k h => by
    rw [← pdT_list]
    have : (pdT k y m d).data.toList.length = (pdT k y m d).size := Array.length_toList
    omega
  match f, hf with
  | 0, _ => exact ⟨by simp [pdL, n84], by simp [pdL], hl 0 (by rw [mk_size _ 0 10 (rnd_0 y m d hv hw (pdT 0 y m d) (pdT_list 0 y m d)).1 (by decide)]; decide)⟩
  | 1, _ => exact ⟨by simp [pdL, n84], by simp [pdL, n45], hl 1 (by rw [mk_size _ 1 8 (rnd_1 y m d hv hw (pdT 1 y m d) (pdT_list 1 y m d)).1 (by decide)]; decide)⟩
  | 2, _ => exact ⟨by simp [pdL, n84], by simp [pdL], hl 2 (by rw [mk_size _ 2 8 (rnd_2 y m d hv hw (pdT 2 y m d) (pdT_list 2 y m d)).1 (by decide)]; decide)⟩
  | 3, _ => exact ⟨by simp [pdL, n84], by simp [pdL, n45], hl 3 (by rw [mk_size _ 3 7 (rnd_3 y m d hv hw (pdT 3 y m d) (pdT_list 3 y m d)).1 (by decide)]; decide)⟩
  | 4, _ => exact ⟨by simp [pdL, wtL, n84], by simp [pdL, wtL], hl 4 (by rw [mk_size _ 4 10 (rnd_4 y m d hv hw (pdT 4 y m d) (pdT_list 4 y m d)).1 (by decide)]; decide)⟩
  | 5, _ => exact ⟨by simp [pdL, wtL, n84], by simp [pdL, wtL, n45], hl 5 (by rw [mk_size _ 5 8 (rnd_5 y m d hv hw (pdT 5 y m d) (pdT_list 5 y m d)).1 (by decide)]; decide)⟩
def PrD (D : ByteArray) (y m d : Int) : Prop := ∀ w, HasAh w → Calls Tryz.prog 7 #[.string D] w fun e w' => e = .returned (rT y m d 0 0) ∧ Below w.heap.size w w'
def PrI (t : ByteArray) (v : Int × Int × Int) : Prop := ∀ w, HasAh w → Calls Tryz.prog 9 #[.string t] w fun e w' => e = .returned (tup v) ∧ Below w.heap.size w w'
theorem mid_E0 (t : ByteArray) (DL : List UInt8) (y m d : Int) (hp : PrD ⟨DL.toArray⟩ y m d) (hv : VD y m d) (h84 : (84 : UInt8) ∉ DL) (hcon : DL.contains 45 = true) (hlen : DL.length ≤ 10) (ht : t.data.toList = DL ++ 84 :: [50, 52, 90]) (hin : InstS ((nb y m d + 1) * 86400)) : PrI t ((nb y m d + 1) * 86400, 0, 0) := by
  have hs : t.size ≤ 64 := by
    have e := congrArg List.length ht
    rw [Array.length_toList] at e
    simp at e
    have e2 : t.size = t.data.size := rfl
    omega
  have hC := cuts_of t DL [50, 52] [] 90 ht hs h84 (by decide) (by decide) (by decide)
  rw [hcon] at hC
  have hT := (tmE1 50 52 (by decide) (by decide) ⟨[50, 52].toArray⟩ rfl).1
  have eT : tmP ⟨[50, 52].toArray⟩ 2 2 = (86400, 0, 0) := by decide +kernel
  rw [eT] at hT
  have hZ := zn_Z true ⟨[90].toArray⟩ rfl
  have e : 86400 * nb y m d + 86400 - 60 * 0 = (nb y m d + 1) * 86400 := by omega
  intro w hA
  have := parseInstant_good t _ _ _ _ hC y m d hp hv 86400 0 (by omega) (by omega) (by rw [cut_left]; exact hT) (by rw [cut_right]; exact hZ) (by rw [e]; exact hin) w hA
  rw [e] at this
  exact this
theorem mid_E1 (t : ByteArray) (DL : List UInt8) (y m d : Int) (hp : PrD ⟨DL.toArray⟩ y m d) (hv : VD y m d) (h84 : (84 : UInt8) ∉ DL) (hcon : DL.contains 45 = true) (hlen : DL.length ≤ 10) (ht : t.data.toList = DL ++ 84 :: [50, 52, 58, 48, 48, 90]) (hin : InstS ((nb y m d + 1) * 86400)) : PrI t ((nb y m d + 1) * 86400, 0, 0) := by
  have hs : t.size ≤ 64 := by
    have e := congrArg List.length ht
    rw [Array.length_toList] at e
    simp at e
    have e2 : t.size = t.data.size := rfl
    omega
  have hC := cuts_of t DL [50, 52, 58, 48, 48] [] 90 ht hs h84 (by decide) (by decide) (by decide)
  rw [hcon] at hC
  have hT := (tmE2 50 52 48 48 (by decide) (by decide) (by decide) (by decide) ⟨[50, 52, 58, 48, 48].toArray⟩ rfl).1
  have eT : tmP ⟨[50, 52, 58, 48, 48].toArray⟩ 3 5 = (86400, 0, 0) := by decide +kernel
  rw [eT] at hT
  have hZ := zn_Z true ⟨[90].toArray⟩ rfl
  have e : 86400 * nb y m d + 86400 - 60 * 0 = (nb y m d + 1) * 86400 := by omega
  intro w hA
  have := parseInstant_good t _ _ _ _ hC y m d hp hv 86400 0 (by omega) (by omega) (by rw [cut_left]; exact hT) (by rw [cut_right]; exact hZ) (by rw [e]; exact hin) w hA
  rw [e] at this
  exact this
theorem mid_E2 (t : ByteArray) (DL : List UInt8) (y m d : Int) (hp : PrD ⟨DL.toArray⟩ y m d) (hv : VD y m d) (h84 : (84 : UInt8) ∉ DL) (hcon : DL.contains 45 = true) (hlen : DL.length ≤ 10) (ht : t.data.toList = DL ++ 84 :: [50, 52, 58, 48, 48, 58, 48, 48, 43, 48, 48, 58, 48, 48]) (hin : InstS ((nb y m d + 1) * 86400)) : PrI t ((nb y m d + 1) * 86400, 0, 0) := by
  have hs : t.size ≤ 64 := by
    have e := congrArg List.length ht
    rw [Array.length_toList] at e
    simp at e
    have e2 : t.size = t.data.size := rfl
    omega
  have hC := cuts_of t DL [50, 52, 58, 48, 48, 58, 48, 48] [48, 48, 58, 48, 48] 43 ht hs h84 (by decide) (by decide) (by decide)
  rw [hcon] at hC
  have hT := (tmE3 50 52 48 48 48 48 (by decide) (by decide) (by decide) (by decide) (by decide) (by decide) ⟨[50, 52, 58, 48, 48, 58, 48, 48].toArray⟩ rfl).1
  have eT : tmP ⟨[50, 52, 58, 48, 48, 58, 48, 48].toArray⟩ 3 6 = (86400, 0, 0) := by decide +kernel
  rw [eT] at hT
  have hZ := (znEp2 48 48 48 48 (by decide) (by decide) (by decide) (by decide) ⟨[43, 48, 48, 58, 48, 48].toArray⟩ rfl).1
  have eZ : znP ⟨[43, 48, 48, 58, 48, 48].toArray⟩ 1 4 = (0, 0, 0) := by decide +kernel
  rw [eZ] at hZ
  have e : 86400 * nb y m d + 86400 - 60 * 0 = (nb y m d + 1) * 86400 := by omega
  intro w hA
  have := parseInstant_good t _ _ _ _ hC y m d hp hv 86400 0 (by omega) (by omega) (by rw [cut_left]; exact hT) (by rw [cut_right]; exact hZ) (by rw [e]; exact hin) w hA
  rw [e] at this
  exact this
theorem mid_P0 (t : ByteArray) (DL : List UInt8) (y m d : Int) (hp : PrD ⟨DL.toArray⟩ y m d) (hv : VD y m d) (h84 : (84 : UInt8) ∉ DL) (hcon : DL.contains 45 = false) (hlen : DL.length ≤ 10) (ht : t.data.toList = DL ++ 84 :: [50, 52, 90]) (hin : InstS ((nb y m d + 1) * 86400)) : PrI t ((nb y m d + 1) * 86400, 0, 0) := by
  have hs : t.size ≤ 64 := by
    have e := congrArg List.length ht
    rw [Array.length_toList] at e
    simp at e
    have e2 : t.size = t.data.size := rfl
    omega
  have hC := cuts_of t DL [50, 52] [] 90 ht hs h84 (by decide) (by decide) (by decide)
  rw [hcon] at hC
  have hT := (tmP1 50 52 (by decide) (by decide) ⟨[50, 52].toArray⟩ rfl).1
  have eT : tmP ⟨[50, 52].toArray⟩ 2 2 = (86400, 0, 0) := by decide +kernel
  rw [eT] at hT
  have hZ := zn_Z false ⟨[90].toArray⟩ rfl
  have e : 86400 * nb y m d + 86400 - 60 * 0 = (nb y m d + 1) * 86400 := by omega
  intro w hA
  have := parseInstant_good t _ _ _ _ hC y m d hp hv 86400 0 (by omega) (by omega) (by rw [cut_left]; exact hT) (by rw [cut_right]; exact hZ) (by rw [e]; exact hin) w hA
  rw [e] at this
  exact this
theorem mid_P1 (t : ByteArray) (DL : List UInt8) (y m d : Int) (hp : PrD ⟨DL.toArray⟩ y m d) (hv : VD y m d) (h84 : (84 : UInt8) ∉ DL) (hcon : DL.contains 45 = false) (hlen : DL.length ≤ 10) (ht : t.data.toList = DL ++ 84 :: [50, 52, 48, 48, 90]) (hin : InstS ((nb y m d + 1) * 86400)) : PrI t ((nb y m d + 1) * 86400, 0, 0) := by
  have hs : t.size ≤ 64 := by
    have e := congrArg List.length ht
    rw [Array.length_toList] at e
    simp at e
    have e2 : t.size = t.data.size := rfl
    omega
  have hC := cuts_of t DL [50, 52, 48, 48] [] 90 ht hs h84 (by decide) (by decide) (by decide)
  rw [hcon] at hC
  have hT := (tmP2 50 52 48 48 (by decide) (by decide) (by decide) (by decide) ⟨[50, 52, 48, 48].toArray⟩ rfl).1
  have eT : tmP ⟨[50, 52, 48, 48].toArray⟩ 2 4 = (86400, 0, 0) := by decide +kernel
  rw [eT] at hT
  have hZ := zn_Z false ⟨[90].toArray⟩ rfl
  have e : 86400 * nb y m d + 86400 - 60 * 0 = (nb y m d + 1) * 86400 := by omega
  intro w hA
  have := parseInstant_good t _ _ _ _ hC y m d hp hv 86400 0 (by omega) (by omega) (by rw [cut_left]; exact hT) (by rw [cut_right]; exact hZ) (by rw [e]; exact hin) w hA
  rw [e] at this
  exact this
theorem mid_P2 (t : ByteArray) (DL : List UInt8) (y m d : Int) (hp : PrD ⟨DL.toArray⟩ y m d) (hv : VD y m d) (h84 : (84 : UInt8) ∉ DL) (hcon : DL.contains 45 = false) (hlen : DL.length ≤ 10) (ht : t.data.toList = DL ++ 84 :: [50, 52, 48, 48, 48, 48, 43, 48, 48]) (hin : InstS ((nb y m d + 1) * 86400)) : PrI t ((nb y m d + 1) * 86400, 0, 0) := by
  have hs : t.size ≤ 64 := by
    have e := congrArg List.length ht
    rw [Array.length_toList] at e
    simp at e
    have e2 : t.size = t.data.size := rfl
    omega
  have hC := cuts_of t DL [50, 52, 48, 48, 48, 48] [48, 48] 43 ht hs h84 (by decide) (by decide) (by decide)
  rw [hcon] at hC
  have hT := (tmP3 50 52 48 48 48 48 (by decide) (by decide) (by decide) (by decide) (by decide) (by decide) ⟨[50, 52, 48, 48, 48, 48].toArray⟩ rfl).1
  have eT : tmP ⟨[50, 52, 48, 48, 48, 48].toArray⟩ 2 4 = (86400, 0, 0) := by decide +kernel
  rw [eT] at hT
  have hZ := (znPp1 48 48 (by decide) (by decide) ⟨[43, 48, 48].toArray⟩ rfl).1
  have eZ : znP ⟨[43, 48, 48].toArray⟩ 1 3 = (0, 0, 0) := by decide +kernel
  rw [eZ] at hZ
  have e : 86400 * nb y m d + 86400 - 60 * 0 = (nb y m d + 1) * 86400 := by omega
  intro w hA
  have := parseInstant_good t _ _ _ _ hC y m d hp hv 86400 0 (by omega) (by omega) (by rw [cut_left]; exact hT) (by rw [cut_right]; exact hZ) (by rw [e]; exact hin) w hA
  rw [e] at this
  exact this
theorem mid_x1 (t : ByteArray) (DL : List UInt8) (y m d : Int) (hp : PrD ⟨DL.toArray⟩ y m d) (h84 : (84 : UInt8) ∉ DL) (hcon : DL.contains 45 = true) (hlen : DL.length ≤ 10) (ht : t.data.toList = DL ++ 84 :: [50, 52, 58, 48, 49, 90]) : PrI t (0, 32, (DL.length : Int) + 1 + 0) := by
  have hs : t.size ≤ 64 := by
    have e := congrArg List.length ht
    rw [Array.length_toList] at e
    simp at e
    have e2 : t.size = t.data.size := rfl
    omega
  have hC := cuts_of t DL [50, 52, 58, 48, 49] [] 90 ht hs h84 (by decide) (by decide) (by decide)
  rw [hcon] at hC
  have hT := (tmE2 50 52 48 49 (by decide) (by decide) (by decide) (by decide) ⟨[50, 52, 58, 48, 49].toArray⟩ rfl).1
  have eT : tmP ⟨[50, 52, 58, 48, 49].toArray⟩ 3 5 = (0, 32, 0) := by decide +kernel
  rw [eT] at hT
  intro w hA
  exact parseInstant_time t _ _ _ _ hC y m d hp 0 32 0 (by omega) (by decide) (by rw [cut_left]; exact hT) w hA
theorem mid_x2 (t : ByteArray) (DL : List UInt8) (y m d : Int) (hp : PrD ⟨DL.toArray⟩ y m d) (h84 : (84 : UInt8) ∉ DL) (hcon : DL.contains 45 = true) (hlen : DL.length ≤ 10) (ht : t.data.toList = DL ++ 84 :: [50, 51, 58, 54, 48, 90]) : PrI t (0, 32, (DL.length : Int) + 1 + 3) := by
  have hs : t.size ≤ 64 := by
    have e := congrArg List.length ht
    rw [Array.length_toList] at e
    simp at e
    have e2 : t.size = t.data.size := rfl
    omega
  have hC := cuts_of t DL [50, 51, 58, 54, 48] [] 90 ht hs h84 (by decide) (by decide) (by decide)
  rw [hcon] at hC
  have hT := (tmE2 50 51 54 48 (by decide) (by decide) (by decide) (by decide) ⟨[50, 51, 58, 54, 48].toArray⟩ rfl).1
  have eT : tmP ⟨[50, 51, 58, 54, 48].toArray⟩ 3 5 = (0, 32, 3) := by decide +kernel
  rw [eT] at hT
  intro w hA
  exact parseInstant_time t _ _ _ _ hC y m d hp 0 32 3 (by omega) (by decide) (by rw [cut_left]; exact hT) w hA
end Go.Proofs.YtjpglgemnaknhaaGreatDoor
