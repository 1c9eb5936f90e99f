/-
  What is wrong with an element behind others: gtin.fault.
-/
import Derived.Test.YtpplkoilpblpkaaDoorClash
import Derived.Test.YtpplkoilpblpkaaDoorFormFault
import Derived.Test.YtpplkoilpblpkaaDoorLater
import Derived.Deep.CutRange
import Derived.Deep.RegionWith
import Derived.Deep.RegionHeld
import Derived.Deep.DrawnRows
namespace Go.Proofs.YtpplkoilpblpkaaDoor
open Go.RowKit
set_option maxRecDepth 100000
attribute [local go_sem ↓] Go.wp_at_zero Go.wp_at_succ

/-- what fault answers -/
def ftE (L : List El) (a x : List UInt8) : Int := match kfind a with
  | none => 23
  | some k => if clE L a ≠ 0 then clE L a else fltK k x

theorem kfind_12 {l : List UInt8} {k : Int} (h : kfind l = some k) : 0 ≤ k ∧ k ≤ 12 := by
  unfold kfind at h
  obtain ⟨x, hx, rfl⟩ := Option.map_eq_some_iff.1 h
  have hm := List.mem_of_find?_eq_some hx
  have hall : (knl.all fun x => decide (0 ≤ x.2) && decide (x.2 ≤ 12)) = true := by decide
  have := List.all_eq_true.1 hall x hm
  simpa using this

set_option maxHeartbeats 4000000 in
theorem fault_any (v : Value) (L : List El) (a x : ByteArray) (w : World) (hkn : HasKn w) (hr : RE w v L) (hl : L.length ≤ 1000000) (hx : x.size ≤ 9223372036854775807) :
    Calls Tryd.prog 14 #[v, .agg #[.string a, .string x]] w fun e w' => e = .returned (.int .i64 (ftE L a.data.toList x.data.toList)) ∧ Below w.heap.size w w' := by
  have HC : Hid (∀ w1, Below w.heap.size w w1 → Calls Tryd.prog 29 #[v, .string a] w1 fun e w' => e = .returned (.int .i64 (clE L a.data.toList)) ∧ Below w1.heap.size w1 w') := fun w1 h1 => clash_any v L a w1 (hr.below h1) (by omega)
  have HK : Hid (_) := kindOf_any a _ (hkn.below ((Below.refl w.heap.size w).alloc (Nat.le_refl _) (.cells #[.string a, .string x] 36)))
  clear hkn hr hl
  unfold kofV at HK
  cases hf : kfind a.data.toList with
  | none =>
    have HE : Hid (_) := (show ftE L a.data.toList x.data.toList = 23 by unfold ftE; rw [hf])
    rw [hf] at HK
    simp only [Option.getD_none, Option.isSome_none] at HK
    clear hf hx HC
    go_enter Tryd.func14, Tryd.ntmps14
    go_wp2_with fail
    refine Calls.mono HK.out ?_
    rintro e w1 ⟨rfl, hb1⟩
    obtain ⟨_, _, hB, _⟩ := box_cells w w1 a x hb1
    clear hb1
    go_wp2
    go_ret
    exact ⟨ret_int HE.out.symm, hB⟩
  | some k =>
    obtain ⟨k0, k1⟩ := kfind_12 hf
    have HE : Hid (_) := (show ftE L a.data.toList x.data.toList = if clE L a.data.toList ≠ 0 then clE L a.data.toList else fltK k x.data.toList by unfold ftE; rw [hf])
    rw [hf] at HK
    simp only [Option.getD_some, Option.isSome_some] at HK
    have HO : Hid (∀ w1 w, Later w1 w → Calls Tryd.prog 30 #[.int .i64 k] w fun e w' => e = .returned (frmOf k) ∧ Later w1 w') := fun w1 w h => formOf_since k k0 k1 w1 w h
    have HF : Hid (∀ w1 w, Later w1 w → Calls Tryd.prog 31 #[frmOf k, .string x] w fun e w' => e = .returned (.int .i64 (fltK k x.data.toList)) ∧ Later w1 w') := fun w1 w h => (formFault_any k x w k0 k1 hx).mono (by rintro e w' ⟨rfl, hb⟩; exact ⟨rfl, h.trans (hb.mono h.size)⟩)
    obtain ⟨c, hc⟩ : ∃ c, c = clE L a.data.toList := ⟨_, rfl⟩
    rw [← hc] at HC HE
    obtain ⟨g, hg⟩ : ∃ g, g = fltK k x.data.toList := ⟨_, rfl⟩
    rw [← hg] at HF HE
    clear hf hx hc hg k0 k1
    go_enter Tryd.func14, Tryd.ntmps14
    go_wp2_with fail
    refine Calls.mono HK.out ?_
    rintro e w1 ⟨rfl, hb1⟩
    obtain ⟨e0, e1, hB, hlt⟩ := box_cells w w1 a x hb1
    clear hb1 HK
    have hz := hB.size
    go_wp2_with fail
    refine (HC.out _ hB).mono ?_
    rintro e w2 ⟨rfl, hb2⟩
    have f1 := below_cells hb2 _ _ e1
    have HB2 : Hid (_) := hB.trans (hb2.mono hz)
    clear e0 e1 hb2 HC hB
    by_cases h0 : c = 0
    · subst h0
      have cc := later_cell f1
      have CC : Hid (_) := cc
      clear cc
      have s0 : Later w2 w2.drew := (Below.refl _ _).drew
      have s00 : Later w2 w2 := Below.refl _ _
      go_upto_region 7 with fail
      first | go_region_held (fun wx => Later w2 wx ∧ wx.cell? ⟨w.heap.size, 1, none⟩ = some (.string x)) (exact ⟨by assumption, CC.out _ (by assumption)⟩) (first
        | (go_at_call 30; refine (HO.out w2 _ (by assumption)).mono ?_; rintro e w3 ⟨rfl, s3⟩)
        | (go_at_call 31; refine (HF.out w2 _ (by assumption)).mono ?_; rintro e w4 ⟨rfl, s4⟩)) | fail
      all_goals
        go_wp2
        go_ret
        exact ⟨ret_int (by rw [HE.out]; simp), HB2.out.trans (s4.mono HB2.out.size)⟩
    · have hcb : (c != 0) = true := by simp [h0]
      have HE2 : Hid (_) := (show ftE L a.data.toList x.data.toList = c by rw [HE.out, if_pos h0])
      clear f1
      go_wp2
      go_ret
      exact ⟨ret_int HE2.out.symm, HB2.out⟩
end Go.Proofs.YtpplkoilpblpkaaDoor
