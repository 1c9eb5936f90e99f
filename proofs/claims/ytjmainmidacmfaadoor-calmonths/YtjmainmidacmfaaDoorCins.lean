/-
  AddSpan.
-/
import Derived.Test.YtjmainmidacmfaaDoorCadd
namespace Go.Proofs.YtjmainmidacmfaaDoor
open Go.RowKit
set_option maxRecDepth 100000

/-- a span lies in block b -/
def SBox (w : World) (b : Nat) (y m v d h i s : Int) : Prop := w.heap[b]? = some (.cells #[.int .i64 y, .int .i64 m, .int .i64 v, .int .i64 d, .int .i64 h, .int .i64 i, .int .i64 s] 23 (0, 0))

theorem SBox.facts {w : World} {b : Nat} {y m v d h i s : Int} (x : SBox w b y m v d h i s) :
    w.cell? ⟨b, 0, none⟩ = some (.int .i64 y) ∧ w.cell? ⟨b, 1, none⟩ = some (.int .i64 m) ∧ w.cell? ⟨b, 2, none⟩ = some (.int .i64 v) ∧ w.cell? ⟨b, 3, none⟩ = some (.int .i64 d) ∧
    w.cell? ⟨b, 4, none⟩ = some (.int .i64 h) ∧ w.cell? ⟨b, 5, none⟩ = some (.int .i64 i) ∧ w.cell? ⟨b, 6, none⟩ = some (.int .i64 s) ∧ b < w.heap.size :=
  ⟨by rw [Lib.cell_of_heap x]; rfl, by rw [Lib.cell_of_heap x]; rfl, by rw [Lib.cell_of_heap x]; rfl, by rw [Lib.cell_of_heap x]; rfl, by rw [Lib.cell_of_heap x]; rfl, by rw [Lib.cell_of_heap x]; rfl, by rw [Lib.cell_of_heap x]; rfl, (Array.getElem?_eq_some_iff.1 x).1⟩
theorem SBox.later {w w' : World} {b : Nat} {y m v d h i s : Int} (x : SBox w b y m v d h i s) (hb : Below w.heap.size w w') : SBox w' b y m v d h i s := (hb.block b (Array.getElem?_eq_some_iff.1 x).1).trans x
theorem SBox.new (w : World) (y m v d h i s : Int) : SBox (w.alloc (.cells #[.int .i64 y, .int .i64 m, .int .i64 v, .int .i64 d, .int .i64 h, .int .i64 i, .int .i64 s] 23)) w.heap.size y m v d h i s := heap_alloc_new _ _

/-- the seconds of a span's days and clock times -/
def spSe (v d h i s : Int) : Int := 86400 * (7 * v + d) + 3600 * h + 60 * i + s
/-- the instant behind so many months and seconds -/
def isum (t mo se : Int) : Int := 86400 * am (t / 86400) mo + t % 86400 + se
abbrev Inst (t : Int) : Prop := 0 ≤ t ∧ t ≤ 315569519999
abbrev Mon (k : Int) : Prop := 0 ≤ k ∧ k < 120000
def rV (n e : Int) : Value := .tuple #[.int .i64 n, .int .i64 e]
/-- what AddSpan answers of an instant and a span that may be -/
def addV (t mo se : Int) : Value := if Mon (mk (t / 86400) mo) then (if Inst (isum t mo se) then rV (isum t mo se) 0 else rV 0 35) else rV 0 35

theorem addSpan_noInst (t y m v d h i s : Int) (back : Bool) (ht : ¬ Inst t) (w : World) :
    Calls Tryd.prog 13 #[.int .i64 t, sV y m v d h i s, .bool back] w fun e w' => e = .returned (rV 0 35) ∧ Below w.heap.size w w' := by
  have HI := hid (fun w => isInstant_any t w)
  rw [decide_eq_false (show ¬ (0 ≤ t ∧ t ≤ 315569519999) from ht)] at HI
  clear ht
  unfold sV rV
  go_enter Tryd.func13, Tryd.ntmps13
  go_wp2_with fail
  refine (HI.out _).mono ?_
  rintro e w' ⟨rfl, rfl⟩
  go_wp2
  go_ret2
  exact ⟨rfl, (Below.refl _ _).alloc (Nat.le_refl _) _⟩

theorem addSpan_noSpan (t y m v d h i s : Int) (back : Bool) (ht : Inst t) (hf : ¬ FSx y m v d h i s) (w : World) :
    Calls Tryd.prog 13 #[.int .i64 t, sV y m v d h i s, .bool back] w fun e w' => e = .returned (rV 0 34) ∧ Below w.heap.size w w' := by
  have HI := hid (fun w => isInstant_any t w)
  rw [decide_eq_true (show (0 ≤ t ∧ t ≤ 315569519999) from ht)] at HI
  have HS := hid (fun w => isSpan_any y m v d h i s w)
  rw [decide_eq_false hf] at HS
  clear ht hf
  unfold sV rV at *
  go_enter Tryd.func13, Tryd.ntmps13
  go_wp2_with fail
  refine (HI.out _).mono ?_
  rintro e w' ⟨rfl, rfl⟩
  go_wp2_with fail
  refine (HS.out _).mono ?_
  rintro e w' ⟨rfl, hb⟩
  go_wp2
  go_ret2
  exact ⟨rfl, ((Below.refl _ _).alloc (Nat.le_refl _) _).trans (hb.mono (by simp))⟩

theorem span_bounds (y m v d h i s : Int) (hf : FSx y m v d h i s) : (0 ≤ 12 * y + m ∧ 12 * y + m ≤ 13000000000) ∧ (0 ≤ spSe v d h i s ∧ spSe v d h i s ≤ 2000000000000000) := by
  obtain ⟨⟨h1, h2, h3, h4, h5, h6, h7⟩, _⟩ := hf
  unfold okN at *
  unfold spSe
  omega

set_option maxHeartbeats 4000000 in
theorem addSpan_good (t y m v d h i s : Int) (back : Bool) (ht : Inst t) (hf : FSx y m v d h i s) (w : World) (hA : HasAh w) (mo se : Int) (hmo : mo = if back then -(12 * y + m) else 12 * y + m) (hse : se = if back then -(spSe v d h i s) else spSe v d h i s) :
    Calls Tryd.prog 13 #[.int .i64 t, sV y m v d h i s, .bool back] w fun e w' => e = .returned (addV t mo se) ∧ Below w.heap.size w w' := by
  have HI := hid (fun w => isInstant_any t w)
  rw [decide_eq_true (show (0 ≤ t ∧ t ≤ 315569519999) from ht)] at HI
  have HS := hid (fun w => isSpan_any y m v d h i s w)
  rw [decide_eq_true hf] at HS
  have hsb := span_bounds y m v d h i s hf
  have hmb : -13000000000 ≤ mo ∧ mo ≤ 13000000000 := by cases back <;> simp at hmo <;> omega
  have hsb2 : -2000000000000000 ≤ se ∧ se ≤ 2000000000000000 := by cases back <;> simp at hse <;> omega
  unfold Inst at ht
  have hn : 0 ≤ t / 86400 ∧ t / 86400 ≤ 3652424 := by omega
  have HM := hid (fun w h => addMonths_any (t / 86400) mo hn (by omega) w h)
  have hq : t.tdiv 86400 = t / 86400 := Int.tdiv_eq_ediv_of_nonneg ht.1
  have hr : t.tmod 86400 = t % 86400 := Int.tmod_eq_emod_of_nonneg ht.1
  have hr1 : 0 ≤ t % 86400 ∧ t % 86400 < 86400 := by omega
  have hamr := am_range (t / 86400) mo hn
  obtain ⟨⟨a1, a2, a3, a4, a5, a6, a7⟩, _⟩ := hf
  unfold okN at a1 a2 a3 a4 a5 a6 a7
  have hq1 : 86400 * (7 * v + d) + 3600 * h + 60 * i + s = spSe v d h i s := rfl
  have HHS := hid hsb
  have HA := hid hA
  clear hA hsb
  by_cases hmon : Mon (mk (t / 86400) mo)
  · have hamr := hamr hmon.1 hmon.2
    have hX : 86400 * am (t / 86400) mo + t % 86400 + se = isum t mo se := rfl
    have HI2 := hid (fun w => isInstant_any (isum t mo se) w)
    have hv1 : Inst (isum t mo se) → addV t mo se = rV (isum t mo se) 0 := fun x => by unfold addV; rw [if_pos hmon, if_pos x]
    have hv2 : ¬ Inst (isum t mo se) → addV t mo se = rV 0 35 := fun x => by unfold addV; rw [if_pos hmon, if_neg x]
    have HV1 := hid hv1
    have HV2 := hid hv2
    rw [if_pos (show 0 ≤ mk (t / 86400) mo ∧ mk (t / 86400) mo < 120000 from hmon)] at HM
    clear hmon hv1 hv2
    generalize addV t mo se = V at *
    generalize isum t mo se = X at *
    generalize am (t / 86400) mo = a at *
    generalize t / 86400 = n at *
    generalize t % 86400 = rr at *
    unfold sV rV at *
    cases back
    · have hmo' : 12 * y + m = mo := hmo.symm
      have hse' : spSe v d h i s = se := hse.symm
      rw [hse'] at hq1
      clear hmo hse hse'
      go_enter Tryd.func13, Tryd.ntmps13
      go_wp2_with fail
      refine (HI.out _).mono ?_
      rintro e w' ⟨rfl, rfl⟩
      go_wp2_with fail
      refine (HS.out _).mono ?_
      rintro e w1 ⟨rfl, hb1⟩
      have hx := (SBox.new w y m v d h i s).later hb1
      obtain ⟨k0, k1, k2, k3, k4, k5, k6, _⟩ := hx.facts
      have HA1 := hid ((HA.out.alloc _).below hb1)
      have hB1 : Below w.heap.size w w1 := ((Below.refl _ _).alloc (Nat.le_refl _) _).trans (hb1.mono (by simp))
      clear hx hb1 HS HI
      go_wp2_with fail
      refine (HM.out _ HA1.out).mono ?_
      rintro e w2 ⟨rfl, hb2⟩
      have hB2 := hB1.trans (hb2.mono hB1.size)
      clear HM hb2 hB1 k0 k1 k2 k3 k4 k5 k6
      go_wp2_with fail
      refine (HI2.out _).mono ?_
      rintro e w3 ⟨rfl, rfl⟩
      by_cases hin : Inst X
      · rw [decide_eq_true (show 0 ≤ X ∧ X ≤ 315569519999 from hin)]
        have HIN := hid hin
        clear hin
        go_wp2
        go_ret2
        exact ⟨by rw [HV1.out HIN.out]; rfl, hB2⟩
      · rw [decide_eq_false (show ¬ (0 ≤ X ∧ X ≤ 315569519999) from hin)]
        have HIN := hid hin
        clear hin
        go_wp2
        go_ret2
        exact ⟨by rw [HV2.out HIN.out]; rfl, hB2⟩
    · have hmo' : -(12 * y + m) = mo := hmo.symm
      have hse' : -(spSe v d h i s) = se := hse.symm
      have HB := hid (HHS.out.2)
      have hsb3 : 0 ≤ spSe v d h i s ∧ spSe v d h i s ≤ 2000000000000000 := HB.out
      generalize spSe v d h i s = z at *
      clear hmo hse
      go_enter Tryd.func13, Tryd.ntmps13
      go_wp2_with fail
      refine (HI.out _).mono ?_
      rintro e w' ⟨rfl, rfl⟩
      go_wp2_with fail
      refine (HS.out _).mono ?_
      rintro e w1 ⟨rfl, hb1⟩
      have hx := (SBox.new w y m v d h i s).later hb1
      obtain ⟨k0, k1, k2, k3, k4, k5, k6, _⟩ := hx.facts
      have HA1 := hid ((HA.out.alloc _).below hb1)
      have hB1 : Below w.heap.size w w1 := ((Below.refl _ _).alloc (Nat.le_refl _) _).trans (hb1.mono (by simp))
      clear hx hb1 HS HI
      go_wp2_with fail
      refine (HM.out _ HA1.out).mono ?_
      rintro e w2 ⟨rfl, hb2⟩
      have hB2 := hB1.trans (hb2.mono hB1.size)
      clear HM hb2 hB1 k0 k1 k2 k3 k4 k5 k6
      go_wp2_with fail
      refine (HI2.out _).mono ?_
      rintro e w3 ⟨rfl, rfl⟩
      by_cases hin : Inst X
      · rw [decide_eq_true (show 0 ≤ X ∧ X ≤ 315569519999 from hin)]
        have HIN := hid hin
        clear hin
        go_wp2
        go_ret2
        exact ⟨by rw [HV1.out HIN.out]; rfl, hB2⟩
      · rw [decide_eq_false (show ¬ (0 ≤ X ∧ X ≤ 315569519999) from hin)]
        have HIN := hid hin
        clear hin
        go_wp2
        go_ret2
        exact ⟨by rw [HV2.out HIN.out]; rfl, hB2⟩
  · have hav : addV t mo se = rV 0 35 := by unfold addV; rw [if_neg hmon]
    rw [hav]
    rw [if_neg (show ¬ (0 ≤ mk (t / 86400) mo ∧ mk (t / 86400) mo < 120000) from hmon)] at HM
    clear hmon hav hamr
    generalize t / 86400 = n at *
    generalize t % 86400 = rr at *
    unfold sV rV at *
    cases back
    · have hmo' : 12 * y + m = mo := hmo.symm
      have hse' : spSe v d h i s = se := hse.symm
      rw [hse'] at hq1
      clear hmo hse hse'
      go_enter Tryd.func13, Tryd.ntmps13
      go_wp2_with fail
      refine (HI.out _).mono ?_
      rintro e w' ⟨rfl, rfl⟩
      go_wp2_with fail
      refine (HS.out _).mono ?_
      rintro e w1 ⟨rfl, hb1⟩
      have hx := (SBox.new w y m v d h i s).later hb1
      obtain ⟨k0, k1, k2, k3, k4, k5, k6, _⟩ := hx.facts
      have HA1 := hid ((HA.out.alloc _).below hb1)
      have hB1 : Below w.heap.size w w1 := ((Below.refl _ _).alloc (Nat.le_refl _) _).trans (hb1.mono (by simp))
      clear hx hb1 HS HI
      go_wp2_with fail
      refine (HM.out _ HA1.out).mono ?_
      rintro e w2 ⟨rfl, hb2⟩
      have hB2 := hB1.trans (hb2.mono hB1.size)
      clear HM hb2 hB1 k0 k1 k2 k3 k4 k5 k6
      go_wp2
      go_ret2
      exact ⟨rfl, hB2⟩
    · have hmo' : -(12 * y + m) = mo := hmo.symm
      have hse' : -(spSe v d h i s) = se := hse.symm
      have hsb3 : 0 ≤ spSe v d h i s ∧ spSe v d h i s ≤ 2000000000000000 := HHS.out.2
      generalize spSe v d h i s = z at *
      clear hmo hse
      go_enter Tryd.func13, Tryd.ntmps13
      go_wp2_with fail
      refine (HI.out _).mono ?_
      rintro e w' ⟨rfl, rfl⟩
      go_wp2_with fail
      refine (HS.out _).mono ?_
      rintro e w1 ⟨rfl, hb1⟩
      have hx := (SBox.new w y m v d h i s).later hb1
      obtain ⟨k0, k1, k2, k3, k4, k5, k6, _⟩ := hx.facts
      have HA1 := hid ((HA.out.alloc _).below hb1)
      have hB1 : Below w.heap.size w w1 := ((Below.refl _ _).alloc (Nat.le_refl _) _).trans (hb1.mono (by simp))
      clear hx hb1 HS HI
      go_wp2_with fail
      refine (HM.out _ HA1.out).mono ?_
      rintro e w2 ⟨rfl, hb2⟩
      have hB2 := hB1.trans (hb2.mono hB1.size)
      clear HM hb2 hB1 k0 k1 k2 k3 k4 k5 k6
      go_wp2
      go_ret2
      exact ⟨rfl, hB2⟩
end Go.Proofs.YtjmainmidacmfaaDoor
