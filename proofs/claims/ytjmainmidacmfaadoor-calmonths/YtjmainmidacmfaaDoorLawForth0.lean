/-
  A span without years and months.
-/
import Derived.Test.YtjmainmidacmfaaDoorCins
namespace Go.Proofs.YtjmainmidacmfaaDoor
open Go.RowKit
set_option maxRecDepth 100000

theorem mk_zero (n : Int) (h : 0 ≤ n ∧ n ≤ 3652424) : Mon (mk n 0) ∧ am n 0 = n := by
  obtain ⟨hd, hn⟩ := dt_is n h
  have hk : mk n 0 = 12 * dY n + dM n - 1 := by unfold mk; omega
  have hd' := hd
  obtain ⟨h1, h2, h3, h4, h5, h6⟩ := hd
  have e1 : mk n 0 / 12 = dY n := by omega
  have e2 : mk n 0 % 12 + 1 = dM n := by omega
  refine ⟨⟨by omega, by omega⟩, ?_⟩
  unfold am aD
  rw [e1, e2]
  rw [show min (dD n) (lg (dY n) (dM n)) = dD n by omega]
  exact hn

theorem addV_zero (t se : Int) (ht : Inst t) : addV t 0 se = if Inst (t + se) then rV (t + se) 0 else rV 0 35 := by
  unfold Inst at ht
  obtain ⟨hm, ha⟩ := mk_zero (t / 86400) (by omega)
  have hs : isum t 0 se = t + se := by unfold isum; rw [ha]; omega
  unfold addV
  rw [if_pos hm, hs]

/-- a span without years and months -/
theorem addSpan_zero (t v d h i s : Int) (back : Bool) (ht : Inst t) (hf : FSx 0 0 v d h i s) (se : Int) (hse : se = if back then -(spSe v d h i s) else spSe v d h i s) (w : World) (hA : HasAh w) :
    Calls Tryd.prog 13 #[.int .i64 t, sV 0 0 v d h i s, .bool back] w fun e w' => e = .returned (if Inst (t + se) then rV (t + se) 0 else rV 0 35) ∧ Below w.heap.size w w' := by
  rw [← addV_zero t se ht]
  exact addSpan_good t 0 0 v d h i s back ht hf w hA 0 se (by cases back <;> rfl) hse

end Go.Proofs.YtjmainmidacmfaaDoor
