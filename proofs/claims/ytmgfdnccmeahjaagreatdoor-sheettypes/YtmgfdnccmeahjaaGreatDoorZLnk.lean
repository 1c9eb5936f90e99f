/-
  Lnk: Sheets: lent rows are kept.
-/
import Derived.Test.YtmgfdnccmeahjaaGreatDoorZN
import Derived.Deep.RegionWith
import Derived.Deep.RegionHeld3
namespace Go.Proofs.YtmgfdnccmeahjaaGreatDoor
open Go.RowKit
set_option maxRecDepth 100000
set_option linter.unusedVariables false
set_option linter.unusedSimpArgs false

set_option maxHeartbeats 2000000 in
theorem named_any (u : Value) (k : Nat) (w : World) (h : MK w u k) (hk : k < 9) :
    Calls Tryz.prog 77 #[u, .int .i64 (k : Int)] w fun e w' => e = .returned (.bool true) ∧ Below w.heap.size w w' := by
  obtain ⟨b, cap, rfl, hc, c0⟩ := h
  have c1 : w.drew.cell? ⟨b, 0, none⟩ = some (.string (ntB k)) := c0
  have HN := hid (note_any k hk w.drew)
  have hs : ((ntB k).toList == (ntB k).toList) = true := by simp
  generalize ntB k = x at *
  go_enter Tryz.func77, Tryz.ntmps77
  go_wp2_with fail
  go_region_with (go_at_call 73; refine Calls.mono HN.out ?_; rintro e w3 ⟨rfl, hb3⟩; have B3 := hid ((Below.refl _ w).drew.trans hb3); have c3 := below_cells hb3 _ _ c1; clear hb3)
  all_goals
    go_wp2
    go_ret
    exact ⟨rfl, B3.out⟩
set_option maxHeartbeats 4000000 in
theorem keptRows_any (g cap : Nat) (V : List Value) (p : Value) (B : Nat) (R : List (List (List UInt8))) (w : World) (hv : LG w B (.slice (some ⟨g, 0, none⟩) (R.length + 9) cap) V R R.length 9) (hc : R.length + 9 ≤ cap) (hc2 : cap ≤ 9223372036854775807) (hp : Rz w p R) (hrow : ∀ cs ∈ R, cs.length ≤ 8796093021952) :
    Calls Tryz.prog 31 #[.slice (some ⟨g, 0, none⟩) R.length cap, p] w fun e w' => e = .returned (.bool true) ∧ Below w.heap.size w w' := by
  have HL := hid hv
  have HR := hid hp
  have HRo := hid hrow
  have hVl := hv.len
  obtain ⟨ra, rc, rfl⟩ := hp.form
  have HC := hid (fun wx (h : Below w.heap.size w wx) j (hj : j < V.length) => show wx.cell? ⟨g, j, none⟩ = some V[j] from by
    have := World.ownsRow.cells (hv.big h).own (g := g) rfl j V[j] (by simp [hj])
    rwa [Addr.add_lit, Nat.zero_add] at this)
  clear hv hp hrow
  go_enter Tryz.func31, Tryz.ntmps31
  go_wp2_with fail
  go_loopw [5] (fun j wr => ∃ (i : Nat), i ≤ R.length ∧ j = .int .i64 (i : Int) ∧ Below w.heap.size w wr) (fun j _ => R.length - (intOf j).toNat)
  case atStart => exact ⟨0, Nat.zero_le _, rfl, Below.refl _ _⟩
  case round =>
    obtain ⟨i, hi, rfl, hbl⟩ := hrel
    have HB := hid hbl
    by_cases hlt : i < R.length
    · have hI : (i : Int) < (R.length : Int) := by omega
      have hI2 : (i : Int) < (cap : Int) := by omega
      obtain ⟨g2, off, u, rfl, hcap, d0, rt⟩ := (HR.out.below hbl).at i hlt
      have c0 := HC.out wr hbl i (by omega)
      have lt := (HL.out.big hbl).row i hlt (by omega) hlt
      have HK := hid (keptTexts_any (V[i]'(by omega)) u (tb (R[i]'hlt)) wr.drew (lt.below (Below.refl _ _).drew) (rt.below (Below.refl _ _).drew) (by rw [tb_len]; exact HRo.out _ (List.getElem_mem hlt)))
      obtain ⟨ua, uc, hu⟩ := rt.form
      subst hu
      have hvi : ∃ a n c, V[i]'(by omega) = .slice a n c := (HL.out.sl) _ (List.getElem_mem (by omega))
      obtain ⟨va, vn, vc, hvv⟩ := hvi
      rw [hvv] at c0 HK
      have c0' : wr.drew.cell? ⟨g, i, none⟩ = some (.slice va vn vc) := c0
      have d0' : wr.drew.cell? ⟨g2, off + i, none⟩ = some (.slice ua (tb (R[i]'hlt)).length uc) := d0
      clear rt lt hvv hbl
      go_wp2_with fail
      go_region_with (go_at_call 76; refine Calls.mono HK.out ?_; rintro e w3 ⟨rfl, hb3⟩; have B3 := hid (HB.out.drew.trans (hb3.mono HB.out.size)); clear hb3)
      all_goals
        go_wp2
        go_roundw
        case rel => exact ⟨i + 1, by omega, by go_num, B3.out⟩
        case measure => simp [intOf]; omega
    · have hI : ¬ (i : Int) < (R.length : Int) := by omega
      have hJ0 : (0 : Int) ≤ (R.length : Int) + 9 := by omega
      have hJ1 : (R.length : Int) + 9 ≤ (cap : Int) := by omega
      clear hbl
      go_wp2_with fail
      go_loopw [7] (fun j wr2 => ∃ (k : Nat), k ≤ 9 ∧ j = .int .i64 (k : Int) ∧ Below w.heap.size w wr2) (fun j _ => 9 - (intOf j).toNat)
      case atStart => exact ⟨0, by omega, rfl, HB.out⟩
      case round =>
        obtain ⟨k, hk, rfl, hbl2⟩ := hrel
        have HB2 := hid hbl2
        by_cases hk9 : k < 9
        · have hK : (k : Int) < 9 := by omega
          have hK2 : (R.length : Int) + (k : Int) < (R.length : Int) + 9 := by omega
          have hK3 : (0 : Int) ≤ (R.length : Int) + (k : Int) := by omega
          have c0 := HC.out _ hbl2 (R.length + k) (by omega)
          have mk := (HL.out.big hbl2).nts k hk9 (by omega)
          have HN := hid (named_any _ k _ mk hk9)
          obtain ⟨va, vn, vc, hvv⟩ := (HL.out.sl) (V[R.length + k]'(by omega)) (List.getElem_mem (by omega))
          rw [hvv] at c0 HN
          clear mk hvv hbl2
          go_wp2_with fail
          refine Calls.mono HN.out ?_
          rintro e w3 ⟨rfl, hb3⟩
          have HB3 := hid (HB2.out.trans (hb3.mono HB2.out.size))
          clear hb3
          go_wp2
          go_roundw
          case rel => exact ⟨k + 1, by omega, by go_num, HB3.out⟩
          case measure => simp [intOf]; omega
        · have hK : ¬ (k : Int) < 9 := by omega
          go_wp2
          go_ret
          exact ⟨rfl, hbl2⟩
end Go.Proofs.YtmgfdnccmeahjaaGreatDoor
