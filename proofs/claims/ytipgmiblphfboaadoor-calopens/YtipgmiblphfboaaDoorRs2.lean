/-
  The document's rules: do the days of a list rise?
-/
import Derived.Test.YtipgmiblphfboaaDoorRs1
import Derived.Deep.RegionHeld
namespace Go.Proofs.YtipgmiblphfboaaDoor
open Go.RowKit
set_option maxRecDepth 100000

/-- nothing older than w1 has turned since -/
def LB (w1 w : World) : Prop := Below w1.heap.size w1 w
theorem LB.call {w1 w w' : World} (h : LB w1 w) (hb : Below w.heap.size w w') : LB w1 w' := Below.trans h (hb.mono (Below.size h))

set_option maxHeartbeats 4000000 in
theorem rises_any (D : List (Int × Int × Int)) (v : Value) (w : World) (hr : RL eD 3 w v D) :
    Calls Tryd.prog 42 #[v] w fun e w' => ((e = .returned (.bool true) ∧ RO D) ∨ (e = .returned (.bool false) ∧ ¬ RO D)) ∧ Below w.heap.size w w' := by
  have HR := hid hr
  obtain ⟨ao, c, rfl, hc, hn, hcell⟩ := hr
  have HQ := hid hcell
  clear hn hcell
  by_cases hbig : 1000 < D.length
  · have hbig' : (1000 : Int) < (D.length : Int) := by omega
    go_enter Tryd.func42, Tryd.ntmps42
    go_wp2
    go_ret
    exact ⟨.inr ⟨rfl, fun h => by have := h.1; omega⟩, Below.refl _ _⟩
  · have hsmall' : ¬ (1000 : Int) < (D.length : Int) := by omega
    go_enter Tryd.func42, Tryd.ntmps42
    go_wp2
    go_loopg [3] D.length (fun g s3 wr => ∃ k : Nat, k ≤ D.length ∧ D.length - k ≤ g ∧ s3 = .int .i64 (k : Int) ∧ Hid (Below w.heap.size w wr) ∧ Hid (RisK D k))
    case atStart => exact ⟨0, Nat.zero_le _, Nat.le_refl _, rfl, hid (Below.refl _ _), hid (fun i hi => by omega)⟩
    case round =>
      obtain ⟨k, hk, hm, rfl, HB, HK⟩ := hrel
      by_cases hlt : k < D.length
      · have hlt' : (k : Int) < (D.length : Int) := by omega
        have hQk := HQ.out k hlt
        obtain ⟨g, off, ha, hq⟩ := hQk
        subst ha
        have HCK := hid (show ∀ wx, LB wr wx → wx.cell? ⟨g, off + k * 3, none⟩ = some (.int .i64 D[k].1) ∧ wx.cell? ⟨g, off + k * 3 + 1, none⟩ = some (.int .i64 D[k].2.1) ∧ wx.cell? ⟨g, off + k * 3 + 2, none⟩ = some (.int .i64 D[k].2.2) from fun wx h => by
          have hb := below_cells (w' := wx) (HB.out.trans (Below.mono h HB.out.size))
          exact ⟨hb _ _ (hq 0 _ rfl), hb _ _ (hq 1 _ rfl), hb _ _ (hq 2 _ rfl)⟩)
        have HV := hid (fun w => refValid_any D[k].1 D[k].2.1 D[k].2.2 w)
        have hV : VD D[k].1 D[k].2.1 D[k].2.2 ↔ VT D[k] := Iff.rfl
        have HNx := hid (fun h1 h2 => HK.out.succ hlt h1 h2)
        have HNo := hid (fun (hn : ¬ (VT D[k] ∧ (∀ _ : 0 < k, nbT D[k - 1] < nbT D[k]))) (h : Ris D) => hn (h k hlt hlt))
        obtain ⟨r0, r1, r2⟩ := HCK.out wr (Below.refl _ _)
        by_cases hv : VD D[k].1 D[k].2.1 D[k].2.2
        · rw [decide_eq_true hv] at HV
          have N2 := hid (fun w => refNumber_any D[k].1 D[k].2.1 D[k].2.2 hv w)
          have hn2 : nb D[k].1 D[k].2.1 D[k].2.2 = nbT D[k] := rfl
          rw [hn2] at N2
          have hVk := hV.1 hv
          generalize nbT D[k] = nk at *
          generalize D[k].1 = y at *
          generalize D[k].2.1 = mo at *
          generalize D[k].2.2 = d at *
          unfold dV at HV N2
          go_wp2_with fail
          refine (HV.out _).mono ?_
          rintro e w1 ⟨rfl, hb1⟩
          have s1 : LB wr w1 := hb1
          have HB1 := hid (HB.out.trans (hb1.mono HB.out.size))
          clear hb1 r0 r1 r2
          rcases k with _ | k
          · have HN0 := hid (HNx.out hVk (fun h => by omega))
            go_wp2_with fail
            go_quiet (fail)
            go_wp2
            go_roundg (gk - 1)
            case measure => omega
            case rel => exact ⟨0 + 1, by omega, by omega, by first | rfl | go_num, hid (below_drewN HB1.out nq), HN0⟩
          · obtain ⟨g', off', ha', hq'⟩ := HQ.out k (by omega)
            cases ha'
            have HCP := hid (show ∀ wx, LB wr wx → wx.cell? ⟨g, off + k * 3, none⟩ = some (.int .i64 D[k].1) ∧ wx.cell? ⟨g, off + k * 3 + 1, none⟩ = some (.int .i64 D[k].2.1) ∧ wx.cell? ⟨g, off + k * 3 + 2, none⟩ = some (.int .i64 D[k].2.2) from fun wx h => by
              have hb := below_cells (w' := wx) (HB.out.trans (Below.mono h HB.out.size))
              exact ⟨hb _ _ (hq' 0 _ rfl), hb _ _ (hq' 1 _ rfl), hb _ _ (hq' 2 _ rfl)⟩)
            have hvp := (HK.out k (by omega) (by omega)).1
            have N1 := hid (fun w => refNumber_any D[k].1 D[k].2.1 D[k].2.2 hvp w)
            have hn1 : nb D[k].1 D[k].2.1 D[k].2.2 = nbT D[k] := rfl
            rw [hn1] at N1
            have HY := hid (fun (h : nbT D[k] < nk) => HNx.out hVk (fun _ => h))
            have HZ := hid (fun (h : ¬ nbT D[k] < nk) (hr : Ris D) => HNo.out (fun hh => h (hh.2 (by omega))) hr)
            clear HNx HNo
            generalize nbT D[k] = pk at *
            generalize D[k].1 = py at *
            generalize D[k].2.1 = pm at *
            generalize D[k].2.2 = pd at *
            unfold dV at N1
            have sd : LB w1 w1.drew := (Below.refl _ _).drew
            have KK := hid (fun wx (h : LB w1 wx) => And.intro (HCP.out wx (LB.call s1 h)) (HCK.out wx (LB.call s1 h)))
            have hge : ((k + 1 : Nat) : Int) = (k : Int) + 1 := by omega
            rw [hge]
            have hwr : IntKind.i64.wrap ((k : Int) + 1 - 1) = (k : Int) := by rw [IntKind.wrap_i64]; omega
            have hwr2 : IntKind.i64.wrap (k : Int) = (k : Int) := by rw [IntKind.wrap_i64]; omega
            have hkl : k < D.length := by omega
            have hkl' : (k : Int) < (D.length : Int) := by omega
            rw [hge] at hlt'
            have hidx : ((k : Int) + 1).toNat = k + 1 := by omega
            have hk0 : ¬ (k : Int) + 1 < 0 := by omega
            have hk1 : ¬ (k : Int) < 0 := by omega
            have hgp : decide ((0 : Int) < (k : Int) + 1) = true := decide_eq_true (by omega)
            clear hq hq' hn1 hn2
            by_cases hlt2 : pk < nk
            · have HN0 := hid (HY.out hlt2)
              have hd : decide (nk ≤ pk) = false := decide_eq_false (by omega)
              go_wp2_with fail
              first | go_region_held (fun wx => (wx.cell? ⟨g, off + k * 3, none⟩ = some (.int .i64 py) ∧ wx.cell? ⟨g, off + k * 3 + 1, none⟩ = some (.int .i64 pm) ∧ wx.cell? ⟨g, off + k * 3 + 2, none⟩ = some (.int .i64 pd)) ∧ wx.cell? ⟨g, off + (k + 1) * 3, none⟩ = some (.int .i64 y) ∧ wx.cell? ⟨g, off + (k + 1) * 3 + 1, none⟩ = some (.int .i64 mo) ∧ wx.cell? ⟨g, off + (k + 1) * 3 + 2, none⟩ = some (.int .i64 d)) (first | exact KK.out _ (by assumption) | go_keep) (first
                | (go_at_call 45; first
                    | (have h3 := s3; clear h3; refine (N2.out _).mono ?_; rintro e wn ⟨rfl, hbn⟩; have s4 : LB w1 wn := LB.call s3 hbn; clear hbn)
                    | (refine (N1.out _).mono ?_; rintro e wm ⟨rfl, hbn⟩; have s3 : LB w1 wm := LB.call sd hbn; clear hbn))) | fail
              all_goals
                have HB4 := hid (HB1.out.trans (Below.mono s4 HB1.out.size))
                clear s3 s4 sd KK
                go_wp2
                go_roundg (gk - 1)
                case measure => omega
                case rel => exact ⟨k + 1 + 1, by omega, by omega, by first | rfl | go_num | (congr 1; omega), HB4, HN0⟩
            · have HN0 := hid (HZ.out hlt2)
              have hd : decide (nk ≤ pk) = true := decide_eq_true (by omega)
              go_wp2_with fail
              first | go_region_held (fun wx => (wx.cell? ⟨g, off + k * 3, none⟩ = some (.int .i64 py) ∧ wx.cell? ⟨g, off + k * 3 + 1, none⟩ = some (.int .i64 pm) ∧ wx.cell? ⟨g, off + k * 3 + 2, none⟩ = some (.int .i64 pd)) ∧ wx.cell? ⟨g, off + (k + 1) * 3, none⟩ = some (.int .i64 y) ∧ wx.cell? ⟨g, off + (k + 1) * 3 + 1, none⟩ = some (.int .i64 mo) ∧ wx.cell? ⟨g, off + (k + 1) * 3 + 2, none⟩ = some (.int .i64 d)) (first | exact KK.out _ (by assumption) | go_keep) (first
                | (go_at_call 45; first
                    | (have h3 := s3; clear h3; refine (N2.out _).mono ?_; rintro e wn ⟨rfl, hbn⟩; have s4 : LB w1 wn := LB.call s3 hbn; clear hbn)
                    | (refine (N1.out _).mono ?_; rintro e wm ⟨rfl, hbn⟩; have s3 : LB w1 wm := LB.call sd hbn; clear hbn))) | fail
              all_goals
                have HB4 := hid (HB1.out.trans (Below.mono s4 HB1.out.size))
                clear s3 s4 sd KK
                go_wp2
                go_ret
                exact ⟨.inr ⟨rfl, fun h => HN0.out h.2⟩, HB4.out⟩
        · rw [decide_eq_false hv] at HV
          have HNN := hid (HNo.out (fun h => hv (hV.2 h.1)))
          generalize D[k].1 = y at *
          generalize D[k].2.1 = mo at *
          generalize D[k].2.2 = d at *
          unfold dV at HV
          go_wp2_with fail
          refine (HV.out _).mono ?_
          rintro e w1 ⟨rfl, hb1⟩
          have HB1 := hid (HB.out.trans (hb1.mono HB.out.size))
          clear hb1
          go_wp2_with fail
          go_quiet (fail)
          go_wp2
          go_ret
          exact ⟨.inr ⟨rfl, fun h => HNN.out h.2⟩, below_drewN HB1.out nq⟩
      · have hlt' : ¬ (k : Int) < (D.length : Int) := by omega
        have hkl : k = D.length := by omega
        subst hkl
        go_wp2
        go_ret
        exact ⟨.inl ⟨rfl, by omega, HK.out⟩, HB.out⟩
end Go.Proofs.YtipgmiblphfboaaDoor
