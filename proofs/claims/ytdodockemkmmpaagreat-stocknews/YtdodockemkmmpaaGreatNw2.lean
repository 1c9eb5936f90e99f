/-
  stock, texts: lent texts are kept.
-/
import Derived.Test.YtdodockemkmmpaaGreatNw1
import Derived.Test.YtdodockemkmmpaaGreatNw3
import Derived.Deep.RegionLaw
namespace Go.Proofs.YtdodockemkmmpaaGreat
open Go.RowKit
set_option maxRecDepth 100000

set_option maxHeartbeats 1000000 in
theorem keptTexts_any (v p : Value) (L : List ByteArray) (w : World) (hv : LT w v L) (hp : RT w p L) (hl : L.length ≤ 8796093021952) :
    Calls Tryz.prog 8 #[v, p] w fun e w' => e = .returned (.bool true) ∧ Below w.heap.size w w' := by
  obtain ⟨b, cap', rfl, hc1, hc2, hcell⟩ := hv
  have HC := hid hcell
  have HP := hid hp
  obtain ⟨ao, cap, rfl⟩ := hp.form
  have hcI : ((L.length : Int) + 9) ≤ (cap' : Int) := by omega
  have hw9 : IntKind.i64.wrap ((L.length : Int) + 9) = (L.length : Int) + 9 := by rw [IntKind.wrap_i64]; omega
  clear hcell hc2 hp
  go_enter Tryz.func8, Tryz.ntmps8
  go_wp2_with fail
  clear hw9
  go_loopw [6] (fun i wr => ∃ k : Nat, k ≤ L.length + 9 ∧ i = .int .i64 (k : Int) ∧ Below w.heap.size w wr) (fun i _ => L.length + 9 - (intOf i).toNat)
  case atStart => exact ⟨0, by omega, rfl, Below.refl _ _⟩
  case round =>
    obtain ⟨k, hk, rfl, hbl⟩ := hrel
    have hlm : (L ++ mkT).length = L.length + 9 := by rw [List.length_append, mkT_len]
    by_cases hlt : k < L.length + 9
    · have hI9 : (k : Int) < (L.length : Int) + 9 := by omega
      have c0 := below_cells hbl _ _ (HC.out k (by omega))
      by_cases hkl : k < L.length
      · have hI : (k : Int) < (L.length : Int) := by omega
        have hI4 : ¬ L.length ≤ k := by omega
        have hI5 : ¬ (L.length : Int) ≤ (k : Int) := by omega
        rw [List.getElem_append_left hkl] at c0
        obtain ⟨b2, off2, cp2, e2, hcp2, hcell2⟩ := (HP.out.below hbl).at k hkl
        cases e2
        have d0 := hcell2 k hkl
        generalize L[k]'hkl = x at c0 d0
        clear hcell2 hlm
        go_wp2_with fail
        go_quiet (fail)
        have hB1 := below_drewN hbl nq
        clear c0 d0
        go_wp2
        go_roundw
        case rel => exact ⟨k + 1, by omega, by go_num, hB1⟩
        case measure => simp [intOf]; omega
      · have hI : ¬ (k : Int) < (L.length : Int) := by omega
        have hI2 : (L.length : Int) ≤ (k : Int) := by omega
        have hI4 : L.length ≤ k := by omega
        have hI5 : ¬ k < L.length := by omega
        have hx : (L ++ mkT)[k]'(by omega) = mkB (k - L.length) := by
          rw [List.getElem_append_right (by omega)]
          simp [mkT]
        rw [hx] at c0
        obtain ⟨q, hq⟩ : ∃ q : Nat, k = L.length + q := ⟨k - L.length, by omega⟩
        have hq9 : q < 9 := by omega
        have hqk : k - L.length = q := by omega
        rw [hqk] at c0
        have hsub : (k : Int) - (L.length : Int) = (q : Int) := by omega
        have HN := hid (fun wx => note_any q hq9 wx)
        have hadd := nt_app q
        have hns : (ntB q).size ≤ 9223372036854775803 := by show (2 : Nat) ≤ _; omega
        have HK := hid (fun wx (h : Below wr.heap.size wr wx) => below_cells h _ _ c0)
        have s00 : Below wr.heap.size wr wr := Below.refl _ _
        have s0 : Below wr.heap.size wr wr.drew := (Below.refl _ _).drew
        have w1 : IntKind.i64.wrap ((k : Int) - (L.length : Int)) = (q : Int) := by rw [IntKind.wrap_i64]; omega
        have w2 : IntKind.i64.wrap (q : Int) = (q : Int) := by rw [IntKind.wrap_i64]; omega
        have w3 : (0 : Int) ≤ (k : Int) := by omega
        have w4 : (0 : Int) ≤ (q : Int) := by omega
        have d1 : decide ((k : Int) < (L.length : Int)) = false := by simp; omega
        have d2 : decide ((L.length : Int) ≤ (k : Int)) = true := by simp; omega
        have d3 : decide (k < L.length) = false := by simp; omega
        have d4 : decide (L.length ≤ k) = true := by simp; omega
        have HB := hid hbl
        have HQ := hid hq
        clear hx hlm hq hqk hbl c0
        go_wp2_with fail
        have c0d : wr.drew.cell? ⟨b, k, none⟩ = some (.string (mkB q)) := HK.out _ s0
        refine wp_region_any (by kernel_rfl) ?_
        try (change wpAny _ _ _ _ _ _ _ (World.drew _))
        refine wpAny_take (i := 0) (v := (.int .i64 (k : Int))) rfl (by kernel_rfl) (by kernel_rfl) (by kernel_rfl) (fun _ _ _ h => h) (Or.inl ⟨by kernel_rfl, by intro w; go_simp⟩) ?_
        refine wpAny_take (i := 1) (v := (.slice ao L.length cap)) rfl (by kernel_rfl) (by kernel_rfl) (by kernel_rfl) (fun _ _ _ h => h) (Or.inl ⟨by kernel_rfl, by intro w; go_simp⟩) ?_
        refine wpAny_take (i := 2) (v := (.int .i64 (L.length : Int))) rfl (by kernel_rfl) (by kernel_rfl) (by kernel_rfl) (fun _ _ _ h => h) (Or.inl ⟨by kernel_rfl, by intro w; go_simp⟩) ?_
        refine wpAny_take (i := 3) (v := (.bool false)) rfl (by kernel_rfl) (by kernel_rfl) (by kernel_rfl) (fun _ _ _ h => h) (Or.inl ⟨by kernel_rfl, by intro w; go_simp⟩) ?_
        refine wpAny_take (i := 4) (v := (.bool false)) rfl (by kernel_rfl) (by kernel_rfl) (by kernel_rfl) (fun _ _ _ h => h) (Or.inl ⟨by kernel_rfl, by intro w; go_simp⟩) ?_
        refine wpAny_take (i := 5) (v := undef) rfl (by kernel_rfl) (by kernel_rfl) (by kernel_rfl) (fun _ _ _ h => h) (Or.inr ⟨by kernel_rfl, rfl⟩) ?_
        refine wpAny_take (i := 6) (v := undef) rfl (by kernel_rfl) (by kernel_rfl) (by kernel_rfl) (fun _ _ _ h => h) (Or.inr ⟨by kernel_rfl, rfl⟩) ?_
        refine wpAny_take (i := 7) (v := undef) rfl (by kernel_rfl) (by kernel_rfl) (by kernel_rfl) (fun _ _ _ h => h) (Or.inr ⟨by kernel_rfl, rfl⟩) ?_
        refine wpAny_take (i := 8) (v := undef) rfl (by kernel_rfl) (by kernel_rfl) (by kernel_rfl) (fun _ _ _ h => h) (Or.inr ⟨by kernel_rfl, rfl⟩) ?_
        refine wpAny_take (i := 9) (v := undef) rfl (by kernel_rfl) (by kernel_rfl) (by kernel_rfl) (fun _ _ _ h => h) (Or.inr ⟨by kernel_rfl, rfl⟩) ?_
        refine wpAny_take (i := 10) (v := undef) rfl (by kernel_rfl) (by kernel_rfl) (by kernel_rfl) (fun _ _ _ h => h) (Or.inr ⟨by kernel_rfl, rfl⟩) ?_
        refine wpAny_take (i := 11) (v := undef) rfl (by kernel_rfl) (by kernel_rfl) (by kernel_rfl) (fun _ _ _ h => h) (Or.inr ⟨by kernel_rfl, rfl⟩) ?_
        refine wpAny_take (i := 12) (v := undef) rfl (by kernel_rfl) (by kernel_rfl) (by kernel_rfl) (fun _ _ _ h => h) (Or.inr ⟨by kernel_rfl, rfl⟩) ?_
        refine wpAny_take (i := 13) (v := undef) rfl (by kernel_rfl) (by kernel_rfl) (by kernel_rfl) (fun _ _ _ h => h) (Or.inr ⟨by kernel_rfl, rfl⟩) ?_
        refine wpAny_take (i := 14) (v := (.bool false)) rfl (by kernel_rfl) (by kernel_rfl) (by kernel_rfl) (fun _ _ _ h => h) (Or.inl ⟨by kernel_rfl, by intro w; go_simp⟩) ?_
        refine wpAny_take (i := 15) (v := (.bool false)) rfl (by kernel_rfl) (by kernel_rfl) (by kernel_rfl) (fun _ _ _ h => h) (Or.inl ⟨by kernel_rfl, by intro w; go_simp⟩) ?_
        refine wpAny_take (i := 16) (v := (.int .i64 (k : Int))) rfl (by kernel_rfl) (by kernel_rfl) (by kernel_rfl) (fun _ _ _ h => h) (Or.inl ⟨by kernel_rfl, by intro w; go_simp⟩) ?_
        refine wpAny_take (i := 17) (v := (.slice ao L.length cap)) rfl (by kernel_rfl) (by kernel_rfl) (by kernel_rfl) (fun _ _ _ h => h) (Or.inl ⟨by kernel_rfl, by intro w; go_simp⟩) ?_
        refine wpAny_take (i := 18) (v := (.int .i64 (L.length : Int))) rfl (by kernel_rfl) (by kernel_rfl) (by kernel_rfl) (fun _ _ _ h => h) (Or.inl ⟨by kernel_rfl, by intro w; go_simp⟩) ?_
        refine wpAny_take (i := 19) (v := (.bool true)) rfl (by kernel_rfl) (by kernel_rfl) (by kernel_rfl) (fun _ _ _ h => h) (Or.inl ⟨by kernel_rfl, by intro w; go_simp⟩) ?_
        refine wpAny_take (i := 20) (v := (.bool true)) rfl (by kernel_rfl) (by kernel_rfl) (by kernel_rfl) (fun _ _ _ h => h) (Or.inl ⟨by kernel_rfl, by intro w; go_simp⟩) ?_
        refine wpAny_take (i := 21) (v := (.slice (some ⟨b, 0, none⟩) (L.length + 9) cap')) rfl (by kernel_rfl) (by kernel_rfl) (by kernel_rfl) (fun _ _ _ h => h) (Or.inl ⟨by kernel_rfl, by intro w; go_simp⟩) ?_
        refine wpAny_take (i := 22) (v := (.int .i64 (k : Int))) rfl (by kernel_rfl) (by kernel_rfl) (by kernel_rfl) (fun _ _ _ h => h) (Or.inl ⟨by kernel_rfl, by intro w; go_simp⟩) ?_
        refine wpAny_take (i := 23) (v := (.pointer (some ⟨b, k, none⟩))) rfl (by kernel_rfl) (by kernel_rfl) (by kernel_rfl) (fun _ _ _ h => h) (Or.inl ⟨by kernel_rfl, by intro w; go_simp⟩) ?_
        refine wpAny_take (i := 25) (v := (.int .i64 (k : Int))) rfl (by kernel_rfl) (by kernel_rfl) (by kernel_rfl) (fun _ _ _ h => h) (Or.inl ⟨by kernel_rfl, by intro w; go_simp⟩) ?_
        refine wpAny_take (i := 26) (v := (.slice ao L.length cap)) rfl (by kernel_rfl) (by kernel_rfl) (by kernel_rfl) (fun _ _ _ h => h) (Or.inl ⟨by kernel_rfl, by intro w; go_simp⟩) ?_
        refine wpAny_take (i := 27) (v := (.int .i64 (L.length : Int))) rfl (by kernel_rfl) (by kernel_rfl) (by kernel_rfl) (fun _ _ _ h => h) (Or.inl ⟨by kernel_rfl, by intro w; go_simp⟩) ?_
        refine wpAny_take (i := 28) (v := (.int .i64 (q : Int))) rfl (by kernel_rfl) (by kernel_rfl) (by kernel_rfl) (fun _ _ _ h => h) (Or.inl ⟨by kernel_rfl, by intro w; go_simp⟩) ?_
        refine wpAny_ready (rs := [24, 29]) (by kernel_rfl) (by simp) ?_
        refine AllReady.cons rfl (fun K hK => ?_) (AllReady.cons rfl (fun K hK => ?_) AllReady.nil)
        · go_simp
          refine hK _ _ ?_
          clear hK K
          refine wpAny_ready (rs := [29]) (by kernel_rfl) (by simp) ?_
          refine AllReady.cons rfl (fun K hK => ?_) AllReady.nil
          go_simp
          go_wp2_with fail
          refine (HN.out _).mono ?_
          rintro e w5 ⟨rfl, s3⟩
          have s4 := hid (bel_step s0 s3)
          clear s3
          go_wp2_with fail
          refine wpAny_take (i := 30) (v := (.string (mkB q))) rfl (by kernel_rfl) (by kernel_rfl) (by kernel_rfl) (fun _ _ _ h => h) (Or.inl ⟨by kernel_rfl, by intro w; go_simp⟩) ?_
          refine wpAny_take (i := 31) (v := (.bool false)) rfl (by kernel_rfl) (by kernel_rfl) (by kernel_rfl) (fun _ _ _ h => h) (Or.inl ⟨by kernel_rfl, by intro w; go_simp⟩) ?_
          refine wpAny_take (i := 32) (v := (.bool false)) rfl (by kernel_rfl) (by kernel_rfl) (by kernel_rfl) (fun _ _ _ h => h) (Or.inl ⟨by kernel_rfl, by intro w; go_simp⟩) ?_
          refine wpAny_take (i := 33) (v := (.bool false)) rfl (by kernel_rfl) (by kernel_rfl) (by kernel_rfl) (fun _ _ _ h => h) (Or.inl ⟨by kernel_rfl, by intro w; go_simp⟩) ?_
          refine wpAny_done (by kernel_rfl) ?_ _
          have hB5 : Below w.heap.size w w5 := HB.out.trans (s4.out.mono HB.out.size)
          go_wp2
          go_roundw
          case rel => exact ⟨k + 1, by omega, by go_num, hB5⟩
          case measure => simp [intOf]; omega
        · go_simp
          go_wp2_with fail
          refine (HN.out _).mono ?_
          rintro e w5 ⟨rfl, s3⟩
          have s4 := hid (bel_step s0 s3)
          have c5 := HK.out _ s4.out
          clear s3
          go_wp2_with fail
          refine wpAny_take (i := 30) (v := (.string (mkB q))) rfl (by kernel_rfl) (by kernel_rfl) (by kernel_rfl) (fun _ _ _ h => h) (Or.inl ⟨by kernel_rfl, by intro w; go_simp⟩) ?_
          refine wpAny_ready (rs := [24]) (by kernel_rfl) (by simp) ?_
          refine AllReady.cons rfl (fun K hK => ?_) AllReady.nil
          go_simp
          refine hK _ _ ?_
          clear hK K
          refine wpAny_take (i := 31) (v := (.bool false)) rfl (by kernel_rfl) (by kernel_rfl) (by kernel_rfl) (fun _ _ _ h => h) (Or.inl ⟨by kernel_rfl, by intro w; go_simp⟩) ?_
          refine wpAny_take (i := 32) (v := (.bool false)) rfl (by kernel_rfl) (by kernel_rfl) (by kernel_rfl) (fun _ _ _ h => h) (Or.inl ⟨by kernel_rfl, by intro w; go_simp⟩) ?_
          refine wpAny_take (i := 33) (v := (.bool false)) rfl (by kernel_rfl) (by kernel_rfl) (by kernel_rfl) (fun _ _ _ h => h) (Or.inl ⟨by kernel_rfl, by intro w; go_simp⟩) ?_
          refine wpAny_done (by kernel_rfl) ?_ _
          have hB5 : Below w.heap.size w w5 := HB.out.trans (s4.out.mono HB.out.size)
          go_wp2
          go_roundw
          case rel => exact ⟨k + 1, by omega, by go_num, hB5⟩
          case measure => simp [intOf]; omega
    · go_wp2
      go_ret
      exact ⟨rfl, hbl⟩
end Go.Proofs.YtdodockemkmmpaaGreat
