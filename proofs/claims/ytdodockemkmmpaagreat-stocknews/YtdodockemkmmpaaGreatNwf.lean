/-
  StockNews: the law.
-/
import Derived.Test.YtdodockemkmmpaaGreatNwa
import Derived.Test.YtdodockemkmmpaaGreatNwb
import Derived.Test.YtdodockemkmmpaaGreatNwd
import Derived.Test.YtdodockemkmmpaaGreatNwe
import Derived.Test.YtdodockemkmmpaaGreatNw2
namespace Go.Proofs.YtdodockemkmmpaaGreat
open Go.RowKit
set_option maxRecDepth 100000

attribute [local go_sem ↓] stLd_op stSt_op
theorem LD0.later {w w' : World} {l : Nat} {room n : Int} {L : List Lv} (h : LD0 w l room n L) (b : Below w.heap.size w w') : LD0 w' l room n L := by
  obtain ⟨g, m1, wh, m2, hl, hg, hm1, hwh, hm2⟩ := h
  exact ⟨g, m1, wh, m2, hl.later b, hg.later b, hm1.later b, hwh.later b, hm2.later b⟩
set_option maxHeartbeats 1000000 in
theorem stockNews_any (C : List ByteArray) (v : Value) (room : Int) (w : World) (h : RT w v C) (hs : ∀ c ∈ C, c.size ≤ 9223372036854775807) (hl : C.length ≤ 8796093021952) :
    Calls Tryz.prog 3 #[v, .int .i64 room] w fun e w' => e = .returned (.bool true) ∧ Below w.heap.size w w' := by
  have HR := hid h
  have CL := hid (lentTexts_any v C w h hl)
  have HS := hid hs
  have HLn := hid hl
  have hst : ∀ (wx : World) (r : Int) (a : Option Addr) (p q : Nat), (stSt ⟨wx.heap.size, 0, none⟩ (.agg #[.int .i64 r, .int .i64 0, .int .i64 0, .slice a p q, .slice none 0 0, .slice none 0 0])).run Tryz.prog (wx.alloc (.cells #[.int .i64 0, .int .i64 0, .int .i64 0, .slice none 0 0, .slice none 0 0, .slice none 0 0] 32)) = .ok () (wx.alloc (.cells #[.int .i64 r, .int .i64 0, .int .i64 0, .slice a p q, .slice none 0 0, .slice none 0 0] 32)) :=
    fun wx r a p q => run_storeVar_new wx _ _ _ stsize rfl (by simp [Value.oneCell'])
  clear h hs hl
  go_enter Tryz.func3, Tryz.ntmps3
  go_wp2_with fail
  refine Calls.mono CL.out ?_
  rintro e w1 ⟨⟨v1, rfl, hv1⟩, b1⟩
  have HV1 := hid hv1
  have B1 := hid b1
  clear hv1 b1
  go_wp2_with fail
  refine Calls.mono (new_any C v1 room w1 HV1.out.reads HS.out) ?_
  rintro e w2 ⟨hn, b2⟩
  have B2 := hid b2
  have BB2 := hid (LtB.step B1.out b2)
  clear b2
  rcases hn with ⟨hne, rfl⟩ | ⟨hne, l, rfl, hld⟩
  · go_wp2_with fail
    refine Calls.mono (rnew_any C v room w2 (HR.out.below BB2.out) HS.out) ?_
    rintro e w3 ⟨hn3, b3⟩
    have BB3 := hid (LtB.step BB2.out b3)
    have BV3 := hid (LtB.step B2.out b3)
    rcases hn3 with ⟨_, rfl⟩ | ⟨hz, _⟩
    · have BB4 := hid (LtB.alloc BB3.out (.cells #[.int .i64 0, .int .i64 0, .int .i64 0, .slice none 0 0, .slice none 0 0, .slice none 0 0] 32 (0, 0)))
      have BV4 := hid (LtB.alloc BV3.out (.cells #[.int .i64 0, .int .i64 0, .int .i64 0, .slice none 0 0, .slice none 0 0, .slice none 0 0] 32 (0, 0)))
      have st3 := hst w3 0 none 0 0
      unfold s0V
      clear b3 hst
      have hd : decide (nE C room = 0) = false := by simp [hne]
      generalize nE C room = z at *
      go_wp2_with fail
      refine Calls.mono (keptTexts_any v1 v C _ (HV1.out.below BV4.out) (HR.out.below BB4.out) HLn.out) ?_
      rintro e w5 ⟨rfl, b5⟩
      have BB5 := hid (LtB.step BB4.out b5)
      clear b5
      go_wp2_with fail
      · exact absurd (by simpa using (by assumption : (!(z != 0)) = true)) hne
      · refine wp_region_any (by kernel_rfl) ?_
        try (change wpAny _ _ _ _ _ _ _ (World.drew _))
        refine wpAny_take (i := 0) (v := (.pointer none)) rfl (by kernel_rfl) (by kernel_rfl) (by kernel_rfl) (fun _ _ _ h => h) (Or.inl ⟨by kernel_rfl, by intro w; go_simp⟩) ?_
        refine wpAny_take (i := 1) (v := (.bool true)) rfl (by kernel_rfl) (by kernel_rfl) (by kernel_rfl) (fun _ _ _ h => h) (Or.inl ⟨by kernel_rfl, by intro w; go_simp⟩) ?_
        refine wpAny_take (i := 2) (v := (.bool true)) rfl (by kernel_rfl) (by kernel_rfl) (by kernel_rfl) (fun _ _ _ h => h) (Or.inl ⟨by kernel_rfl, by intro w; go_simp⟩) ?_
        refine wpAny_take (i := 3) (v := undef) rfl (by kernel_rfl) (by kernel_rfl) (by kernel_rfl) (fun _ _ _ h => h) (Or.inr ⟨by kernel_rfl, rfl⟩) ?_
        refine wpAny_take (i := 4) (v := undef) rfl (by kernel_rfl) (by kernel_rfl) (by kernel_rfl) (fun _ _ _ h => h) (Or.inr ⟨by kernel_rfl, rfl⟩) ?_
        refine wpAny_take (i := 5) (v := undef) rfl (by kernel_rfl) (by kernel_rfl) (by kernel_rfl) (fun _ _ _ h => h) (Or.inr ⟨by kernel_rfl, rfl⟩) ?_
        refine wpAny_take (i := 6) (v := undef) rfl (by kernel_rfl) (by kernel_rfl) (by kernel_rfl) (fun _ _ _ h => h) (Or.inr ⟨by kernel_rfl, rfl⟩) ?_
        refine wpAny_take (i := 7) (v := (.bool true)) rfl (by kernel_rfl) (by kernel_rfl) (by kernel_rfl) (fun _ _ _ h => h) (Or.inl ⟨by kernel_rfl, by intro w; go_simp⟩) ?_
        refine wpAny_ready (rs := [8]) (by kernel_rfl) (by simp) ?_
        refine AllReady.cons rfl (fun K hK => ?_) AllReady.nil
        go_simp
        refine hK _ _ ?_
        clear hK K
        refine wpAny_done (by kernel_rfl) ?_ _
        go_wp2
        go_ret
        exact ⟨rfl, BB5.out.drew⟩
    · exact absurd hz hne
  · have HLD := hid hld
    have OK := hid (nE_ok hne)
    have LL := hid (lvl_len C)
    go_wp2_with fail
    refine Calls.mono (rnew_any C v room w2 (HR.out.below BB2.out) HS.out) ?_
    rintro e w3 ⟨hn3, b3⟩
    have BB3 := hid (LtB.step BB2.out b3)
    have BV3 := hid (LtB.step B2.out b3)
    have D3 := hid (HLD.out.later b3)
    rcases hn3 with ⟨hz, _⟩ | ⟨_, u, rfl, hu⟩
    · exact absurd hne hz
    · obtain ⟨a2, p2, rfl⟩ := hu.form
      obtain ⟨W4, hW4⟩ : ∃ W4, w3.alloc (.cells #[.int .i64 room, .int .i64 0, .int .i64 0, .slice a2 (lvl C).length p2, .slice none 0 0, .slice none 0 0] 32 (0, 0)) = W4 := ⟨_, rfl⟩
      have b4 : Below w3.heap.size w3 W4 := by rw [← hW4]; exact (Below.refl _ _).alloc (Nat.le_refl _) _
      have R4 := hid (show Hb W4 w3.heap.size (.cells (stC room (.slice a2 (lvl C).length p2)) 32 (0, 0)) by rw [← hW4]; exact heap_alloc_new w3 _)
      have BB4 := hid (LtB.step BB3.out b4)
      have BV4 := hid (LtB.step BV3.out b4)
      have D4 := hid (D3.out.later b4)
      have U4 := hid (hu.below b4)
      have st3 := hst w3 room a2 (lvl C).length p2
      rw [hW4] at st3
      unfold s0V
      clear b3 hst hld hu hW4 b4
      go_wp2_with fail
      refine Calls.mono (keptTexts_any v1 v C _ (HV1.out.below BV4.out) (HR.out.below BB4.out) HLn.out) ?_
      rintro e w5 ⟨rfl, b5⟩
      have BB5 := hid (LtB.step BB4.out b5)
      have D5 := hid (D4.out.later b5)
      have U5 := hid (U4.out.below b5)
      have R5 := hid (R4.out.later b5)
      clear b5
      go_wp2_with fail
      refine wp_region_any (by kernel_rfl) ?_
      try (change wpAny _ _ _ _ _ _ _ (World.drew _))
      refine wpAny_take (i := 0) (v := (.pointer (some ⟨l, 0, none⟩))) rfl (by kernel_rfl) (by kernel_rfl) (by kernel_rfl) (fun _ _ _ h => h) (Or.inl ⟨by kernel_rfl, by intro w; go_simp⟩) ?_
      refine wpAny_take (i := 1) (v := (.bool false)) rfl (by kernel_rfl) (by kernel_rfl) (by kernel_rfl) (fun _ _ _ h => h) (Or.inl ⟨by kernel_rfl, by intro w; go_simp⟩) ?_
      refine wpAny_take (i := 2) (v := (.bool false)) rfl (by kernel_rfl) (by kernel_rfl) (by kernel_rfl) (fun _ _ _ h => h) (Or.inl ⟨by kernel_rfl, by intro w; go_simp⟩) ?_
      refine wpAny_take (i := 3) (v := (.pointer (some ⟨l, 0, none⟩))) rfl (by kernel_rfl) (by kernel_rfl) (by kernel_rfl) (fun _ _ _ h => h) (Or.inl ⟨by kernel_rfl, by intro w; go_simp⟩) ?_
      have E5 := run_stLd (w := w5.drew) R5.out
      refine wpAny_ready (rs := [4, 5]) (by kernel_rfl) (by simp) ?_
      refine AllReady.cons rfl (fun K hK => ?_) (AllReady.cons rfl (fun K hK => ?_) AllReady.nil)
      · go_simp
        go_wp2_with fail
        refine Calls.mono (state0_any l room _ (lvl C) w5.drew (D5.out.later (Below.refl _ _).drew) OK.out.1) ?_
        rintro e w6 ⟨⟨u6, rfl, hu6⟩, b6⟩
        have BB6 := hid (LtB.step BB5.out.drew b6)
        have U6 := hid (RLv.below (w := w5.drew) (U5.out.below (Below.refl _ _).drew) b6)
        have HU6 := hid hu6
        have E6 := run_stLd (Hb.later (w := w5.drew) R5.out b6)
        clear b6 hu6
        go_wp2_with fail
        refine wpAny_ready (rs := [5]) (by kernel_rfl) (by simp) ?_
        refine AllReady.cons rfl (fun K hK => ?_) AllReady.nil
        go_simp
        refine hK _ _ ?_
        clear hK K
        refine wpAny_ready (rs := [6]) (by kernel_rfl) (by simp) ?_
        refine AllReady.cons rfl (fun K hK => ?_) AllReady.nil
        go_simp
        go_wp2_with fail
        refine Calls.mono (sameState0_any room _ _ (lvl C) w6 HU6.out U6.out (by have := OK.out.1.2.1; omega)) ?_
        rintro e w7 ⟨rfl, b7⟩
        have BB7 := hid (LtB.step BB6.out b7)
        clear b7
        go_wp2_with fail
        refine wpAny_take (i := 7) (v := (.bool true)) rfl (by kernel_rfl) (by kernel_rfl) (by kernel_rfl) (fun _ _ _ h => h) (Or.inl ⟨by kernel_rfl, by intro w; go_simp⟩) ?_
        refine wpAny_ready (rs := [8]) (by kernel_rfl) (by simp) ?_
        refine AllReady.cons rfl (fun K hK => ?_) AllReady.nil
        go_simp
        refine hK _ _ ?_
        clear hK K
        refine wpAny_done (by kernel_rfl) ?_ _
        go_wp2
        go_ret
        exact ⟨rfl, BB7.out⟩
      · go_simp
        refine hK _ _ ?_
        clear hK K
        refine wpAny_ready (rs := [4]) (by kernel_rfl) (by simp) ?_
        refine AllReady.cons rfl (fun K hK => ?_) AllReady.nil
        go_simp
        go_wp2_with fail
        refine Calls.mono (state0_any l room _ (lvl C) w5.drew (D5.out.later (Below.refl _ _).drew) OK.out.1) ?_
        rintro e w6 ⟨⟨u6, rfl, hu6⟩, b6⟩
        have BB6 := hid (LtB.step BB5.out.drew b6)
        have U6 := hid (RLv.below (w := w5.drew) (U5.out.below (Below.refl _ _).drew) b6)
        have HU6 := hid hu6
        have E6 := run_stLd (Hb.later (w := w5.drew) R5.out b6)
        clear b6 hu6
        go_wp2_with fail
        refine wpAny_ready (rs := [6]) (by kernel_rfl) (by simp) ?_
        refine AllReady.cons rfl (fun K hK => ?_) AllReady.nil
        go_simp
        go_wp2_with fail
        refine Calls.mono (sameState0_any room _ _ (lvl C) w6 HU6.out U6.out (by have := OK.out.1.2.1; omega)) ?_
        rintro e w7 ⟨rfl, b7⟩
        have BB7 := hid (LtB.step BB6.out b7)
        clear b7
        go_wp2_with fail
        refine wpAny_take (i := 7) (v := (.bool true)) rfl (by kernel_rfl) (by kernel_rfl) (by kernel_rfl) (fun _ _ _ h => h) (Or.inl ⟨by kernel_rfl, by intro w; go_simp⟩) ?_
        refine wpAny_ready (rs := [8]) (by kernel_rfl) (by simp) ?_
        refine AllReady.cons rfl (fun K hK => ?_) AllReady.nil
        go_simp
        refine hK _ _ ?_
        clear hK K
        refine wpAny_done (by kernel_rfl) ?_ _
        go_wp2
        go_ret
        exact ⟨rfl, BB7.out⟩
end Go.Proofs.YtdodockemkmmpaaGreat
