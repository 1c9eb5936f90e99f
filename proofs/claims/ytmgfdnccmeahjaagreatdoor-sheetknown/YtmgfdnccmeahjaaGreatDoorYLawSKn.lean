/-
  LawSKn: SheetKnown: the law's own walk.
-/
import Derived.Test.YtmgfdnccmeahjaaGreatDoorYKn2
import Derived.Test.YtmgfdnccmeahjaaGreatDoorYSqe
import Derived.Test.YtmgfdnccmeahjaaGreatDoorYTc6
namespace Go.Proofs.YtmgfdnccmeahjaaGreatDoor
open Go.RowKit
set_option maxRecDepth 100000
set_option linter.unusedVariables false
set_option linter.unusedSimpArgs false

abbrev gRng : Nat := 26
abbrev gSyn : Nat := 25
/-- three blocks more -/
theorem below3A (w : World) (a b c : Obj) : Below w.heap.size w (((w.alloc a).alloc b).alloc c) := (((Below.refl _ _).alloc (Nat.le_refl _) _).alloc (by simp) _).alloc (by simp; omega) _
theorem below4A (w : World) (a b c d : Obj) : Below w.heap.size w ((((w.alloc a).alloc b).alloc c).alloc d) := (below3A w a b c).alloc (by simp; omega) _
theorem FT.at_ {A : Nat → Addr} {w : World} {ev : Value} {c : Nat} {p : Nat × Nat} (h : FT A w ev c p) (hc : c ≠ 0) : ∃ f, ev = .iface 38 (.pointer (some ⟨f, 0, none⟩)) ∧ w.heap[f]? = some (.cells #[.int .i64 (p.1 : Int), .int .i64 (p.2 : Int), erV A c] 42 (0, 0)) := by
  rcases h with ⟨h0, _⟩ | ⟨_, f, h1, h2⟩
  · exact absurd h0 hc
  · exact ⟨f, h1, h2⟩
set_option maxHeartbeats 20000000 in
theorem known_law (A : Nat → Addr) (w : World) (hw : RdW A w) (hT : ErT w) :
    Calls Tryz.prog 5 #[] w fun e w' => e = .returned (.bool true) ∧ Below w.heap.size w w' := by
  obtain ⟨rf, hrf⟩ := rf_ex
  have HW := hid hw
  have HT := hid hT
  have HPa := hid (fun (x : ByteArray) (W : World) (hb : Below w.heap.size w W) => parse_any A x W (hw.sn.below hb).he)
  have HG := hid (show ∀ c, 1 ≤ c → c ≤ 20 → ∀ Wx, Below w.heap.size w Wx → Wx.cell? ⟨gV c, 0, none⟩ = some (.iface 312 (.pointer (some (A c)))) from fun c h1 h2 Wx hb => by
    have := (hw.sn.below hb).cellAt (c := c) h1 h2
    rw [erV_pos A (by omega)] at this
    exact this)
  have s3 : ((⟨#[97, 44, 34, 98, 44, 99, 34, 13, 10, 44, 100, 13, 10]⟩ : ByteArray).toList == (⟨#[97, 44, 34, 98, 44, 99, 34, 13, 10, 44, 100, 13, 10]⟩ : ByteArray).toList) = true := by simp
  clear hw hT
  go_enter Tryz.func5, Tryz.ntmps5
  go_wp2_with fail
  refine Calls.mono (HPa.out ⟨#[97, 44, 98, 13, 10, 49, 44, 34, 120, 32, 34, 34, 121, 34, 34, 34, 13, 10]⟩ w (Below.refl _ _)) ?_
  rintro e w1 ⟨rv, ev, rfl, hp, hb1⟩
  have hp' : PaR A w1 [97, 44, 98, 13, 10, 49, 44, 34, 120, 32, 34, 34, 121, 34, 34, 34, 13, 10] rv ev := hp
  unfold PaR at hp'
  rw [kn_rd0] at hp'
  rcases hp' with ⟨_, rfl, V, ht⟩ | ⟨hne, _⟩
  case inr => exact absurd rfl hne
  have hr : Rw w1 rv kR0 := ht.rw
  have HB1 := hid hb1
  obtain ⟨ra, rc, hrv⟩ := hr.form
  subst hrv
  obtain ⟨w2, hw2⟩ : ∃ w2, w2 = (((w1.alloc (.cells #[.string ⟨#[97]⟩, .string ⟨#[98]⟩] 9)).alloc (.cells #[.string ⟨#[49]⟩, .string ⟨#[120, 32, 34, 121, 34]⟩] 9)).alloc (.cells #[.slice (some ⟨w1.heap.size, 0, none⟩) 2 2, .slice (some ⟨w1.heap.size + 1, 0, none⟩) 2 2] 32)) := ⟨_, rfl⟩
  have b2 : Below w1.heap.size w1 w2 := by rw [hw2]; exact below3A _ _ _ _
  have hl2 : Rw w2 (.slice (some ⟨w1.heap.size + 1 + 1, 0, none⟩) 2 2) kR0 := by rw [hw2]; exact Rw.two w1 [[97], [98]] [[49], [120, 32, 34, 121, 34]] 2 rfl rfl (by omega)
  have HS := hid (sameRows_is _ _ kR0 w2 (hr.below b2) hl2)
  have HB2 := hid (hb1.trans (b2.mono hb1.size))
  have HW2 := hid hw2
  clear hp ht hr hb1 b2 hl2 hw2
  go_wp2_with fail
  rw [← HW2.out]
  refine Calls.mono HS.out ?_
  rintro e w3 ⟨rfl, hb3⟩
  have HB3 := hid (HB2.out.trans (hb3.mono HB2.out.size))
  obtain ⟨w4, hw4⟩ : ∃ w4, w4 = (((w3.alloc (.cells #[.string ⟨#[97]⟩, .string ⟨#[98, 44, 99]⟩] 9)).alloc (.cells #[.string ⟨#[]⟩, .string ⟨#[100]⟩] 9)).alloc (.cells #[.slice (some ⟨w3.heap.size, 0, none⟩) 2 2, .slice (some ⟨w3.heap.size + 1, 0, none⟩) 2 2] 32)) := ⟨_, rfl⟩
  have b4 : Below w3.heap.size w3 w4 := by rw [hw4]; exact below3A _ _ _ _
  have hl4 : Rw w4 (.slice (some ⟨w3.heap.size + 1 + 1, 0, none⟩) 2 2) kR1 := by rw [hw4]; exact Rw.two w3 [[97], [98, 44, 99]] [[], [100]] 2 rfl rfl (by omega)
  have HB4 := hid (HB3.out.trans (b4.mono HB3.out.size))
  have HPr := hid (print_any A _ _ w4 (HW.out.below HB4.out).sn.he (HT.out.below HB4.out) hl4)
  have HW4 := hid hw4
  clear hb3 b4 hl4 hw4
  go_wp2_with fail
  rw [← HW4.out]
  refine Calls.mono HPr.out ?_
  rintro e w5 ⟨sv, ev, rfl, hp2, hb5⟩
  have hq : sv = .string ⟨#[97, 44, 34, 98, 44, 99, 34, 13, 10, 44, 100, 13, 10]⟩ ∧ ev = .nilIface := by
    rcases hp2 with ⟨h0, _⟩ | ⟨_, h1, _⟩ | ⟨_, _, h2, h3⟩
    · exact absurd (show (rck 2 kR1 0).1 = 0 by rw [kn_pr1.1]) h0
    · rw [kn_pr1.2] at h1
      exact absurd h1 (by decide)
    · rw [kn_pr1.2] at h2
      exact ⟨h2, h3⟩
  obtain ⟨rfl, rfl⟩ := hq
  have HB5 := hid (HB4.out.trans (hb5.mono HB4.out.size))
  clear hp2 hb5
  go_wp2_with fail
  refine Calls.mono (HPa.out ⟨#[97, 10, 98]⟩ w5 HB5.out) ?_
  rintro e w6 ⟨rv1, ev1, rfl, hp, hb6⟩
  have hp' : PaR A w6 [97, 10, 98] rv1 ev1 := hp
  unfold PaR at hp'
  rw [kn_rd1.1] at hp'
  rcases hp' with ⟨h0, _⟩ | ⟨_, _, rfl, hf⟩
  case inl => exact absurd h0 (by decide)
  rw [kn_rd1.2] at hf
  obtain ⟨f1, rfl, hf1⟩ := hf.at_ (by decide)
  have HF1 := hid (show w6.heap[f1]? = some (.cells #[.int .i64 1, .int .i64 1, erV A 3] 42 (0, 0)) from hf1)
  have HB6 := hid (HB5.out.trans (hb6.mono HB5.out.size))
  clear hp hf hf1 hb6
  go_wp2_with fail
  refine Calls.mono (HPa.out ⟨#[34, 97, 34, 98]⟩ w6 HB6.out) ?_
  rintro e w7 ⟨rv2, ev2, rfl, hp, hb7⟩
  have hp' : PaR A w7 [34, 97, 34, 98] rv2 ev2 := hp
  unfold PaR at hp'
  rw [kn_rd2.1] at hp'
  rcases hp' with ⟨h0, _⟩ | ⟨_, _, rfl, hf⟩
  case inl => exact absurd h0 (by decide)
  rw [kn_rd2.2] at hf
  obtain ⟨f2, rfl, hf2⟩ := hf.at_ (by decide)
  have HF2 := hid (show w7.heap[f2]? = some (.cells #[.int .i64 1, .int .i64 3, erV A 2] 42 (0, 0)) from hf2)
  have HF1b := hid ((hb7.block _ (Array.getElem?_eq_some_iff.1 HF1.out).1).trans HF1.out)
  have HB7 := hid (HB6.out.trans (hb7.mono HB6.out.size))
  clear hp hf hf2 hb7
  go_wp2_with fail
  refine Calls.mono (HPa.out ⟨#[97, 44, 98, 13, 10, 99, 13, 10]⟩ w7 HB7.out) ?_
  rintro e w8 ⟨rv3, ev3, rfl, hp, hb8⟩
  have hp' : PaR A w8 [97, 44, 98, 13, 10, 99, 13, 10] rv3 ev3 := hp
  unfold PaR at hp'
  have k1 : (rdA [97, 44, 98, 13, 10, 99, 13, 10]).2.2.1 = 8 := by rw [kn_rd3.1]
  have k2 : (rdA [97, 44, 98, 13, 10, 99, 13, 10]).2.2.2 = 6 := by rw [kn_rd3.1]
  rw [k1, k2, kn_rd3.2] at hp'
  rcases hp' with ⟨h0, _⟩ | ⟨_, _, rfl, hf⟩
  case inl => exact absurd h0 (by decide)
  obtain ⟨f3, rfl, hf3⟩ := hf.at_ (by decide)
  have HF3 := hid (show w8.heap[f3]? = some (.cells #[.int .i64 2, .int .i64 1, erV A 8] 42 (0, 0)) from hf3)
  have hF1 := (hb8.block _ (Array.getElem?_eq_some_iff.1 HF1b.out).1).trans HF1b.out
  have HF2b := hid ((hb8.block _ (Array.getElem?_eq_some_iff.1 HF2.out).1).trans HF2.out)
  have HB8 := hid (HB7.out.trans (hb8.mono HB7.out.size))
  have HK1 := hid (known_is A f1 3 1 1 w8 (HT.out.below HB8.out) hF1 (HW.out.below HB8.out).sn (by omega))
  have g1 := HG.out 3 (by decide) (by decide) _ HB8.out
  rw [show gV 3 = 3 from rfl] at g1
  clear hp hf hf3 hb8 hF1 k1 k2
  go_wp2_with fail
  refine Calls.mono HK1.out ?_
  rintro e w9 ⟨rfl, hb9⟩
  have HB9 := hid (HB8.out.trans (hb9.mono HB8.out.size))
  have hF2 := (hb9.block _ (Array.getElem?_eq_some_iff.1 HF2b.out).1).trans HF2b.out
  have HF3b := hid ((hb9.block _ (Array.getElem?_eq_some_iff.1 HF3.out).1).trans HF3.out)
  have HK2 := hid (known_is A f2 2 1 3 w9 (HT.out.below HB9.out) hF2 (HW.out.below HB9.out).sn (by omega))
  have g2 := HG.out 2 (by decide) (by decide) _ HB9.out
  rw [show gV 2 = 4 from rfl] at g2
  clear hb9 hF2 g1
  go_wp2_with fail
  refine Calls.mono HK2.out ?_
  rintro e wa ⟨rfl, hba⟩
  have HBa := hid (HB9.out.trans (hba.mono HB9.out.size))
  have hF3 := (hba.block _ (Array.getElem?_eq_some_iff.1 HF3b.out).1).trans HF3b.out
  have HK3 := hid (known_is A f3 8 2 1 wa (HT.out.below HBa.out) hF3 (HW.out.below HBa.out).sn (by omega))
  have g3 := HG.out 8 (by decide) (by decide) _ HBa.out
  rw [show gV 8 = 5 from rfl] at g3
  clear hba hF3 g2
  go_wp2_with fail
  refine Calls.mono HK3.out ?_
  rintro e wb ⟨rfl, hbb⟩
  have HBb := hid (HBa.out.trans (hbb.mono HBa.out.size))
  clear hbb g3
  obtain ⟨wc, hwc⟩ : ∃ wc, wb.alloc (.cells #[.string ⟨#[113, 116, 121]⟩, .int .i64 2, .bool true, .string ⟨#[99, 111, 100, 101]⟩, .int .i64 5, .bool false] 31) = wc := ⟨_, rfl⟩
  have HCc := hid (show RC wc (.slice (some ⟨wb.heap.size, 0, none⟩) 2 2) kL by rw [← hwc]; exact RC.lit wb kC0 kC1)
  have HBc := hid (HBb.out.trans ((show Below wb.heap.size wb wc by rw [← hwc]; exact (Below.refl _ _).alloc (Nat.le_refl _) _).mono HBb.out.size))
  obtain ⟨wd, hwd⟩ : ∃ wd, wd = ((((wc.alloc (.cells #[.string ⟨#[99, 111, 100, 101]⟩, .string ⟨#[110, 111, 116, 101]⟩, .string ⟨#[113, 116, 121]⟩] 9)).alloc (.cells #[.string ⟨#[49, 50, 51, 52, 53, 54, 55, 48]⟩, .string ⟨#[120]⟩, .string ⟨#[55]⟩] 9)).alloc (.cells #[.string ⟨#[]⟩, .string ⟨#[]⟩, .string ⟨#[45, 51]⟩] 9)).alloc (.cells #[.slice (some ⟨wc.heap.size, 0, none⟩) 3 3, .slice (some ⟨wc.heap.size + 1, 0, none⟩) 3 3, .slice (some ⟨wc.heap.size + 1 + 1, 0, none⟩) 3 3] 32)) := ⟨_, rfl⟩
  have bd : Below wc.heap.size wc wd := by rw [hwd]; exact below4A _ _ _ _ _
  have hld : Rw wd (.slice (some ⟨wc.heap.size + 1 + 1 + 1, 0, none⟩) 3 3) kR2 := by rw [hwd]; exact Rw.three wc [[99, 111, 100, 101], [110, 111, 116, 101], [113, 116, 121]] [[49, 50, 51, 52, 53, 54, 55, 48], [120], [55]] [[], [], [45, 51]] 3 rfl rfl rfl (by omega)
  have HBd := hid (HBc.out.trans (bd.mono HBc.out.size))
  have HCd := hid (HCc.out.below bd)
  have HTy := hid (typed_any hrf A _ _ kR2 kL none wd hld HCd.out kn_col (HW.out.below HBd.out) (HT.out.below HBd.out))
  have HWd := hid hwd
  clear bd hld hwd
  go_wp2_with fail
  rw [← HWd.out]
  refine Calls.mono HTy.out ?_
  rintro e we ⟨⟨o, ho, hcs⟩, hbe⟩
  obtain ⟨ho1, ho2⟩ := kn_ty2 hrf ho
  have HBe := hid (HBd.out.trans (hbe.mono HBd.out.size))
  have HCe := hid (HCd.out.below hbe)
  rcases hcs with ⟨_, v2, V2, rfl, hk⟩ | ⟨h0, _⟩
  case inr => exact absurd (by rw [ho1]) h0
  have hx := hk.reads
  rw [ho2] at hx
  obtain ⟨xa, xc, rfl⟩ := hx.form
  obtain ⟨wf, hwf⟩ : ∃ wf, wf = (((we.alloc (.cells #[.int .i64 2, .string ⟨#[]⟩, .int .i64 7, .int .i64 5, .string ⟨#[48, 48, 48, 48, 48, 48, 49, 50, 51, 52, 53, 54, 55, 48]⟩, .int .i64 0] 52)).alloc (.cells #[.int .i64 2, .string ⟨#[]⟩, .int .i64 (-3), .int .i64 0, .string ⟨#[]⟩, .int .i64 0] 52)).alloc (.cells #[.slice (some ⟨we.heap.size, 0, none⟩) 2 2, .slice (some ⟨we.heap.size + 1, 0, none⟩) 2 2] 53)) := ⟨_, rfl⟩
  have bf : Below we.heap.size we wf := by rw [hwf]; exact below3A _ _ _ _
  have hlf : RKc wf (.slice (some ⟨we.heap.size + 1 + 1, 0, none⟩) 2 2) kX := by rw [hwf]; exact RKc.two we ⟨2, ⟨#[]⟩, 7⟩ ⟨5, ⟨#[48, 48, 48, 48, 48, 48, 49, 50, 51, 52, 53, 54, 55, 48]⟩, 0⟩ ⟨2, ⟨#[]⟩, -3⟩ ⟨0, ⟨#[]⟩, 0⟩
  have HSc := hid (sameCells_is _ _ kX wf (hx.below bf) hlf)
  have HBf := hid (HBe.out.trans (bf.mono HBe.out.size))
  have HCf := hid (HCe.out.below bf)
  have HWf := hid hwf
  clear ho ho1 ho2 hbe hk hx bf hlf hwf
  go_wp2_with fail
  rw [← HWf.out]
  refine Calls.mono HSc.out ?_
  rintro e wg ⟨rfl, hbg⟩
  have HBg := hid (HBf.out.trans (hbg.mono HBf.out.size))
  have HCg := hid (HCf.out.below hbg)
  obtain ⟨wh, hwh⟩ : ∃ wh, wh = (((wg.alloc (.cells #[.string ⟨#[99, 111, 100, 101]⟩, .string ⟨#[113, 116, 121]⟩] 9)).alloc (.cells #[.string ⟨#[49, 50, 51, 52, 53, 54, 55, 49]⟩, .string ⟨#[49]⟩] 9)).alloc (.cells #[.slice (some ⟨wg.heap.size, 0, none⟩) 2 2, .slice (some ⟨wg.heap.size + 1, 0, none⟩) 2 2] 32)) := ⟨_, rfl⟩
  have bh : Below wg.heap.size wg wh := by rw [hwh]; exact below3A _ _ _ _
  have hlh : Rw wh (.slice (some ⟨wg.heap.size + 1 + 1, 0, none⟩) 2 2) kR3 := by rw [hwh]; exact Rw.two wg [[99, 111, 100, 101], [113, 116, 121]] [[49, 50, 51, 52, 53, 54, 55, 49], [49]] 2 rfl rfl (by omega)
  have HBh := hid (HBg.out.trans (bh.mono HBg.out.size))
  have HTz := hid (typed_any hrf A _ _ kR3 kL none wh hlh (HCg.out.below bh) kn_col (HW.out.below HBh.out) (HT.out.below HBh.out))
  have HWh := hid hwh
  clear hbg bh hlh hwh
  go_wp2_with fail
  rw [← HWh.out]
  refine Calls.mono HTz.out ?_
  rintro e wi ⟨⟨o, ho, hcs⟩, hbi⟩
  have ho1 := kn_ty3 hrf ho
  have HBi := hid (HBh.out.trans (hbi.mono HBh.out.size))
  rcases hcs with ⟨h0, _⟩ | ⟨_, ev, rfl, her⟩
  case inl => rw [ho1] at h0; exact absurd h0 (by decide)
  rw [ho1] at her
  obtain ⟨f, e2, rfl, hf, he⟩ := her
  simp only [] at hf he
  rcases he with ⟨hc, _⟩ | ⟨_, g, rfl, hg⟩
  case inl => omega
  have hFY : FYw A f g 17 (.int .i64 2) (.int .i64 0) (.int .i64 22) wi := ⟨hf, by rw [erV_pos A (by decide)] at hg; exact hg⟩
  have HFY := hid hFY
  obtain ⟨wj, hwj⟩ : ∃ wj, wi.alloc (.cells #[.pointer none] 54) = wj := ⟨_, rfl⟩
  have bj : Below wi.heap.size wi wj := by rw [← hwj]; exact (Below.refl _ _).alloc (Nat.le_refl _) _
  have HJ := hid (show wj.heap[wi.heap.size]? = some (.cells #[.pointer none] 54 (0, 0)) by rw [← hwj]; exact heap_alloc_new wi _)
  have HBj := hid (HBi.out.trans (bj.mono HBi.out.size))
  have HFj := hid (hFY.below bj)
  have HKw := hid (knownw_is A f g 17 2 0 _ wj (HT.out.below HBj.out) HFj.out (HW.out.below HBj.out).sn (by omega))
  have g4 := HG.out 17 (by decide) (by decide) _ HBj.out
  rw [show gV 17 = 6 from rfl] at g4
  clear ho ho1 hbi hf hg hFY bj
  go_wp2_with fail
  refine Calls.mono HKw.out ?_
  rintro e wk ⟨rfl, hbk⟩
  have HBk := hid (HBj.out.trans (hbk.mono HBj.out.size))
  have hFk := HFj.out.below hbk
  have hJk : wk.heap[wi.heap.size]? = some (.cells #[.pointer none] 54 (0, 0)) := (hbk.block _ (Array.getElem?_eq_some_iff.1 HJ.out).1).trans HJ.out
  have HAs := hid (as_why f g ⟨wi.heap.size, 0, none⟩ (.int .i64 2) (.int .i64 0) (.int .i64 22) (.pointer none) wk (HT.out.below HBk.out) hFk.1 (Lib.cell_of_heap hJk 0) (Lib.frozen_of_heap hJk 0))
  have HFk := hid hFk
  have HJk := hid hJk
  have hIi := hid (show wi.heap.size < wk.heap.size from (Array.getElem?_eq_some_iff.1 hJk).1)
  have HSi := hid (show w.heap.size ≤ wi.heap.size from HBi.out.size)
  clear hbk hFk hJk g4 hwj
  go_wp2_with fail
  refine Calls.mono HAs.out ?_
  rintro e wl ⟨rfl, hwl⟩
  have kB : Below wi.heap.size wk wl := by
    rw [hwl]
    have h0 := hIi.out
    exact (((((Below.refl wi.heap.size wk).alloc (by omega) _).alloc (by simp; omega) _).alloc (by simp; omega) _).alloc (by simp; omega) _).setCell (p := ⟨wi.heap.size, 0, none⟩) (Nat.le_refl _) _
  have c1 : wl.cell? ⟨wi.heap.size, 0, none⟩ = some (.pointer (some ⟨g, 0, none⟩)) := by
    rw [hwl]
    exact World.cell?_setCell_same _ _ _ (cellA (cellA (cellA (cellA (Lib.cell_of_heap HJk.out 0) _) _) _) _)
  have hgl : g < wi.heap.size := (Array.getElem?_eq_some_iff.1 HFY.out.2).1
  have hg2 : wl.heap[g]? = some (.cells #[.iface 312 (.pointer (some (A 17))), .int .i64 22] 58 (0, 0)) := (kB.block g hgl).trans HFk.out.2
  have c2 : wl.cell? ⟨g, 1, none⟩ = some (.int .i64 22) := Lib.cell_of_heap hg2 1
  have HBl := hid (show Below w.heap.size w wl from HBk.out.trans (kB.mono HSi.out))
  clear hwl kB hg2 hgl
  go_wp2
  go_ret
  exact ⟨rfl, HBl.out⟩
end Go.Proofs.YtmgfdnccmeahjaaGreatDoor
