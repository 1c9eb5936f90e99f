/-
  A handler's step: every case.
-/
import Derived.Test.YtokpncfnkokmcaaHm3
namespace Go.Proofs.Ytokpncfnkokmcaa
open Go.RowKit
set_option maxRecDepth 100000

theorem ss_at {h : Hn} {k : Nat} (hk : k < nn h) : h.1[k] = ss h k := by unfold ss; rw [List.getD_eq_getElem?_getD, List.getElem?_eq_getElem hk]; rfl
theorem tt_at {h : Hn} {k : Nat} (hk : k < h.2.2.length) : h.2.2[k] = tt h k := by unfold tt; rw [List.getD_eq_getElem?_getD, List.getElem?_eq_getElem hk]; rfl
/-- behind a step -/
def AS (w0 : World) (d hb : Nat) (v : Value) (n : Nat) (H : List Hn) (T : List Hd) (M : List Mh) (c : Bool) (w' : World) : Prop :=
  (c = false ∧ FSx w0 w' d hb v n H T M) ∨ (c = true ∧ ∃ H' T' M', FSx w0 w' d hb v n H' T' M' ∧ H'.map (·.1) = H.map (·.1) ∧ sm aa H' = sm aa H + 1)
theorem step_any {w0 w : World} {d hb : Nat} {v : Value} {n : Nat} {H : List Hn} {T : List Hd} {M : List Mh} (F : FSx w0 w d hb v n H T M) {i : Nat} {m : Mh} {h : Hn} (h1 : M[i]? = some m) (h2 : H[i]? = some h) (hn : n ≤ 10) :
    Calls Try.prog 9 #[.pointer (some ⟨m.1, 0, none⟩), .pointer (some ⟨d, 0, none⟩)] w fun e w' => e = .returned (.tuple #[.bool (can T h), .bool true]) ∧ AS w0 d hb v n H T M (can T h) w' := by
  have hok := F.fi.hok i h h2
  have hsm := hok.small
  have hle := hok.le
  have htl := hok.tl
  obtain ⟨c0, c1, c2, f1, f2⟩ := F.hm.cells h1 h2
  obtain ⟨d1, d2, ho1, ho2⟩ := F.hm.cell i m h h1 h2
  have hnn : h.1.length = nn h := rfl
  by_cases hz : nn h = 0
  · -- nothing to do
    obtain ⟨ao, cap, hv⟩ := ho1.sl
    rw [hv, hnn] at c0
    have hc : can T h = false := by unfold can; rw [if_neg (by omega)]; exact decide_eq_false (by omega)
    rw [hc]
    refine (raw_done w m.1 d (nn h) (aa h) ao cap c0 c1 (by omega) (by omega)).mono ?_
    rintro e w' ⟨rfl, rfl⟩
    exact ⟨rfl, .inl ⟨rfl, F⟩⟩
  obtain ⟨g1, cap1, hv1, _, _, hr1⟩ := ho1.form (by omega)
  rw [hv1, hnn] at c0
  have row1 : ∀ k, k < nn h → w.cell? ⟨g1, k, none⟩ = some (.int .i64 (ss h k)) := fun k hk => by rw [hr1 k hk, ss_at hk]
  -- a table call at place k
  have tab : ∀ k, k < nn h → 0 ≤ ss h k ∧ ss h k < (T.length : Int) ∧ ss h k = ((ss h k).toNat : Int) ∧ T[(ss h k).toNat]? = some (tg T (ss h k)) := fun k hk => by
    have hw := hok.wf k hk
    have hl : ss h k < (T.length : Int) := by rw [F.fi.len]; exact hw.2
    exact ⟨hw.1, hl, by omega, tg_at hw.1 hl⟩
  have cellsOf : ∀ w', Kw (fun k => k = hb) w w' → HM w' w0.heap.size v M H ∧ Below w0.heap.size w0 w' := fun w' k => F.table k
  have bq : ∀ k, k < nn h → 0 ≤ (tg T (ss h k)).2.2 ∧ (tg T (ss h k)).2.2 ≤ 16 := fun k hk => by
    have hw := hok.wf k hk
    rw [F.fi.qs _ hw.1 hw.2]
    have := sm_le (sqn (ss h k)) 2 H (fun g _ => by unfold sqn; have := ind_le g.1 (ss h k) (fun l => decide (2 * nn g + l < aa g)); have := ind_le g.1 (ss h k) (fun l => decide (3 * nn g + l < aa g)); omega)
    have := F.fi.few
    omega
  by_cases a2 : aa h < 2 * nn h
  · by_cases ev : aa h % 2 = 0
    · -- a ticket
      obtain ⟨k, hk⟩ : ∃ k, aa h = 2 * k := ⟨aa h / 2, by omega⟩
      have hkn : k < nn h := by omega
      obtain ⟨s0, s1, s2, s3⟩ := tab k hkn
      have hw := hok.wf k hkn
      obtain ⟨_, _, hl8⟩ := F.fi.lg hw.1 hw.2
      have hc : can T h = true := by unfold can; rw [if_pos a2, if_pos ev]
      have etk : ∀ y : Hd, y.1 ≤ 8 → tkN y = y.1 ∧ tkE y = 0 ∧ tkX y = (y.1 + 1, y.2) := fun y hy => by
        unfold tkN tkE tkX
        rw [if_neg (by omega), if_neg (by omega), if_neg (by omega)]
        exact ⟨rfl, rfl, rfl⟩
      obtain ⟨x1, x2, x3⟩ := etk _ hl8
      have HT := tick (ss h k) (ss h k).toNat (tg T (ss h k)) (tg T (ss h k)).1 0 _ s2 s3 x1 x2 (by rw [x3]) F.tp
      rw [hc]
      refine (raw_ticket w m.1 d g1 cap1 (nn h) (aa h) k w0.heap.size (ss h k) (tg T (ss h k)).1 m.2.2 h.2.2 c0 c1 (row1 k hkn) hkn (by omega) hk (by omega) (fun w' => TP w' w0.heap.size d hb (T.set (ss h k).toNat ((tg T (ss h k)).1 + 1, (tg T (ss h k)).2)) ∧ Kw (fun k => k = hb) w w') HT ?_).mono ?_
      · rintro w' ⟨_, hk'⟩
        obtain ⟨hm', hb'⟩ := cellsOf w' hk'
        obtain ⟨_, q1, q2, q3, q4⟩ := hm'.cells h1 h2
        obtain ⟨_, e2, _, e4⟩ := hm'.cell i m h h1 h2
        exact ⟨q1, q3, q2, q4, e4, hb'.size, fun e => by obtain ⟨row, hr⟩ := e4.ty e; exact ty_ne hr e2 (by decide) rfl⟩
      · rintro e w' ⟨rfl, wa, wb, tv', ⟨hT, hK⟩, hO, hG, hL, rfl⟩
        obtain ⟨hm', hb'⟩ := cellsOf wa hK
        obtain ⟨hm2, hk2⟩ := hm'.tick h1 h2 _ _ tv' hO hG hL
        obtain ⟨_, e2, _, e4⟩ := hm'.cell i m h h1 h2
        have tyd : ∀ {g : Nat} {X : Array Value} {t : TypeId} {f : Nat × Nat}, wa.heap[g]? = some (.cells X t f) → t ≠ THd → t ≠ TIn → ¬ (g = m.1 ∨ m.2.2.ownBlock = some g) := by
          intro g X t f hg n1 n2 hc
          rcases hc with hc | hc
          · exact ty_ne hg e2 n1 hc
          · obtain ⟨row, hr⟩ := e4.ty hc
            exact ty_ne hg hr n2 rfl
        refine ⟨rfl, .inr ⟨rfl, _, _, _, ⟨F.fi.ticket h2 hkn hk, hT.kw hk2 (tyd hT.top (by decide) (by decide)) (tyd hT.row (by decide) (by decide)), hm2, Kw.since hb' hb'.size hk2 (fun k hk => ?_)⟩, map_set H i h _ h2 rfl, sm_up H i h _ h2 rfl⟩⟩
        rcases hk with hk | hk
        · rw [hk]; exact d1
        · exact (World.ownsRow.lt e4 k hk).1
    · -- to be served
      obtain ⟨k, hk⟩ : ∃ k, aa h = 2 * k + 1 := ⟨aa h / 2, by omega⟩
      have hkn : k < nn h := by omega
      have hkd : aa h / 2 = k := by omega
      obtain ⟨s0, s1, s2, s3⟩ := tab k hkn
      have htk : h.2.2.length = k + 1 := by rw [htl]; omega
      obtain ⟨g2, cap2, hv2, _, _, hr2⟩ := ho2.form (by omega)
      rw [hv2] at c2
      have row2 : w.cell? ⟨g2, k, none⟩ = some (.int .i64 (tt h k)) := by rw [hr2 k (by omega), tt_at]
      have hc : can T h = svd (tg T (ss h k)) (tt h k) := by unfold can; rw [if_pos a2, if_neg ev, hkd]
      have HS := srv (ss h k) (tt h k) (ss h k).toNat (tg T (ss h k)) _ s2 s3 rfl F.tp
      rw [hc]
      refine (raw_serve w m.1 d g1 cap1 g2 cap2 (nn h) (aa h) k h.2.2.length (ss h k) (tt h k) c0 c1 c2 (row1 k hkn) row2 hkn (by omega) (by omega) hk (svd (tg T (ss h k)) (tt h k)) f1 (HS.mono fun e w' hh => ⟨hh.1, hh.2.2⟩)).mono ?_
      rintro e w' ⟨rfl, wa, hB, rfl⟩
      refine ⟨rfl, ?_⟩
      have F1 := F.later hB
      cases hsv : svd (tg T (ss h k)) (tt h k) with
      | false => exact .inl ⟨rfl, F1⟩
      | true =>
        have hs : tt h k = (tg T (ss h k)).2.1 := by unfold svd at hsv; exact (of_decide_eq_true hsv).1
        exact .inr ⟨rfl, _, T, M, FSx.up F1.tp F1.hm F1.below (F.fi.serve h2 hkn hk hs) h1 h2, map_set H i h _ h2 rfl, sm_up H i h _ h2 rfl⟩
  · have htk : h.2.2.length = nn h := by rw [htl]; omega
    obtain ⟨g2, cap2, hv2, _, _, hr2⟩ := ho2.form (by omega)
    rw [hv2, htk] at c2
    have row2 : ∀ k, k < nn h → w.cell? ⟨g2, k, none⟩ = some (.int .i64 (tt h k)) := fun k hk => by rw [hr2 k (by omega), tt_at]
    by_cases a5 : aa h < 5 * nn h
    · have hc : can T h = true := by unfold can; rw [if_neg a2]; exact decide_eq_true a5
      rw [hc]
      have cq : ∀ w' (T1 : List Hd), TP w' w0.heap.size d hb T1 ∧ Kw (fun k => k = hb) w w' → w'.cell? ⟨m.1, 1, none⟩ = some (.int .i64 (aa h : Int)) ∧ w'.frozen? ⟨m.1, 1, none⟩ = false := by
        rintro w' T1 ⟨_, hk'⟩
        obtain ⟨_, q1, _, q3, _⟩ := (cellsOf w' hk').1.cells h1 h2
        exact ⟨q1, q3⟩
      have fin : ∀ w1 (T1 : List Hd), FI n (H.set i (nx h)) T1 → TP w1 w0.heap.size d hb T1 ∧ Kw (fun k => k = hb) w w1 → AS w0 d hb v n H T M true (w1.setCell ⟨m.1, 1, none⟩ (.int .i64 ((aa h : Int) + 1))) := by
        rintro w1 T1 hfi ⟨hT, hK⟩
        obtain ⟨hm', hb'⟩ := cellsOf w1 hK
        exact .inr ⟨rfl, _, T1, M, FSx.up hT hm' hb' hfi h1 h2, map_set H i h _ h2 rfl, sm_up H i h _ h2 rfl⟩
      by_cases a3 : aa h < 3 * nn h
      · obtain ⟨k, hk⟩ : ∃ k, aa h = 2 * nn h + k := ⟨aa h - 2 * nn h, by omega⟩
        have hkn : k < nn h := by omega
        obtain ⟨s0, s1, s2, s3⟩ := tab k hkn
        have hsv := F.fi.served h2 hkn (by omega) (by omega)
        have hpar := F.fi.par h2 hkn (by omega) (by omega)
        rw [sqn_at hok hkn, if_neg (by omega), if_neg (by omega)] at hpar
        have hoe : hoE (tg T (ss h k)) (tt h k) 0 = 0 := by unfold hoE; rw [hsv, if_pos rfl, if_pos (by omega)]
        have hx : ctX (tg T (ss h k)) (tt h k) 0 = ((tg T (ss h k)).1, (tg T (ss h k)).2.1, (tg T (ss h k)).2.2 + 1) := by unfold ctX; rw [if_pos hoe]
        have hbq := bq k hkn
        refine (raw_odd w m.1 d g1 cap1 g2 cap2 (nn h) (aa h) k (nn h) (ss h k) (tt h k) c0 c1 c2 (row1 k hkn) (row2 k hkn) hkn hkn (by omega) hk (tg T (ss h k)).2.2 (by omega) (by omega) (by omega) (fun w' => TP w' w0.heap.size d hb (T.set (ss h k).toNat ((tg T (ss h k)).1, (tg T (ss h k)).2.1, (tg T (ss h k)).2.2 + 1)) ∧ Kw (fun k => k = hb) w w') (sqc (ss h k) (ss h k).toNat (tg T (ss h k)) _ s2 s3 rfl F.tp) (oddc (ss h k) (tt h k) (ss h k).toNat (tg T (ss h k)) 0 _ s2 s3 hoe (by rw [hx]) (by omega) F.tp) (fun w' hw' => cq w' _ hw') ?_).mono ?_
        · rintro w' ⟨hT, hK⟩
          have hf := (FSx.up (n := n) hT (cellsOf w' hK).1 (cellsOf w' hK).2 (F.fi.begins h2 hkn hk) h1 h2).tp
          exact sqc (ss h k) (ss h k).toNat ((tg T (ss h k)).1, (tg T (ss h k)).2.1, (tg T (ss h k)).2.2 + 1) _ s2 (by rw [List.getElem?_set_self (by omega)]) rfl hf
        · rintro e w' ⟨rfl, w1, hq, rfl⟩
          exact ⟨rfl, fin w1 _ (F.fi.begins h2 hkn hk) hq⟩
      · by_cases a4 : aa h < 4 * nn h
        · obtain ⟨k, hk⟩ : ∃ k, aa h = 3 * nn h + k := ⟨aa h - 3 * nn h, by omega⟩
          have hkn : k < nn h := by omega
          obtain ⟨s0, s1, s2, s3⟩ := tab k hkn
          have hsv := F.fi.served h2 hkn (by omega) (by omega)
          have hpar := F.fi.par h2 hkn (by omega) (by omega)
          rw [sqn_at hok hkn, if_pos (by omega), if_neg (by omega)] at hpar
          have hoe : hoE (tg T (ss h k)) (tt h k) 1 = 0 := by unfold hoE; rw [hsv, if_pos rfl, if_pos (by omega)]
          have hx : ctX (tg T (ss h k)) (tt h k) 1 = ((tg T (ss h k)).1, (tg T (ss h k)).2.1, (tg T (ss h k)).2.2 + 1) := by unfold ctX; rw [if_pos hoe]
          have hbq := bq k hkn
          refine (raw_even w m.1 d g1 cap1 g2 cap2 (nn h) (aa h) k (nn h) (ss h k) (tt h k) c0 c1 c2 (row1 k hkn) (row2 k hkn) hkn hkn (by omega) hk (tg T (ss h k)).2.2 (by omega) (by omega) (by omega) (fun w' => TP w' w0.heap.size d hb (T.set (ss h k).toNat ((tg T (ss h k)).1, (tg T (ss h k)).2.1, (tg T (ss h k)).2.2 + 1)) ∧ Kw (fun k => k = hb) w w') (sqc (ss h k) (ss h k).toNat (tg T (ss h k)) _ s2 s3 rfl F.tp) (evenc (ss h k) (tt h k) (ss h k).toNat (tg T (ss h k)) 0 _ s2 s3 hoe (by rw [hx]) (by omega) F.tp) (fun w' hw' => cq w' _ hw') ?_).mono ?_
          · rintro w' ⟨hT, hK⟩
            have hf := (FSx.up (n := n) hT (cellsOf w' hK).1 (cellsOf w' hK).2 (F.fi.ends h2 hkn hk) h1 h2).tp
            exact sqc (ss h k) (ss h k).toNat ((tg T (ss h k)).1, (tg T (ss h k)).2.1, (tg T (ss h k)).2.2 + 1) _ s2 (by rw [List.getElem?_set_self (by omega)]) rfl hf
          · rintro e w' ⟨rfl, w1, hq, rfl⟩
            exact ⟨rfl, fin w1 _ (F.fi.ends h2 hkn hk) hq⟩
        · obtain ⟨k, hk⟩ : ∃ k, aa h = 4 * nn h + k := ⟨aa h - 4 * nn h, by omega⟩
          have hkn : k < nn h := by omega
          obtain ⟨s0, s1, s2, s3⟩ := tab k hkn
          have hsv := F.fi.served h2 hkn (by omega) (by omega)
          have hpar := F.fi.par h2 hkn (by omega) (by omega)
          rw [sqn_at hok hkn, if_pos (by omega), if_pos (by omega)] at hpar
          have hoe : hoE (tg T (ss h k)) (tt h k) 0 = 0 := by unfold hoE; rw [hsv, if_pos rfl, if_pos (by omega)]
          have hx : lvX (tg T (ss h k)) (tt h k) = ((tg T (ss h k)).1, (tg T (ss h k)).2.1 + 1, (tg T (ss h k)).2.2) := by unfold lvX; rw [if_pos hoe]
          refine (raw_leave w m.1 d g1 cap1 g2 cap2 (nn h) (aa h) k (nn h) (ss h k) (tt h k) c0 c1 c2 (row1 k hkn) (row2 k hkn) hkn hkn (by omega) hk (fun w' => TP w' w0.heap.size d hb (T.set (ss h k).toNat ((tg T (ss h k)).1, (tg T (ss h k)).2.1 + 1, (tg T (ss h k)).2.2)) ∧ Kw (fun k => k = hb) w w') (lve (ss h k) (tt h k) (ss h k).toNat (tg T (ss h k)) 0 _ s2 s3 hoe (by rw [hx]) F.tp) (fun w' hw' => cq w' _ hw')).mono ?_
          rintro e w' ⟨rfl, w1, hq, rfl⟩
          exact ⟨rfl, fin w1 _ (F.fi.leaves h2 hkn hk) hq⟩
    · have hc : can T h = false := by unfold can; rw [if_neg a2]; exact decide_eq_false a5
      rw [hc]
      refine (raw_done w m.1 d (nn h) (aa h) _ cap1 c0 c1 (by omega) (by omega)).mono ?_
      rintro e w' ⟨rfl, rfl⟩
      exact ⟨rfl, .inl ⟨rfl, F⟩⟩
end Go.Proofs.Ytokpncfnkokmcaa
