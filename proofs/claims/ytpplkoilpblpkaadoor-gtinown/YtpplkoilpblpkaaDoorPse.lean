/-
  Parse.
-/
import Derived.Test.YtpplkoilpblpkaaDoorElm
import Derived.Test.YtpplkoilpblpkaaDoorLone
namespace Go.Proofs.YtpplkoilpblpkaaDoor
open Go.RowKit
set_option maxRecDepth 100000

theorem loN_lt (P : List UInt8 → Bool) (L : List El) : ∀ k, 0 ≤ loN P L k → loN P L k < ((k + L.length : Nat) : Int) := by
  induction L with
  | nil => intro k h; simp [loN] at h
  | cons x t ih =>
    intro k h
    unfold loN at h ⊢
    split
    · simp; omega
    · rename_i hn
      rw [if_neg hn] at h
      have := ih (k + 1) h
      simp at this ⊢
      omega
theorem loI_lt (L : List El) (h : 0 ≤ loI L) : loI L < (L.length : Int) := by
  have := loN_lt (lnB L) L 0 h
  simpa [loI] using this
theorem OG.at {w : World} {base : Nat} {v : Value} {G : List Nat} (h : OG w base v G) {i : Nat} (hi : i < G.length) : ∃ g cap, v = .slice (some ⟨g, 0, none⟩) G.length cap ∧ w.cell? ⟨g, i, none⟩ = some (.int .i64 (G[i] : Int)) := by
  rcases h.2 with ⟨_, h0⟩ | ⟨g, cap, cur, rfl, _⟩
  · omega
  · refine ⟨g, cap, rfl, ?_⟩
    have := World.ownsRow.cells h (g := g) rfl i _ (by rw [List.getElem?_map, List.getElem?_eq_getElem hi]; rfl)
    rw [Addr.add_lit, Nat.zero_add] at this
    exact this

theorem OE.lower {w : World} {base base' : Nat} {v : Value} {L : List El} (h : OE w base v L) (hb : base' ≤ base) : OE w base' v L := by
  refine ⟨h.1, ?_⟩
  rcases h.2 with h2 | ⟨g, cap, cur, hv, hg, r⟩
  · exact .inl h2
  · exact .inr ⟨g, cap, cur, hv, Nat.le_trans hb hg, r⟩
set_option maxHeartbeats 4000000 in
theorem parse_own (t : ByteArray) (w : World) (hkn : HasKn w) (hs : t.size ≤ 9223372036854775807) :
    Calls Tryd.prog 8 #[.string t] w fun e w' => (∃ v M en n, e = .returned (.tuple #[v, .int .i64 en, .int .i64 n]) ∧ OE w' w.heap.size v M ∧ PaA t.data.toList M en n ∧ M.length ≤ 512) ∧ Below w.heap.size w w' := by
  have hl := len_list t
  have HKN := hid hkn
  clear hkn
  by_cases h20 : 512 < t.size
  · have hI : (512 : Int) < (t.size : Int) := by omega
    go_enter Tryd.func8, Tryd.ntmps8
    go_wp2
    go_ret3
    exact ⟨⟨_, [], _, _, rfl, OE.nil _ _, .inl ⟨by omega, rfl, rfl, rfl⟩, by simp⟩, Below.refl _ _⟩
  · have hI : ¬ (512 : Int) < (t.size : Int) := by omega
    obtain ⟨W, hW⟩ : ∃ W, W = w.alloc (.cells #[.string t, .int .i64 0, .slice none 0 0, .slice none 0 0] 60) := ⟨_, rfl⟩
    have S0 := hid (show SB W w.heap.size t 0 (.slice none 0 0) (.slice none 0 0) from hW ▸ heap_alloc_new _ _)
    have B0 := hid (show Below w.heap.size w W from hW ▸ (Below.refl _ _).alloc (Nat.le_refl _) _)
    go_enter Tryd.func8, Tryd.ntmps8
    go_wp2_with fail
    rw [← hW]
    clear hW
    go_loopw [6] (fun _ wr => ∃ (k p : Nat) (L : List El) (G : List Nat) (lv gv : Value), rp t.data.toList k = some (p, L, G) ∧ SB wr w.heap.size t p lv gv ∧ OE wr (w.heap.size + 1) lv L ∧ OG wr (w.heap.size + 1) gv G ∧ Below w.heap.size w wr) (fun _ wr => t.size - (intOf ((wr.cell? ⟨w.heap.size, 1, none⟩).getD undef)).toNat)
    case atStart => exact ⟨0, 0, [], [], _, _, rfl, S0.out, OE.nil _ _, OG.nil _ _, B0.out⟩
    case round =>
      obtain ⟨k, p, L, G, lv, gv, hr, hS, hO, hN, hb⟩ := hrel
      obtain ⟨hLp, hpt, hGL, hGx, hLx⟩ := rp_inv hr
      rw [hl] at hpt
      have HR := hid hr
      have HS := hid hS
      have HO := hid hO
      have HN := hid hN
      have HB := hid hb
      obtain ⟨c0, c1, c2, c3, hbw⟩ := hS.facts
      clear hr hS hO hN hb hLx S0 B0
      by_cases hlt : p < t.size
      · have hpI : (p : Int) < (t.size : Int) := by omega
        have HE := hid (element_any w.heap.size p t lv gv L G wr (HKN.out.below HB.out) (by omega) hlt (by omega) (by omega) HS.out HO.out HN.out)
        go_wp2_with fail
        refine HE.out.mono ?_
        rintro e w2 ⟨⟨en, n, rfl, hcase⟩, hb2⟩
        have B2 := hid (HB.out.trans hb2)
        have HM := hid (show (wr.cell? ⟨w.heap.size, 1, none⟩).getD undef = .int .i64 (p : Int) by rw [c1]; rfl)
        clear hb2 HE HS HO HN HB c0 c1 c2 c3 hbw
        rcases hcase with ⟨h0, hst⟩ | ⟨rfl, a, x, q, lv', gv', hst, hS2, hO2, hN2⟩
        · have hnb : (en != 0) = true := by simp [h0]
          have HST := hid hst
          clear h0 hst
          go_wp2
          go_ret3
          exact ⟨⟨_, [], _, _, rfl, OE.nil _ _, .inr ⟨by omega, k, p, L, G, HR.out, .inl ⟨by omega, HST.out, rfl⟩⟩, by simp⟩, B2.out⟩
        · have HN1 := hid (rp_step HR.out (by omega) hst)
          obtain ⟨hpq, hqt, _⟩ := psp_ok (by omega) hst
          rw [hl] at hqt
          have S2 := hid hS2
          have O2 := hid hO2
          have N2 := hid hN2
          have HM2 := hid (show (w2.cell? ⟨w.heap.size, 1, none⟩).getD undef = .int .i64 (q : Int) by rw [hS2.facts.2.1]; rfl)
          clear hst hS2 hO2 hN2
          go_wp2
          go_roundw
          case rel => exact ⟨k + 1, q, _, _, lv', gv', HN1.out, S2.out, O2.out, N2.out, B2.out⟩
          case measure =>
            simp only [HM.out, HM2.out, intOf]
            omega
      · have hpI : ¬ (p : Int) < (t.size : Int) := by omega
        have HL := hid (lone_any lv L wr HO.out.reads (by omega))
        have hlo := loI_lt L
        obtain ⟨li, hli⟩ : ∃ li, loI L = li := ⟨_, rfl⟩
        rw [hli] at HL hlo
        have HLI := hid hli
        clear hli
        go_wp2_with fail
        refine HL.out.mono ?_
        rintro e w2 ⟨rfl, hb2⟩
        have S2 := hid (HS.out.later hb2)
        have N2 := hid (HN.out.later hb2)
        have R2 := hid (show OE w2 w.heap.size lv L from OE.lower (HO.out.later hb2) (by omega))
        have B2 := hid (HB.out.trans (hb2.mono HB.out.size))
        obtain ⟨d0, d1, d2, d3, hbd⟩ := S2.out.facts
        clear hb2 HL HS HO HN HB c0 c1 c2 c3 hbw
        by_cases h0 : 0 ≤ li
        · have hlt2 := hlo h0
          obtain ⟨i, rfl⟩ : ∃ i : Nat, li = (i : Int) := ⟨li.toNat, by omega⟩
          have hiG : i < G.length := by omega
          obtain ⟨g, cap, hgv, hgc⟩ := N2.out.at hiG
          subst hgv
          have hgI : (i : Int) < (G.length : Int) := by omega
          have hGe := List.getElem?_eq_getElem hiG
          have HGe := hid hGe
          obtain ⟨ge, hge⟩ : ∃ ge, G[i] = ge := ⟨_, rfl⟩
          rw [hge] at hgc HGe
          clear hge hGe hlo
          go_wp2_with fail
          go_quiet (fail)
          have B3 := hid (B2.out.trans (below_drewN (Below.refl w.heap.size w2) nq))
          go_wp2
          go_ret3
          exact ⟨⟨_, [], _, _, rfl, OE.nil _ _, .inr ⟨by omega, k, p, L, G, HR.out, .inr ⟨by omega, .inl ⟨i, HLI.out, rfl, rfl, ge, HGe.out, rfl⟩⟩⟩, by simp⟩, B3.out⟩
        · have HNI := hid h0
          go_wp2
          go_ret3
          exact ⟨⟨_, L, _, _, rfl, R2.out, .inr ⟨by omega, k, p, L, G, HR.out, .inr ⟨by omega, .inr ⟨by rw [HLI.out]; have := HNI.out; omega, rfl, rfl, rfl⟩⟩⟩, by omega⟩, B2.out⟩
theorem parse_any (t : ByteArray) (w : World) (hkn : HasKn w) (hs : t.size ≤ 9223372036854775807) :
    Calls Tryd.prog 8 #[.string t] w fun e w' => (∃ v M en n, e = .returned (.tuple #[v, .int .i64 en, .int .i64 n]) ∧ RE w' v M ∧ PaA t.data.toList M en n ∧ M.length ≤ 512) ∧ Below w.heap.size w w' := by
  refine (parse_own t w hkn hs).mono ?_
  rintro e w' ⟨⟨v, M, en, n, he, ho, r⟩, hb⟩
  exact ⟨⟨v, M, en, n, he, ho.reads, r⟩, hb⟩
end Go.Proofs.YtpplkoilpblpkaaDoor
