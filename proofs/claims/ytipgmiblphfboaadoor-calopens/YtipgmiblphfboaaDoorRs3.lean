/-
  The document's rules: is a rule right?
-/
import Derived.Test.YtipgmiblphfboaaDoorRs2
namespace Go.Proofs.YtipgmiblphfboaaDoor
open Go.RowKit
set_option maxRecDepth 100000

theorem rlA_no_both {D E : List (Int × Int × Int)} (h1 : RO D) (h2 : RO E) (h : ∀ x ∈ D, x ∉ E) : ∃ A, rlA D E = some A := by
  rw [rlA_yes h1 h2]
  cases hm : mrg (D.map nbT) (E.map nbT) with
  | some A => exact ⟨A, rfl⟩
  | none =>
    obtain ⟨n, ha, hb⟩ := mrg_none _ _ hm
    obtain ⟨x, hx, rfl⟩ := List.mem_map.1 ha
    obtain ⟨y, hy, he⟩ := List.mem_map.1 hb
    obtain ⟨i, hi, rfl⟩ := List.getElem_of_mem hx
    obtain ⟨j, hj, rfl⟩ := List.getElem_of_mem hy
    have hu := nb_uniq _ _ _ _ _ _ (h2.2 j hj hj).1 (h1.2 i hi hi).1 he
    have e : E[j] = D[i] := Prod.ext hu.1 (Prod.ext hu.2.1 hu.2.2)
    exact absurd (by rw [← e]; exact hy) (h _ hx)
theorem rlA_both {D E : List (Int × Int × Int)} {x : Int × Int × Int} (h1 : x ∈ D) (h2 : x ∈ E) : rlA D E = none := by
  cases hm : rlA D E with
  | none => rfl
  | some A =>
    obtain ⟨⟨hd, he⟩, hA⟩ := rlA_some hm
    have ha := (mrg_mem _ _ _ hA (nbT x, false)).2 (.inl ⟨rfl, List.mem_map.2 ⟨x, h1, rfl⟩⟩)
    have hb := (mrg_mem _ _ _ hA (nbT x, true)).2 (.inr ⟨rfl, List.mem_map.2 ⟨x, h2, rfl⟩⟩)
    have hu := mrg_up _ _ _ hA hd.2.up he.2.up
    obtain ⟨i, hi, e1⟩ := List.getElem_of_mem ha
    obtain ⟨j, hj, e2⟩ := List.getElem_of_mem hb
    rw [List.pairwise_iff_getElem] at hu
    rcases Nat.lt_trichotomy i j with h | h | h
    · have := hu i j hi hj h
      rw [e1, e2] at this
      simp at this
    · subst h
      rw [e1] at e2
      cases e2
    · have := hu j i hj hi h
      rw [e1, e2] at this
      simp at this

set_option maxHeartbeats 4000000 in
theorem right_any (wk : Nat → Bool) (D E : List (Int × Int × Int)) (v1 v2 : Value) (w : World) (h1 : RL eD 3 w v1 D) (h2 : RL eD 3 w v2 E) :
    Calls Tryd.prog 35 #[rlV wk v1 v2] w fun e w' => ((e = .returned (.bool true) ∧ ∃ A, rlA D E = some A) ∨ (e = .returned (.bool false) ∧ rlA D E = none)) ∧ Below w.heap.size w w' := by
  have hR : RZ (w.alloc (.cells (rlC wk v1 v2) 26)) w.heap.size wk v1 v2 := heap_alloc_new _ _
  have HB0 := hid (alloc_below w (.cells (rlC wk v1 v2) 26))
  have HR0 := hid hR
  have H1 := hid h1
  have H2 := hid h2
  have c7 := hR.facts.1.2.2.2.2.2.2.2.1
  have C1 := hid (rises_any D v1 (w.alloc (.cells (rlC wk v1 v2) 26)) (h1.alloc _))
  obtain ⟨W1, hW1⟩ : ∃ W1, w.alloc (.cells (rlC wk v1 v2) 26) = W1 := ⟨_, rfl⟩
  rw [hW1] at HB0 HR0 c7 C1
  clear hR h1 h2
  unfold rlV
  unfold rlC at hW1 ⊢
  go_enter Tryd.func35, Tryd.ntmps35
  go_wp2_with fail
  refine C1.out.mono ?_
  rintro e w1 ⟨hres1, hb1⟩
  have HB1 := hid (HB0.out.trans (hb1.mono HB0.out.size))
  have HR1 := hid (HR0.out.later hb1)
  have c8 := HR1.out.facts.1.2.2.2.2.2.2.2.2
  have C2 := hid (rises_any E v2 w1 (H2.out.below HB1.out))
  clear hb1 C1 c7 hW1 HR0 HB0
  rcases hres1 with ⟨rfl, ro1⟩ | ⟨rfl, no1⟩
  · go_wp2_with fail
    refine C2.out.mono ?_
    rintro e w2 ⟨hres2, hb2⟩
    have HB2 := hid (HB1.out.trans (hb2.mono HB1.out.size))
    have HR2 := hid (HR1.out.later hb2)
    clear hb2 C2 c8 HR1 HB1
    rcases hres2 with ⟨rfl, ro2⟩ | ⟨rfl, no2⟩
    · have RO1 := hid ro1
      have RO2 := hid ro2
      have hlD : D.length ≤ 1000 := ro1.1
      have hlE : E.length ≤ 1000 := ro2.1
      clear ro1 ro2
      obtain ⟨a1, cc1, hv1, hc1, _, hcell⟩ := H1.out
      have HQ := hid hcell
      subst hv1
      clear hcell
      go_wp2
      go_loopg [5] D.length (fun g s5 wr => ∃ k : Nat, k ≤ D.length ∧ D.length - k ≤ g ∧ s5 = .int .i64 (k : Int) ∧ Hid (RZ wr w.heap.size wk (.slice a1 D.length cc1) v2) ∧ Hid (Below w.heap.size w wr) ∧ Hid (∀ i (hi : i < D.length), i < k → D[i] ∉ E))
      case atStart => exact ⟨0, Nat.zero_le _, Nat.le_refl _, rfl, HR2, HB2, hid (fun i _ h => by omega)⟩
      case round =>
        obtain ⟨k, hk, hm, rfl, HZ, HB, HN⟩ := hrel
        clear HR2 HB2
        have f7 := HZ.out.facts.1.2.2.2.2.2.2.2.1
        by_cases hlt : k < D.length
        · have hlt' : (k : Int) < (D.length : Int) := by omega
          obtain ⟨g, off, ha, hq⟩ := HQ.out k hlt
          subst ha
          have KK := hid (show ∀ wx, LB wr wx → (wx.cell? ⟨w.heap.size, 7, none⟩ = some (.slice (some ⟨g, off, none⟩) D.length cc1) ∧ wx.cell? ⟨w.heap.size, 8, none⟩ = some v2) ∧ wx.cell? ⟨g, off + k * 3, none⟩ = some (.int .i64 D[k].1) ∧ wx.cell? ⟨g, off + k * 3 + 1, none⟩ = some (.int .i64 D[k].2.1) ∧ wx.cell? ⟨g, off + k * 3 + 2, none⟩ = some (.int .i64 D[k].2.2) from fun wx h => by
            have hb := below_cells (w' := wx) (HB.out.trans (Below.mono h HB.out.size))
            have hz := (HZ.out.later h).facts.1.2.2.2.2.2.2.2
            exact ⟨⟨hz.1, hz.2⟩, hb _ _ (hq 0 _ rfl), hb _ _ (hq 1 _ rfl), hb _ _ (hq 2 _ rfl)⟩)
          have ST := hid (fun wx (h : LB wr wx) => stands_any E v2 D[k].1 D[k].2.1 D[k].2.2 wx (H2.out.below (HB.out.trans (Below.mono h HB.out.size))) (by omega))
          have HM := hid (List.getElem_mem hlt)
          have HN2 := hid (fun (hne : D[k] ∉ E) i (hi : i < D.length) (h : i < k + 1) => (show D[i] ∉ E by
            by_cases e : i = k
            · subst e; exact hne
            · exact HN.out i hi (by omega)))
          have he0 : (D[k].1, D[k].2.1, D[k].2.2) = D[k] := rfl
          rw [he0] at ST
          generalize D[k] = z at *
          obtain ⟨z0, z1, z2⟩ := z
          simp only at KK ST
          obtain ⟨bb, hbb⟩ : ∃ bb, decide ((z0, z1, z2) ∈ E) = bb := ⟨_, rfl⟩
          rw [hbb] at ST
          unfold dV at ST
          have HBB := hid hbb
          have sd : LB wr wr.drew := (Below.refl _ _).drew
          clear hq he0 hbb
          go_wp2_with fail
          first | go_region_held (fun wx => (wx.cell? ⟨w.heap.size, 7, none⟩ = some (.slice (some ⟨g, off, none⟩) D.length cc1) ∧ wx.cell? ⟨w.heap.size, 8, none⟩ = some v2) ∧ wx.cell? ⟨g, off + k * 3, none⟩ = some (.int .i64 z0) ∧ wx.cell? ⟨g, off + k * 3 + 1, none⟩ = some (.int .i64 z1) ∧ wx.cell? ⟨g, off + k * 3 + 2, none⟩ = some (.int .i64 z2)) (first | exact KK.out _ (by assumption) | go_keep) (first
            | (go_at_call 43; refine (ST.out _ sd).mono ?_; rintro e w3 ⟨rfl, hb3⟩; have s3 : LB wr w3 := LB.call sd hb3; clear hb3)) | fail
          have HB3 := hid (HB.out.trans (Below.mono s3 HB.out.size))
          have HZ3 := hid (HZ.out.later s3)
          clear s3 sd KK ST
          cases bb with
          | true =>
            have HNO := hid (rlA_both HM.out (of_decide_eq_true HBB.out))
            go_wp2
            go_ret
            exact ⟨.inr ⟨rfl, HNO.out⟩, HB3.out⟩
          | false =>
            have HNN := hid (HN2.out (of_decide_eq_false HBB.out))
            go_wp2
            go_roundg (gk - 1)
            case measure => omega
            case rel => exact ⟨k + 1, by omega, by omega, by first | rfl | go_num, HZ3, HB3, HNN⟩
        · have hlt' : ¬ (k : Int) < (D.length : Int) := by omega
          have HY := hid (rlA_no_both RO1.out RO2.out (fun x hx => by
            obtain ⟨i, hi, rfl⟩ := List.getElem_of_mem hx
            exact HN.out i hi (by omega)))
          go_wp2
          go_ret
          exact ⟨.inl ⟨rfl, HY.out⟩, HB.out⟩
    · have HNO := hid (rlA_no (D := D) (E := E) (fun h => no2 h.2))
      clear no2 ro1
      go_wp2
      go_ret
      exact ⟨.inr ⟨rfl, HNO.out⟩, HB2.out⟩
  · have HNO := hid (rlA_no (D := D) (E := E) (fun h => no1 h.1))
    clear no1
    go_wp2_with fail
    refine C2.out.mono ?_
    rintro e w2 ⟨hres2, hb2⟩
    have HB2 := hid (HB1.out.trans (hb2.mono HB1.out.size))
    clear hb2 C2 c8 HR1 HB1
    rcases hres2 with ⟨rfl, _⟩ | ⟨rfl, _⟩
    all_goals
      go_wp2
      go_ret
      exact ⟨.inr ⟨rfl, HNO.out⟩, HB2.out⟩
end Go.Proofs.YtipgmiblphfboaaDoor
