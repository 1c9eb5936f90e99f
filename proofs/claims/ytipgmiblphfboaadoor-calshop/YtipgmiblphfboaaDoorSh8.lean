/-
  shopOn: the shop of a rule, and a day's number.
-/
import Derived.Test.YtipgmiblphfboaaDoorSh7
namespace Go.Proofs.YtipgmiblphfboaaDoor
open Go.RowKit
set_option maxRecDepth 100000

attribute [local go_sem ↓] shLd_op shSt_op wkLd_op shB_op
set_option maxHeartbeats 4000000 in
theorem shopOn_any (wk : Nat → Bool) (D E : List (Int × Int × Int)) (v1 v2 : Value) (y m d : Int) (w : World) (h1 : RL eD 3 w v1 D) (h2 : RL eD 3 w v2 E) (hA : HasAh w) :
    Calls Tryd.prog 14 #[rlV wk v1 v2, dV y m d] w fun e w' => ((∃ A ad cap, rlA D E = some A ∧ A.length ≤ 2000 ∧ e = .returned (.tuple #[shV wk (.slice (some ad) A.length cap), .int .i64 (if VD y m d then nb y m d else 0), .int .i64 (if VD y m d then 0 else 30)]) ∧ RL eS 2 w' (.slice (some ad) A.length cap) A) ∨
      (rlA D E = none ∧ e = .returned (.tuple #[shV (fun _ => false) (.slice none 0 0), .int .i64 0, .int .i64 36]))) ∧ Below w.heap.size w w' := by
  have DD := hid (fun w hA => days_any y m d w hA)
  generalize (if VD y m d then nb y m d else 0) = x1 at *
  generalize (if VD y m d then (0 : Int) else 30) = x2 at *
  obtain ⟨W3, hW3⟩ : ∃ W3, ((w.alloc (.cells (rlC wk v1 v2) 26)).alloc (.cells #[.int .i64 y, .int .i64 m, .int .i64 d] 33)).alloc (.cells (shC (fun _ => false) (.slice none 0 0)) 46) = W3 := ⟨_, rfl⟩
  have hB3 : Below w.heap.size w W3 := by
    rw [← hW3]
    exact (((Below.refl _ _).alloc (Nat.le_refl _) _).alloc (by simp) _).alloc (by simp; omega) _
  have hz3 : W3.heap.size = w.heap.size + 3 := by rw [← hW3]; simp
  have hR : RZ W3 w.heap.size wk v1 v2 := by
    rw [← hW3]
    exact ((alloc_below _ _).block _ (by simp; omega)).trans (((alloc_below _ _).block _ (by simp)).trans (heap_alloc_new _ _))
  have hD : Box W3 (w.heap.size + 1) y m d := by
    rw [← hW3]
    have h := Box.new (w.alloc (.cells (rlC wk v1 v2) 26)) y m d
    rw [World.size_alloc] at h
    exact h.later (alloc_below _ _)
  have hS : SZ W3 (w.heap.size + 1 + 1) (fun _ => false) (.slice none 0 0) := by
    rw [← hW3]
    have h := heap_alloc_new ((w.alloc (.cells (rlC wk v1 v2) 26)).alloc (.cells #[.int .i64 y, .int .i64 m, .int .i64 d] 33)) (.cells (shC (fun _ => false) (.slice none 0 0)) 46)
    simp only [World.size_alloc] at h
    exact h
  have HR := hid hR
  have HD := hid hD
  have HS := hid hS
  have HB := hid hB3
  have HA := hid hA
  have C1 := hid (rising_any D v1 W3 (h1.below hB3) (hA.below hB3))
  have H2 := hid h2
  have c7 := hR.facts.1.2.2.2.2.2.2.2.1
  clear h1 h2 hA hR hD hS hB3
  unfold rlV dV
  unfold rlC shC at hW3
  unfold rlC
  go_enter Tryd.func14, Tryd.ntmps14
  go_wp2_with fail
  refine C1.out.mono ?_
  rintro e w1 ⟨hres1, hb1⟩
  have HB1 := hid (HB.out.trans (hb1.mono HB.out.size))
  have HR1 := hid (HR.out.later hb1)
  have HD1 := hid (HD.out.later hb1)
  have HS1 := hid (HS.out.later hb1)
  have C2 := hid (rising_any E v2 w1 (H2.out.below HB1.out) (HA.out.below HB1.out))
  have c8 := HR1.out.facts.1.2.2.2.2.2.2.2.2
  have hz1 : w.heap.size + 3 ≤ w1.heap.size := by have := hb1.size; omega
  clear hb1 HR HD HS HB C1 c7 hW3
  rcases hres1 with ⟨u1, rfl, l1, r1, o1⟩ | ⟨rfl, n1⟩
  · have O1 := hid o1
    have N1 := hid (show RO D from ⟨l1, r1⟩)
    clear o1 r1
    go_wp2_with fail
    refine C2.out.mono ?_
    rintro e w2 ⟨hres2, hb2⟩
    have HB2 := hid (HB1.out.trans (hb2.mono HB1.out.size))
    have HR2 := hid (HR1.out.later hb2)
    have HD2 := hid (HD1.out.later hb2)
    have HS2 := hid (HS1.out.later hb2)
    have O2 := hid (OL.below O1.out hb2)
    have hz2 : w.heap.size + 3 ≤ w2.heap.size := by have := hb2.size; omega
    clear hb2 HR1 HD1 HS1 HB1 C2 c8 O1 hz1
    rcases hres2 with ⟨u2, rfl, l2, r2, o2⟩ | ⟨rfl, n2⟩
    · have P2 := hid o2
      have N2 := hid (show RO E from ⟨l2, r2⟩)
      have C3 := hid (merged_any (D.map nbT) (E.map nbT) u1 u2 w2 (OL.reads eI_len O2.out) (OL.reads eI_len P2.out) (by simp; omega))
      clear o2 r2
      go_wp2_with fail
      refine C3.out.mono ?_
      rintro e w3 ⟨hres3, hb3⟩
      have HB3 := hid (HB2.out.trans (hb3.mono HB2.out.size))
      have HR3 := hid (HR2.out.later hb3)
      have HD3 := hid (HD2.out.later hb3)
      have HS3 := hid (HS2.out.later hb3)
      have hz3' : w.heap.size + 3 ≤ w3.heap.size := by have := hb3.size; omega
      clear hb3 HR2 HD2 HS2 HB2 C3 O2 P2
      rcases hres3 with ⟨u3, A, rfl, hm, hl, ⟨g3, c3, rfl⟩, o3⟩ | ⟨rfl, hm⟩
      · have O3 := hid o3
        have HM := hid hm
        have C4 := hid (DD.out w3 (HA.out.below HB3.out))
        unfold dV at C4
        obtain ⟨d0, d1, d2, _⟩ := HD3.out.facts
        clear o3 hm
        go_wp2_with fail
        refine C4.out.mono ?_
        rintro e w4 ⟨rfl, hb4⟩
        have HB4 := hid (HB3.out.trans (hb4.mono HB3.out.size))
        have O4 := hid (OL.below O3.out hb4)
        have hwk := run_wkLd (HR3.out.later hb4)
        have hbb := run_shB wk (some ⟨g3, 0, none⟩) A.length c3 w4
        have HS4 := hid (HS3.out.later hb4)
        have hst := run_shSt (wk' := wk) (v' := .slice (some ⟨g3, 0, none⟩) A.length c3) HS4.out rfl
        have HS5 := hid (HS4.out.put wk (.slice (some ⟨g3, 0, none⟩) A.length c3))
        have O5 := hid (OL.reads eS_len (OL.keep (w' := putS w4 (w.heap.size + 1 + 1) wk (.slice (some ⟨g3, 0, none⟩) A.length c3)) (row := some (w.heap.size + 1 + 1)) O4.out ⟨rfl, rfl, rfl, by rw [putS_size]; exact Nat.le_refl _, fun k _ hne => putS_other (fun e => hne (by rw [e]))⟩ (fun b hb e => by have := (O4.out.block_ge b hb).1; cases e; omega)))
        have HB5 := hid (putS_below (b := w.heap.size + 1 + 1) (wk := wk) (v := .slice (some ⟨g3, 0, none⟩) A.length c3) HB4.out (by omega))
        generalize putS w4 (w.heap.size + 1 + 1) wk (.slice (some ⟨g3, 0, none⟩) A.length c3) = wS at *
        obtain ⟨⟨j0, j1, j2, j3, j4, j5, j6, j7⟩, _⟩ := HS5.out.facts
        clear hb4 HR3 HD3 HS3 HB3 C4 O3 d0 d1 d2
        go_wp2
        refine bodyPost_ret (by simp [results, Tryd.results14, go_sem, j0, j1, j2, j3, j4, j5, j6, j7]; try rfl) rfl ?_
        exact ⟨.inl ⟨A, _, _, by rw [rlA_yes N1.out N2.out]; exact HM.out, hl, rfl, O5.out⟩, HB5.out⟩
      · have HM := hid hm
        clear hm
        have HSx := hid (SZ.put (HS3.out) (fun _ => false) (.slice none 0 0))
        have hst := run_shSt (wk' := fun _ => false) (v' := .slice none 0 0) HS3.out rfl
        have hbb := run_shB0 w3
        have HBx := hid (putS_below (b := w.heap.size + 1 + 1) (wk := fun _ => false) (v := .slice none 0 0) HB3.out (by omega))
        generalize putS w3 (w.heap.size + 1 + 1) (fun _ => false) (.slice none 0 0) = wS at *
        obtain ⟨⟨j0, j1, j2, j3, j4, j5, j6, j7⟩, _⟩ := HSx.out.facts
        go_wp2
        refine bodyPost_ret (by simp [results, Tryd.results14, go_sem, j0, j1, j2, j3, j4, j5, j6, j7]; try rfl) rfl ?_
        exact ⟨.inr ⟨by rw [rlA_yes N1.out N2.out]; exact HM.out, rfl⟩, HBx.out⟩
    · have HN := hid n2
      clear n2
      have HSx := hid (SZ.put (HS2.out) (fun _ => false) (.slice none 0 0))
      have hst := run_shSt (wk' := fun _ => false) (v' := .slice none 0 0) HS2.out rfl
      have hbb := run_shB0 w2
      have HBx := hid (putS_below (b := w.heap.size + 1 + 1) (wk := fun _ => false) (v := .slice none 0 0) HB2.out (by omega))
      generalize putS w2 (w.heap.size + 1 + 1) (fun _ => false) (.slice none 0 0) = wS at *
      obtain ⟨⟨j0, j1, j2, j3, j4, j5, j6, j7⟩, _⟩ := HSx.out.facts
      go_wp2
      refine bodyPost_ret (by simp [results, Tryd.results14, go_sem, j0, j1, j2, j3, j4, j5, j6, j7]; try rfl) rfl ?_
      exact ⟨.inr ⟨rlA_no (fun h => HN.out h.2), rfl⟩, HBx.out⟩
  · have HN := hid n1
    clear n1
    go_wp2_with fail
    refine C2.out.mono ?_
    rintro e w2 ⟨hres2, hb2⟩
    have HB2 := hid (HB1.out.trans (hb2.mono HB1.out.size))
    have HS2 := hid (HS1.out.later hb2)
    clear hb2 HR1 HD1 HS1 HB1 C2 c8
    rcases hres2 with ⟨u2, rfl, _, _, _⟩ | ⟨rfl, _⟩
    · have HSx := hid (SZ.put (HS2.out) (fun _ => false) (.slice none 0 0))
      have hst := run_shSt (wk' := fun _ => false) (v' := .slice none 0 0) HS2.out rfl
      have hbb := run_shB0 w2
      have HBx := hid (putS_below (b := w.heap.size + 1 + 1) (wk := fun _ => false) (v := .slice none 0 0) HB2.out (by omega))
      generalize putS w2 (w.heap.size + 1 + 1) (fun _ => false) (.slice none 0 0) = wS at *
      obtain ⟨⟨j0, j1, j2, j3, j4, j5, j6, j7⟩, _⟩ := HSx.out.facts
      go_wp2
      refine bodyPost_ret (by simp [results, Tryd.results14, go_sem, j0, j1, j2, j3, j4, j5, j6, j7]; try rfl) rfl ?_
      exact ⟨.inr ⟨rlA_no (fun h => HN.out h.1), rfl⟩, HBx.out⟩
    · have HSx := hid (SZ.put (HS2.out) (fun _ => false) (.slice none 0 0))
      have hst := run_shSt (wk' := fun _ => false) (v' := .slice none 0 0) HS2.out rfl
      have hbb := run_shB0 w2
      have HBx := hid (putS_below (b := w.heap.size + 1 + 1) (wk := fun _ => false) (v := .slice none 0 0) HB2.out (by omega))
      generalize putS w2 (w.heap.size + 1 + 1) (fun _ => false) (.slice none 0 0) = wS at *
      obtain ⟨⟨j0, j1, j2, j3, j4, j5, j6, j7⟩, _⟩ := HSx.out.facts
      go_wp2
      refine bodyPost_ret (by simp [results, Tryd.results14, go_sem, j0, j1, j2, j3, j4, j5, j6, j7]; try rfl) rfl ?_
      exact ⟨.inr ⟨rlA_no (fun h => HN.out h.1), rfl⟩, HBx.out⟩
end Go.Proofs.YtipgmiblphfboaaDoor
