/-
  The document's rules: Open.
-/
import Derived.Test.YtipgmiblphfboaaDoorRs7
namespace Go.Proofs.YtipgmiblphfboaaDoor
open Go.RowKit
set_option maxRecDepth 100000
attribute [local go_sem ↓] rlLd_op

set_option maxHeartbeats 4000000 in
theorem refOpen_any (wk : Nat → Bool) (D E : List (Int × Int × Int)) (v1 v2 : Value) (y m d : Int) (w : World) (h1 : RL eD 3 w v1 D) (h2 : RL eD 3 w v2 E) :
    Calls Tryd.prog 20 #[rlV wk v1 v2, dV y m d] w fun e w' => ((∃ A, rlA D E = some A ∧ VD y m d ∧ e = .returned (.tuple #[.bool (isOp wk A (nb y m d)), .int .i64 0])) ∨ ((∃ A, rlA D E = some A) ∧ ¬ VD y m d ∧ e = .returned (.tuple #[.bool false, .int .i64 30])) ∨
      (rlA D E = none ∧ e = .returned (.tuple #[.bool false, .int .i64 36]))) ∧ Below w.heap.size w w' := by
  obtain ⟨W2, hW2⟩ : ∃ W2, (w.alloc (.cells (rlC wk v1 v2) 26)).alloc (.cells #[.int .i64 y, .int .i64 m, .int .i64 d] 33) = W2 := ⟨_, rfl⟩
  have hB2 : Below w.heap.size w W2 := by
    rw [← hW2]
    exact ((Below.refl _ _).alloc (Nat.le_refl _) _).alloc (by simp) _
  have hR : RZ W2 w.heap.size wk v1 v2 := by
    rw [← hW2]
    exact ((alloc_below _ _).block _ (by simp)).trans (heap_alloc_new _ _)
  have hD : Box W2 (w.heap.size + 1) y m d := by
    rw [← hW2]
    have h := Box.new (w.alloc (.cells (rlC wk v1 v2) 26)) y m d
    rw [World.size_alloc] at h
    exact h
  have hld := run_rlLd hR
  have HB0 := hid hB2
  have HR0 := hid hR
  have HD0 := hid hD
  clear hB2 hR hD
  have H1 := hid h1
  have H2 := hid h2
  have RA := hid (fun wx (h : Below w.heap.size w wx) => right_any wk D E v1 v2 wx (H1.out.below h) (H2.out.below h))
  have DA := hid (fun wx => refDays_any y m d wx)
  have OA := hid (fun A hA n hn wx (h : Below w.heap.size w wx) => refopen_any wk D E A hA v1 v2 n hn wx (H1.out.below h) (H2.out.below h))
  clear h1 h2
  unfold rlV dV at *
  unfold rlC at hW2 RA OA ⊢
  go_enter Tryd.func20, Tryd.ntmps20
  go_wp2_with fail
  refine (RA.out _ HB0.out).mono ?_
  rintro e w1 ⟨⟨rfl, hA⟩ | ⟨rfl, hN⟩, hb1⟩
  · have HA := hid hA
    have HB1 := hid (HB0.out.trans (hb1.mono HB0.out.size))
    have HR1 := hid (HR0.out.later hb1)
    have HD1 := hid (HD0.out.later hb1)
    obtain ⟨d0, d1, d2, _⟩ := HD1.out.facts
    clear hA hb1 hld hW2 HR0 HD0
    go_wp2_with fail
    refine (DA.out _).mono ?_
    rintro e w2 ⟨rfl, hb2⟩
    have HB2 := hid (HB1.out.trans (hb2.mono HB1.out.size))
    have hld := run_rlLd (HR1.out.later hb2)
    clear hb2 HB1 HR1 HD1 d0 d1 d2
    unfold rlC at hld
    by_cases hv : VD y m d
    · have hn := nb_range y m d hv
      have HV := hid hv
      simp only [if_pos hv]
      clear hv
      obtain ⟨A, hA⟩ := HA.out
      have HAA := hid hA
      have OB := hid (OA.out A hA (nb y m d) hn _ HB2.out)
      clear hA
      obtain ⟨n, hnn⟩ : ∃ n, nb y m d = n := ⟨_, rfl⟩
      rw [hnn] at OB hn ⊢
      have HNN := hid hnn
      clear hnn
      go_wp2_with fail
      refine OB.out.mono ?_
      rintro e w3 ⟨rfl, hb3⟩
      have HB3 := hid (HB2.out.trans (hb3.mono HB2.out.size))
      clear hb3
      go_wp2
      go_ret2
      exact ⟨.inl ⟨A, HAA.out, HV.out, by rw [HNN.out]; rfl⟩, HB3.out⟩
    · have HV := hid hv
      simp only [if_neg hv]
      clear hv
      go_wp2
      go_ret2
      exact ⟨.inr (.inl ⟨HA.out, HV.out, rfl⟩), HB2.out⟩
  · have HN := hid hN
    have HB1 := hid (HB0.out.trans (hb1.mono HB0.out.size))
    clear hN hb1 hld hW2
    go_wp2
    go_ret2
    exact ⟨.inr (.inr ⟨HN.out, rfl⟩), HB1.out⟩
end Go.Proofs.YtipgmiblphfboaaDoor
