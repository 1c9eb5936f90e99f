/-
  Open: is the shop open on a day?
-/
import Derived.Test.YtipgmiblphfboaaDoorSh9
namespace Go.Proofs.YtipgmiblphfboaaDoor
open Go.RowKit
set_option maxRecDepth 100000

def rlLd (a : Addr) : Sem Value := loadVar 26 a
theorem rlLd_op (a : Addr) : loadVar 26 a = rlLd a := rfl
theorem rlinfo : (Tryd.prog.info? 26).map (·.size) = some 9 := by kernel_rfl
theorem run_rlLd {w : World} {b : Nat} {wk : Nat → Bool} {v1 v2 : Value} (h : RZ w b wk v1 v2) : (rlLd ⟨b, 0, none⟩).run Tryd.prog w = .ok (.agg #[.bool (wk 0), .bool (wk 1), .bool (wk 2), .bool (wk 3), .bool (wk 4), .bool (wk 5), .bool (wk 6), v1, v2]) w :=
  run_loadVar_row _ _ _ _ (rlC wk v1 v2) (0, 0) _ h Tryd.underlying26 rfl rlinfo
attribute [local go_sem ↓] shLd_op shSt_op rlLd_op
/-- a new shop's block, written -/
theorem SZ.new (w : World) : SZ (w.alloc (.cells #[.bool false, .bool false, .bool false, .bool false, .bool false, .bool false, .bool false, .slice none 0 0] 46)) w.heap.size (fun _ => false) (.slice none 0 0) := heap_alloc_new _ _
theorem new_put {w : World} {wk : Nat → Bool} {v : Value} {o : Obj} : Below w.heap.size w (putS (w.alloc o) w.heap.size wk v) := putS_below (alloc_below _ _) (Nat.le_refl _)

set_option maxHeartbeats 2000000 in
theorem open_any (wk : Nat → Bool) (D E : List (Int × Int × Int)) (v1 v2 : Value) (y m d : Int) (w : World) (h1 : RL eD 3 w v1 D) (h2 : RL eD 3 w v2 E) (hA : HasAh w) :
    Calls Tryd.prog 9 #[rlV wk v1 v2, dV y m d] w fun e w' => ((∃ A, rlA D E = some A ∧ VD y m d ∧ e = .returned (.tuple #[.bool (isOp wk A (nb y m d)), .int .i64 0])) ∨ ((∃ A, rlA D E = some A) ∧ ¬ VD y m d ∧ e = .returned (.tuple #[.bool false, .int .i64 30])) ∨
      (rlA D E = none ∧ e = .returned (.tuple #[.bool false, .int .i64 36]))) ∧ Below w.heap.size w w' := by
  obtain ⟨W2, hW2⟩ : ∃ W2, (w.alloc (.cells (rlC wk v1 v2) 26)).alloc (.cells #[.int .i64 y, .int .i64 m, .int .i64 d] 33) = W2 := ⟨_, rfl⟩
  have hB2 : Below w.heap.size w W2 := by
    rw [← hW2]
    exact ((Below.refl _ _).alloc (Nat.le_refl _) _).alloc (by simp) _
  have hz2 : W2.heap.size = w.heap.size + 2 := by rw [← hW2]; simp
  have hR : RZ W2 w.heap.size wk v1 v2 := by
    rw [← hW2]
    exact ((alloc_below _ _).block _ (by simp)).trans (heap_alloc_new _ _)
  have hD : Box W2 (w.heap.size + 1) y m d := by
    rw [← hW2]
    have h := Box.new (w.alloc (.cells (rlC wk v1 v2) 26)) y m d
    rw [World.size_alloc] at h
    exact h
  have HS := hid (shopOn_any wk D E v1 v2 y m d W2 (h1.below hB2) (h2.below hB2) (hA.below hB2))
  have hld := run_rlLd hR
  obtain ⟨d0, d1, d2, _⟩ := hD.facts
  have HB := hid hB2
  obtain ⟨x1, hx1⟩ : ∃ x1, (if VD y m d then nb y m d else 0) = x1 := ⟨_, rfl⟩
  obtain ⟨x2, hx2⟩ : ∃ x2, (if VD y m d then (0 : Int) else 30) = x2 := ⟨_, rfl⟩
  rw [hx1, hx2] at HS
  have HX := hid (And.intro hx1 hx2)
  have hv : (VD y m d ∧ x1 = nb y m d ∧ x2 = 0) ∨ (¬ VD y m d ∧ x2 = 30) := by
    by_cases h : VD y m d
    · rw [if_pos h] at hx1 hx2; exact .inl ⟨h, hx1.symm, hx2.symm⟩
    · rw [if_neg h] at hx1 hx2; exact .inr ⟨h, hx2.symm⟩
  have HV := hid hv
  clear h1 h2 hA hR hD hB2 hx1 hx2 hv HX
  unfold rlV dV
  unfold rlC at hW2 ⊢
  unfold rlV dV rlC shV shC at HS
  go_enter Tryd.func9, Tryd.ntmps9
  go_wp2_with fail
  refine HS.out.mono ?_
  rintro e w3 ⟨hres, hb3⟩
  have HB3 := hid (HB.out.trans (hb3.mono HB.out.size))
  have hz3 : w.heap.size + 2 ≤ w3.heap.size := by have := hb3.size; omega
  clear hb3 hld d0 d1 d2 hW2 HS HB
  rcases hres with ⟨A, ad, cap, hA, hl, rfl, hr⟩ | ⟨hA, rfl⟩
  · have hst := run_shSt (wk' := wk) (v' := .slice (some ad) A.length cap) (SZ.new w3) rfl
    have hld := run_shLd ((SZ.new w3).put wk (.slice (some ad) A.length cap))
    have BN := hid (new_put (w := w3) (wk := wk) (v := .slice (some ad) A.length cap) (o := .cells #[.bool false, .bool false, .bool false, .bool false, .bool false, .bool false, .bool false, .slice none 0 0] 46))
    have HAA := hid hA
    have HR := hid hr
    generalize putS (w3.alloc (.cells #[.bool false, .bool false, .bool false, .bool false, .bool false, .bool false, .bool false, .slice none 0 0] 46)) w3.heap.size wk (.slice (some ad) A.length cap) = wS at *
    have HB4 := hid (HB3.out.trans (BN.out.mono HB3.out.size))
    have HC := hid (along_any wk A ad cap x1 1 wS (HR.out.below BN.out) hl (.inl rfl))
    unfold shV shC at HC
    rw [if_neg (by omega)] at HC
    clear hA hr
    rcases HV.out with ⟨hvd, hx1, hx2⟩ | ⟨hvd, hx2⟩
    · have HVD := hid hvd
      have HN := hid hx1
      subst hx2
      clear hvd hx1 HV
      go_wp2_with fail
      refine HC.out.mono ?_
      rintro e w5 ⟨⟨gl, gd, gs, gh, rfl, l1, l2, l3, l4, hal⟩, hb5⟩
      have HO := hid (open_up wk A x1 gl gd gs gh w5 (by have := nb_range _ _ _ HVD.out; rw [HN.out]; omega) (rlA_up HAA.out).2.2 (rlA_up HAA.out).1 hal.as)
      have HB5 := hid (HB4.out.trans (hb5.mono HB4.out.size))
      have HB6 := hid (fun w6 (hk : KT gl gd w5 w6) => hk.below HB5.out HB5.out.size (by have := HB4.out.size; omega) (by have := HB4.out.size; omega))
      clear hb5 hal HC
      go_wp2_with fail
      refine HO.out.mono ?_
      rintro e w6 ⟨rfl, _, hk6⟩
      have HB7 := hid (HB6.out w6 hk6)
      clear hk6
      go_wp2
      go_ret2
      exact ⟨.inl ⟨A, HAA.out, HVD.out, by rw [← HN.out]; rfl⟩, HB7.out⟩
    · have HVD := hid hvd
      subst hx2
      clear hvd HV
      go_wp2
      go_ret2
      exact ⟨.inr (.inl ⟨⟨A, HAA.out⟩, HVD.out, rfl⟩), HB4.out⟩
  · have hst := run_shSt (wk' := fun _ => false) (v' := .slice none 0 0) (SZ.new w3) rfl
    have BN := hid (new_put (w := w3) (wk := fun _ => false) (v := .slice none 0 0) (o := .cells #[.bool false, .bool false, .bool false, .bool false, .bool false, .bool false, .bool false, .slice none 0 0] 46))
    have HAA := hid hA
    generalize putS (w3.alloc (.cells #[.bool false, .bool false, .bool false, .bool false, .bool false, .bool false, .bool false, .slice none 0 0] 46)) w3.heap.size (fun _ => false) (.slice none 0 0) = wS at *
    have HB4 := hid (HB3.out.trans (BN.out.mono HB3.out.size))
    clear hA
    go_wp2
    go_ret2
    exact ⟨.inr (.inr ⟨HAA.out, rfl⟩), HB4.out⟩
end Go.Proofs.YtipgmiblphfboaaDoor
