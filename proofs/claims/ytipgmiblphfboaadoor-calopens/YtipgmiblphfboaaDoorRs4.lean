/-
  The document's rules: is the shop open on a day?
-/
import Derived.Test.YtipgmiblphfboaaDoorRs3
namespace Go.Proofs.YtipgmiblphfboaaDoor
open Go.RowKit
set_option maxRecDepth 100000

theorem refWeekday_any (n : Int) (h1 : -700 ≤ n) (h2 : n ≤ 4000000) (w : World) :
    Calls Tryd.prog 46 #[.int .i64 n] w fun e w' => e = .returned (.int .i64 (wd n + 1)) ∧ w' = w := by
  have hq : (n + 700 + 5).tmod 7 = wd n := by rw [Int.tmod_eq_emod_of_nonneg (by omega)]; unfold wd; omega
  have hb := wd_lt n
  generalize wd n = r at *
  go_enter Tryd.func46, Tryd.ntmps46
  go_wp2
  go_ret
  exact ⟨rfl, rfl⟩

theorem RO.mem {D : List (Int × Int × Int)} (h : RO D) {n : Int} (hn : 0 ≤ n ∧ n ≤ 3652424) : n ∈ D.map nbT ↔ (dY n, dM n, dD n) ∈ D := by
  constructor
  · intro hm
    obtain ⟨x, hx, he⟩ := List.mem_map.1 hm
    obtain ⟨i, hi, rfl⟩ := List.getElem_of_mem hx
    have := dt_eq _ _ _ n (h.2 i hi hi).1 he
    have e : D[i] = (dY n, dM n, dD n) := Prod.ext this.1 (Prod.ext this.2.1 this.2.2)
    rw [← e]
    exact hx
  · intro hm
    exact List.mem_map.2 ⟨_, hm, (dt_is n hn).2⟩
theorem isOp_ref {wk : Nat → Bool} {D E : List (Int × Int × Int)} {A : List (Int × Bool)} (hA : rlA D E = some A) {n : Int} (hn : 0 ≤ n ∧ n ≤ 3652424) :
    isOp wk A n = if (dY n, dM n, dD n) ∈ E then true else if (dY n, dM n, dD n) ∈ D then false else wk (wd n).toNat := by
  obtain ⟨⟨h1, h2⟩, h3⟩ := rlA_some hA
  have e1 : (n, true) ∈ A ↔ (dY n, dM n, dD n) ∈ E := by
    rw [mrg_mem _ _ _ h3, ← RO.mem h2 hn]
    simp
  have e2 : (n, false) ∈ A ↔ (dY n, dM n, dD n) ∈ D := by
    rw [mrg_mem _ _ _ h3, ← RO.mem h1 hn]
    simp
  unfold isOp
  simp only [e1, e2]

set_option maxHeartbeats 4000000 in
theorem refopen_any (wk : Nat → Bool) (D E : List (Int × Int × Int)) (A : List (Int × Bool)) (hA : rlA D E = some A) (v1 v2 : Value) (n : Int) (hn : 0 ≤ n ∧ n ≤ 3652424) (w : World) (h1 : RL eD 3 w v1 D) (h2 : RL eD 3 w v2 E) :
    Calls Tryd.prog 37 #[rlV wk v1 v2, .int .i64 n] w fun e w' => e = .returned (.bool (isOp wk A n)) ∧ Below w.heap.size w w' := by
  rw [isOp_ref hA hn]
  obtain ⟨⟨ro1, ro2⟩, _⟩ := rlA_some hA
  have hlD := ro1.1
  have hlE := ro2.1
  have hR : RZ (w.alloc (.cells (rlC wk v1 v2) 26)) w.heap.size wk v1 v2 := heap_alloc_new _ _
  have HB0 := hid (alloc_below w (.cells (rlC wk v1 v2) 26))
  have HR0 := hid hR
  have H1 := hid h1
  have H2 := hid h2
  have DT := hid (refDate_any n hn.1 hn.2 (w.alloc (.cells (rlC wk v1 v2) 26)))
  have S2 := hid (fun wx (h : Below w.heap.size w wx) => stands_any E v2 (dY n) (dM n) (dD n) wx (H2.out.below h) (by omega))
  have S1 := hid (fun wx (h : Below w.heap.size w wx) => stands_any D v1 (dY n) (dM n) (dD n) wx (H1.out.below h) (by omega))
  have WE := hid (fun w => refWeekday_any n (by omega) (by omega) w)
  obtain ⟨q, hq, hq7⟩ : ∃ q : Nat, wd n = (q : Int) ∧ q < 7 := ⟨(wd n).toNat, by have := wd_lt n; omega, by have := wd_lt n; omega⟩
  have hqn : (wd n).toNat = q := by omega
  rw [hqn]
  rw [hq] at WE
  obtain ⟨bE, hbE⟩ : ∃ b, decide ((dY n, dM n, dD n) ∈ E) = b := ⟨_, rfl⟩
  obtain ⟨bD, hbD⟩ : ∃ b, decide ((dY n, dM n, dD n) ∈ D) = b := ⟨_, rfl⟩
  rw [hbE] at S2
  rw [hbD] at S1
  obtain ⟨R, hRR⟩ : ∃ R : Bool, (if (dY n, dM n, dD n) ∈ E then true else if (dY n, dM n, dD n) ∈ D then false else wk q) = R := ⟨_, rfl⟩
  rw [hRR]
  have HE := hid hbE
  have HD := hid hbD
  have HRR := hid hRR
  obtain ⟨W1, hW1⟩ : ∃ W1, w.alloc (.cells (rlC wk v1 v2) 26) = W1 := ⟨_, rfl⟩
  rw [hW1] at HB0 HR0 DT
  clear hR h1 h2 hbE hbD hRR ro1 ro2 hA hq hqn hn
  generalize dY n = y at *
  generalize dM n = mo at *
  generalize dD n = d at *
  unfold rlV dV at *
  unfold rlC at hW1 ⊢
  go_enter Tryd.func37, Tryd.ntmps37
  go_wp2_with fail
  refine DT.out.mono ?_
  rintro e w1 ⟨rfl, hb1⟩
  obtain ⟨w2, hw2⟩ : ∃ w2, w1.alloc (.cells #[.int .i64 y, .int .i64 mo, .int .i64 d] 33) = w2 := ⟨_, rfl⟩
  have b2 : Below w1.heap.size w1 w2 := by rw [← hw2]; exact alloc_below _ _
  have hb2 := hb1.trans (b2.mono hb1.size)
  have HB2 := hid (HB0.out.trans (hb2.mono HB0.out.size))
  have HR2 := hid (HR0.out.later hb2)
  have HX2 := hid (show Box w2 w1.heap.size y mo d by rw [← hw2]; exact Box.new _ _ _ _)
  obtain ⟨x0, x1, x2, _⟩ := HX2.out.facts
  have c8 := HR2.out.facts.1.2.2.2.2.2.2.2.2
  clear hb1 b2 hb2 HR0 HB0 DT hW1
  go_wp2_with fail
  refine (S2.out _ HB2.out).mono ?_
  rintro e w3 ⟨rfl, hb3⟩
  have HB3 := hid (HB2.out.trans (hb3.mono HB2.out.size))
  have HR3 := hid (HR2.out.later hb3)
  have HX3 := hid (HX2.out.later hb3)
  clear hb3 HB2 HR2 HX2 c8 x0 x1 x2 hw2
  cases bE with
  | true =>
    have hR : R = true := by rw [← HRR.out, if_pos (of_decide_eq_true HE.out)]
    subst hR
    go_wp2
    go_ret
    exact ⟨rfl, HB3.out⟩
  | false =>
    obtain ⟨x0, x1, x2, _⟩ := HX3.out.facts
    have c7 := HR3.out.facts.1.2.2.2.2.2.2.2.1
    go_wp2_with fail
    refine (S1.out _ HB3.out).mono ?_
    rintro e w4 ⟨rfl, hb4⟩
    have HB4 := hid (HB3.out.trans (hb4.mono HB3.out.size))
    have HR4 := hid (HR3.out.later hb4)
    clear hb4 HB3 HR3 HX3 c7 x0 x1 x2
    cases bD with
    | true =>
      have hR : R = false := by rw [← HRR.out, if_neg (of_decide_eq_false HE.out), if_pos (of_decide_eq_true HD.out)]
      subst hR
      go_wp2
      go_ret
      exact ⟨rfl, HB4.out⟩
    | false =>
      have hR : R = wk q := by rw [← HRR.out, if_neg (of_decide_eq_false HE.out), if_neg (of_decide_eq_false HD.out)]
      subst hR
      have cw : w4.cell? ⟨w.heap.size, q, none⟩ = some (.bool (wk q)) := by
        obtain ⟨⟨k0, k1, k2, k3, k4, k5, k6, _⟩, _⟩ := HR4.out.facts
        match q, hq7 with
        | 0, _ => exact k0
        | 1, _ => exact k1
        | 2, _ => exact k2
        | 3, _ => exact k3
        | 4, _ => exact k4
        | 5, _ => exact k5
        | 6, _ => exact k6
      go_wp2_with fail
      refine (WE.out _).mono ?_
      rintro e w5 ⟨rfl, rfl⟩
      go_wp2
      go_ret
      exact ⟨rfl, HB4.out⟩
end Go.Proofs.YtipgmiblphfboaaDoor
