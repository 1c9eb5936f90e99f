/-
  The document's rules: does a day stand in a list?
-/
import Derived.Test.YtipgmiblphfboaaDoorSh2
import Derived.Test.YtipgmiblphfboaaDoorSha
import Derived.Test.YtipgmiblphfboaaDoorRday
namespace Go.Proofs.YtipgmiblphfboaaDoor
open Go.RowKit
set_option maxRecDepth 100000

set_option maxHeartbeats 1000000 in
theorem stands_any (D : List (Int × Int × Int)) (v : Value) (y m d : Int) (w : World) (hr : RL eD 3 w v D) (hl : D.length ≤ 9223372036854775806) :
    Calls Tryd.prog 43 #[v, dV y m d] w fun e w' => e = .returned (.bool (decide ((y, m, d) ∈ D))) ∧ Below w.heap.size w w' := by
  have HR := hid hr
  obtain ⟨ao, c, rfl, hc, hn, hcell⟩ := hr
  have HQ := hid hcell
  have HB0 := hid (alloc_below w (.cells #[.int .i64 y, .int .i64 m, .int .i64 d] 33))
  have HX0 := hid (Box.new w y m d)
  obtain ⟨bb, hbb⟩ : ∃ bb, decide ((y, m, d) ∈ D) = bb := ⟨_, rfl⟩
  rw [hbb]
  have HBB := hid hbb
  clear hn hcell hbb
  unfold dV
  go_enter Tryd.func43, Tryd.ntmps43
  go_wp2
  generalize w.alloc (.cells #[.int .i64 y, .int .i64 m, .int .i64 d] 33) = w0 at *
  go_loopg [5] D.length (fun g s5 wr => ∃ k : Nat, k ≤ D.length ∧ D.length - k ≤ g ∧ s5 = .int .i64 (k : Int) ∧ Hid (Box wr w.heap.size y m d) ∧ Hid (Below w.heap.size w wr) ∧ Hid (∀ i (hi : i < D.length), i < k → D[i] ≠ (y, m, d)))
  case atStart => exact ⟨0, Nat.zero_le _, Nat.le_refl _, rfl, HX0, HB0, hid (fun i _ h => by omega)⟩
  case round =>
    obtain ⟨k, hk, hm, rfl, HX, HB, HN⟩ := hrel
    clear HX0 HB0
    by_cases hlt : k < D.length
    · have hlt' : (k : Int) < (D.length : Int) := by omega
      obtain ⟨g, off, ha, hq⟩ := HQ.out k hlt
      subst ha
      have r0 : wr.cell? ⟨g, off + k * 3, none⟩ = some (.int .i64 D[k].1) := below_cells HB.out _ _ (hq 0 _ rfl)
      have r1 : wr.cell? ⟨g, off + k * 3 + 1, none⟩ = some (.int .i64 D[k].2.1) := below_cells HB.out _ _ (hq 1 _ rfl)
      have r2 : wr.cell? ⟨g, off + k * 3 + 2, none⟩ = some (.int .i64 D[k].2.2) := below_cells HB.out _ _ (hq 2 _ rfl)
      obtain ⟨x0, x1, x2, _⟩ := HX.out.facts
      have HE := hid (show D[k] = (y, m, d) ↔ (D[k].1 = y ∧ D[k].2.1 = m ∧ D[k].2.2 = d) by
        constructor
        · intro h; rw [h]; exact ⟨rfl, rfl, rfl⟩
        · rintro ⟨h1, h2, h3⟩; exact Prod.ext h1 (Prod.ext h2 h3))
      have HM := hid (List.getElem_mem hlt)
      have HN2 := hid (fun (hne : ¬ D[k] = (y, m, d)) i (hi : i < D.length) (h : i < k + 1) => (show D[i] ≠ (y, m, d) by
        by_cases e : i = k
        · subst e; exact hne
        · exact HN.out i hi (by omega)))
      generalize D[k] = z at *
      obtain ⟨z0, z1, z2⟩ := z
      simp only at r0 r1 r2 HE
      clear hq
      by_cases he : z0 = y ∧ z1 = m ∧ z2 = d
      · have hb : bb = true := by
          rw [← HBB.out]
          have h1 := HE.out.2 he
          have h2 := HM.out
          rw [h1] at h2
          exact decide_eq_true h2
        obtain ⟨rfl, rfl, rfl⟩ := he
        subst hb
        go_wp2_with fail
        go_quiet (fail)
        go_wp2
        go_ret
        exact ⟨rfl, below_drewN HB.out nq⟩
      · have he3 : ¬ z0 = y ∨ (z0 = y ∧ ¬ z1 = m) ∨ (z0 = y ∧ z1 = m ∧ ¬ z2 = d) := by
          by_cases a1 : z0 = y
          · by_cases a2 : z1 = m
            · exact .inr (.inr ⟨a1, a2, fun a3 => he ⟨a1, a2, a3⟩⟩)
            · exact .inr (.inl ⟨a1, a2⟩)
          · exact .inl a1
        have HNN := hid (HN2.out (fun h => he (HE.out.1 h)))
        clear he HN2 HE HM
        rcases he3 with hq1 | ⟨hq1, hq2⟩ | ⟨hq1, hq2, hq3⟩
        all_goals
          go_wp2_with fail
          go_quiet (fail)
          go_wp2
          go_roundg (gk - 1)
          case measure => omega
          case rel => exact ⟨k + 1, by omega, by omega, by first | rfl | go_num, hid (HX.out.later (below_drewN (Below.refl _ _) nq)), hid (below_drewN HB.out nq), HNN⟩
    · have hlt' : ¬ (k : Int) < (D.length : Int) := by omega
      have hb : bb = false := by
        rw [← HBB.out]
        apply decide_eq_false
        intro h
        obtain ⟨i, hi, e⟩ := List.getElem_of_mem h
        exact HN.out i hi (by omega) e
      subst hb
      go_wp2
      go_ret
      exact ⟨rfl, HB.out⟩
end Go.Proofs.YtipgmiblphfboaaDoor
