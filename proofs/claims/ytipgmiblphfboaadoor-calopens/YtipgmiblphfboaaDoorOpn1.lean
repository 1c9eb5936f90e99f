/-
  The law's own: the variable mark, room, dates.
-/
import Derived.Test.YtipgmiblphfboaaDoorShe
import Derived.Test.YtipgmiblphfboaaDoorFlat
import Derived.BigQuiet
namespace Go.Proofs.YtipgmiblphfboaaDoor
open Go.RowKit
set_option maxRecDepth 100000

/-- the variable mark lies there -/
def MkB (w : World) (a b c : Int) : Prop := w.cell? ⟨0, 0, none⟩ = some (.int .i64 a) ∧ w.cell? ⟨0, 1, none⟩ = some (.int .i64 b) ∧ w.cell? ⟨0, 2, none⟩ = some (.int .i64 c)
theorem MkB.below {w w' : World} {a b c : Int} (h : MkB w a b c) (hb : Below w.heap.size w w') : MkB w' a b c := ⟨below_cells hb _ _ h.1, below_cells hb _ _ h.2.1, below_cells hb _ _ h.2.2⟩
theorem MkB.lt {w : World} {a b c : Int} (h : MkB w a b c) : 0 < w.heap.size := World.block_lt_of_cell? _ _ h.1
theorem hasMk_of {n : String} {rest : List (String × DataW Unit)} {w : World} (hn : Tryd.prog.globalNamed n = some 0) (h : laidMet Tryd.prog ((n, Rows.laid_larder_larderlaw03_mark) :: rest) w) : ∃ a b c, MkB w a b c := by
  obtain ⟨ps, ⟨g, t, cs, fuel, p, q, e1, e2, e3, e4, _⟩, _⟩ := h
  obtain rfl : g = 0 := (Option.some.inj (hn.symm.trans e1)).symm
  have hty : (Tryd.prog.globals[(0 : Nat)]?).map (·.type) = some 33 := by kernel_rfl
  obtain rfl : t = 33 := (Option.some.inj (hty.symm.trans e2)).symm
  obtain ⟨zs, hzl, hcs, _⟩ := flat_cells Tryd.underlying33 Tryd.underlying3 (by kernel_rfl) (by kernel_rfl) (by kernel_rfl) e4
  obtain ⟨a, b, c, rfl⟩ := flat3 hzl
  unfold World.var? at e3
  rw [hn] at e3
  simp only [Option.bind_some] at e3
  split at e3
  · next cc t fr hh =>
    have hc : cc.toList = [.int .i64 a, .int .i64 b, .int .i64 c] := by rw [Option.some.inj e3]; exact hcs
    have hat : ∀ j, cc[j]? = [Value.int .i64 a, .int .i64 b, .int .i64 c][j]? := fun j => by rw [← hc, Array.getElem?_toList]
    refine ⟨a, b, c, ?_, ?_, ?_⟩
    all_goals (rw [Lib.cell_of_heap hh, hat]; rfl)
  · cases e3

set_option maxHeartbeats 1000000 in
theorem room_any (v : Value) (D : List (Int × Int × Int)) (a b c : Int) (w : World) (hr : RL eD 3 w v D) (hs : D.length * 24 ≤ reachBytes) (hM : MkB w a b c) :
    Calls Tryd.prog 11 #[v] w fun e w' => (∃ v', e = .returned v' ∧ OL eD 3 33 w' w.heap.size v' (D ++ [(a, b, c)])) ∧ Below w.heap.size w w' := by
  have HR := hid hr
  have HM := hid hM
  have hs2 : D.length * 24 ≤ 140737488351232 := hs
  obtain ⟨ao, cp, rfl⟩ := hr.len0
  clear hr hM hs
  go_enter Tryd.func11, Tryd.ntmps11
  go_wp2_with (at_builtin; refine wpList_appL (enc := eD) dateinfo Tryd.underlying24 rfl (by omega) eD_len eD_one rfl _ _ rfl w.heap.size (.slice none 0 0) [] (by first | rfl | simp) (OL.nil _ _) _ D rfl HR.out ?hlen ?hl2 (Nat.le_refl _) ?hnext)
  case hlen => simp; omega
  case hl2 => simp [maxLen]; omega
  case hnext =>
    intro v2 w2 ho2 hg2
    have HB2 := hid (Below.grown (Below.refl w.heap.size w) hg2 (Nat.le_refl _) (fun b hb => by simp [Value.ownBlock] at hb))
    have HO2 := hid ho2
    obtain ⟨m0, m1, m2⟩ := HM.out.below HB2.out
    have HB3 := hid (HB2.out.alloc HB2.out.size (.cells #[.int .i64 a, .int .i64 b, .int .i64 c] 33))
    have HO3 := hid (OL.alloc HO2.out (.cells #[.int .i64 a, .int .i64 b, .int .i64 c] 33))
    clear ho2 hg2
    go_wp2_with (at_builtin; refine wpList_appL (enc := eD) dateinfo Tryd.underlying24 rfl (by omega) eD_len eD_one rfl _ _ rfl w.heap.size _ ([] ++ D) (by first | rfl | simp) HO3.out _ [(a, b, c)] rfl (rl_oneD _ _ _ _) ?hlen3 ?hl3 ?hb3 ?hnext3)
    case hlen3 => simp; omega
    case hl3 => simp [maxLen]; omega
    case hb3 => exact HB3.out.size
    case hnext3 =>
      intro v4 w4 ho4 hg4
      have HB4 := hid (HB3.out.grown hg4 HB3.out.size (fun b hb => (HO3.out.block_ge b hb).1))
      have HO4 := hid ho4
      clear ho4 hg4
      go_wp2
      go_ret
      exact ⟨⟨_, rfl, by simpa using HO4.out⟩, HB4.out⟩

set_option maxHeartbeats 1000000 in
theorem dates_same (v1 v2 : Value) (D : List (Int × Int × Int)) (w : World) (h1 : RL eD 3 w v1 D) (h2 : RL eD 3 w v2 D) (hs : D.length ≤ 9223372036854775806) :
    Calls Tryd.prog 23 #[v1, v2] w fun e w' => e = .returned (.bool true) ∧ Below w.heap.size w w' := by
  obtain ⟨a1, c1, rfl, _, _, hq1⟩ := h1
  obtain ⟨a2, c2, rfl, _, _, hq2⟩ := h2
  have HQ1 := hid hq1
  have HQ2 := hid hq2
  clear hq1 hq2
  go_enter Tryd.func23, Tryd.ntmps23
  go_wp2
  go_loopg [5] D.length (fun g s5 wr => ∃ i : Nat, i ≤ D.length ∧ D.length - i ≤ g ∧ s5 = .int .i64 (i : Int) ∧ Hid (Below w.heap.size w wr))
  case atStart => exact ⟨0, Nat.zero_le _, by omega, rfl, hid (Below.refl _ _)⟩
  case round =>
    obtain ⟨i, hi, hm, rfl, HB⟩ := hrel
    by_cases hlt : i < D.length
    · have hlt' : (i : Int) < (D.length : Int) := by omega
      obtain ⟨g, off, ha, hq⟩ := HQ1.out i hlt
      obtain ⟨g', off', ha', hq'⟩ := HQ2.out i hlt
      subst ha ha'
      have r0 : wr.cell? ⟨g, off + i * 3, none⟩ = some (.int .i64 D[i].1) := below_cells HB.out _ _ (hq 0 _ rfl)
      have r1 : wr.cell? ⟨g, off + i * 3 + 1, none⟩ = some (.int .i64 D[i].2.1) := below_cells HB.out _ _ (hq 1 _ rfl)
      have r2 : wr.cell? ⟨g, off + i * 3 + 2, none⟩ = some (.int .i64 D[i].2.2) := below_cells HB.out _ _ (hq 2 _ rfl)
      have q0 : wr.cell? ⟨g', off' + i * 3, none⟩ = some (.int .i64 D[i].1) := below_cells HB.out _ _ (hq' 0 _ rfl)
      have q1 : wr.cell? ⟨g', off' + i * 3 + 1, none⟩ = some (.int .i64 D[i].2.1) := below_cells HB.out _ _ (hq' 1 _ rfl)
      have q2 : wr.cell? ⟨g', off' + i * 3 + 2, none⟩ = some (.int .i64 D[i].2.2) := below_cells HB.out _ _ (hq' 2 _ rfl)
      generalize D[i].1 = y at *
      generalize D[i].2.1 = mo at *
      generalize D[i].2.2 = d at *
      clear hq hq'
      go_wp2_with fail
      go_quiet (fail)
      go_wp2
      go_roundg (gk - 1)
      case measure => omega
      case rel => exact ⟨i + 1, by omega, by omega, by first | rfl | go_num, hid (below_drewN HB.out nq)⟩
    · have hlt' : ¬ (i : Int) < (D.length : Int) := by omega
      go_wp2
      go_ret
      exact ⟨rfl, HB.out⟩
end Go.Proofs.YtipgmiblphfboaaDoor
