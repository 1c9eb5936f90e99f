/-
  LentLines, KeptLines, weight.
-/
import Derived.Test.YtagjjcifpdgniaaKx1
namespace Go.Proofs.Ytagjjcifpdgniaa
open Go.RowKit
set_option maxRecDepth 100000

def lentA : ByteArray := ⟨#[108, 101, 110, 116]⟩
/-- the marks behind lent lines -/
def mkL : List Ln := (List.range 9).map fun (i : Nat) => (lentA, (i : Int))
theorem mkL_len : mkL.length = 9 := by simp [mkL]
theorem mkL_at (k : Nat) (h : k < mkL.length) : mkL[k] = (lentA, (k : Int)) := by simp [mkL]
theorem mkL_take (k : Nat) (h : k < 9) : mkL.take (k + 1) = mkL.take k ++ [(lentA, (k : Int))] := by
  rw [List.take_succ_eq_append_getElem (by rw [mkL_len]; exact h), mkL_at]
/-- lent lines: the marks lie behind them -/
def LentN (w : World) (v : Value) (L : List Ln) : Prop :=
  ∃ b cap, v = .slice (some ⟨b, 0, none⟩) L.length cap ∧ L.length + 9 ≤ cap ∧ cap ≤ maxLen ∧ ∀ j (hj : j < (L ++ mkL).length), w.cell? ⟨b, j * 2, none⟩ = some (.string (L ++ mkL)[j].1) ∧ w.cell? ⟨b, j * 2 + 1, none⟩ = some (.int .i64 (L ++ mkL)[j].2)
theorem LentN.below {w w' : World} {v : Value} {L : List Ln} (h : LentN w v L) (hb : Below w.heap.size w w') : LentN w' v L := by
  obtain ⟨b, cap, hv, h1, h2, hc⟩ := h
  exact ⟨b, cap, hv, h1, h2, fun j hj => ⟨below_cells hb _ _ (hc j hj).1, below_cells hb _ _ (hc j hj).2⟩⟩
theorem LentN.reads {w : World} {v : Value} {L : List Ln} (h : LentN w v L) : RLn w v L := by
  obtain ⟨b, cap, rfl, h1, _, hc⟩ := h
  refine .inr ⟨b, 0, cap, rfl, by omega, fun j hj => ?_⟩
  have := hc j (by simp; omega)
  rw [List.getElem_append_left hj] at this
  rw [Nat.zero_add]
  exact this
set_option maxHeartbeats 1000000 in
theorem lentLines_any (v : Value) (L : List Ln) (w : World) (hr : RLn w v L) (hl : L.length ≤ 1000000000) :
    Calls Try.prog 67 #[v] w fun e w' => ∃ v', e = .returned v' ∧ LentN w' v' L ∧ (∀ k, v'.ownBlock = some k → w.heap.size ≤ k) ∧ Below w.heap.size w w' := by
  obtain ⟨ao, cap, rfl⟩ := hr.form
  go_enter Try.func67, Try.ntmps67
  go_wp2_with (at_builtin; refine wpList_appLs rfl (.tmp 5) (.tmp 6) rfl w.heap.size _ [] rfl (World.ownsRow_nil _ _ _ _) _ L rfl hr (by simp; omega) (Nat.le_refl _) ?hnext)
  case hnext =>
  intro v1 w1 ho1 hg1
  have HO1 := hid ho1
  have HB1 := hid ((Below.refl w.heap.size w).grown hg1 (Nat.le_refl _) (by intro k hk; cases hk))
  clear hr hg1 ho1
  go_wp2_with fail
  go_loopw [3, 4] (fun v i wr => ∃ k : Nat, k ≤ 9 ∧ i = .int .i64 k ∧ OLn wr w.heap.size v (L ++ mkL.take k) ∧ Below w.heap.size w wr) (fun _ i _ => 9 - (intOf i).toNat)
  case atStart => exact ⟨0, by omega, rfl, by simpa using HO1.out, HB1.out⟩
  case round =>
    obtain ⟨k, hk, rfl, ho, hbl⟩ := hrel
    have hz := hbl.size
    have HO := hid ho
    have HB := hid hbl
    clear ho hbl
    by_cases h : k < 9
    · have hlen : (L ++ mkL.take k).length ≤ 1000000000000 := by rw [List.length_append, List.length_take]; omega
      have HT := hid (mkL_take k h)
      generalize mkL.take k = Tk at *
      obtain ⟨W, hW⟩ : ∃ W, wr.alloc (.cells #[.string ⟨#[108, 101, 110, 116]⟩, .int .i64 (k : Int)] 73) = W := ⟨_, rfl⟩
      have RW := hid (show W.heap[wr.heap.size]? = some (.cells #[.string lentA, .int .i64 (k : Int)] 73 (0, 0)) by rw [← hW]; exact heap_alloc_new wr _)
      have BW := hid (show Below wr.heap.size wr W by rw [← hW]; exact (Below.refl _ _).alloc (Nat.le_refl _) _)
      have zW : W.heap.size = wr.heap.size + 1 := by rw [← hW, World.size_alloc]
      have HOW := hid (show OLn W w.heap.size _ (L ++ Tk) from HO.out.old (fun k _ hk => BW.out.block k hk))
      clear HO
      go_wp2_with (at_builtin; refine wpList_appL rfl (.tmp 12) (.tmp 15) rfl w.heap.size _ (L ++ Tk) rfl HOW.out wr.heap.size (lentA, (k : Int)) rfl RW.out hlen (by omega) ?hnext2)
      case hnext2 =>
      intro v2 w2 ho2 hg2
      have HO2 := hid ho2
      have HB2 := hid ((HB.out.trans (BW.out.mono hz)).grown hg2 (by omega) (fun k hk => HOW.out.block_ge k hk))
      clear ho2 hg2 HOW
      go_wp2_with fail
      go_roundw
      case rel => exact ⟨k + 1, by omega, by go_num, by rw [HT.out]; exact HO2.out, HB2.out⟩
      case measure => simp [intOf]; omega
    · have e9 : k = 9 := by omega
      subst e9
      have hm : mkL.take 9 = mkL := rfl
      rw [hm] at HO
      obtain ⟨g, cap', hv, hc1, hc2, hcell⟩ := HO.out.cells (by simp [mkL])
      have hml : (L ++ mkL).length = L.length + 9 := by rw [List.length_append, mkL_len]
      rw [hml] at hv hc1
      subst hv
      have HC := hid hcell
      have HM := hid hc2
      have HG := hid (HO.out.block_ge g rfl)
      clear hcell hc2 HO hm
      go_wp2
      go_ret
      refine ⟨_, rfl, ⟨g, cap', ?_, hc1, HM.out, HC.out⟩, fun k hk => ?_, HB.out⟩
      · rfl
      · cases hk
        exact HG.out
set_option maxHeartbeats 2000000 in
theorem keptLines_any (v p : Value) (L : List Ln) (w : World) (hv : LentN w v L) (hp : RLn w p L) (hl : L.length ≤ 1000000000) :
    Calls Try.prog 69 #[v, p] w fun e w' => e = .returned (.bool true) ∧ Below w.heap.size w w' := by
  obtain ⟨b, cap', rfl, hc1, hc2, hcell⟩ := hv
  have HC := hid hcell
  have HP := hid hp
  obtain ⟨ao, cap, rfl⟩ := hp.form
  have hcI : ((L.length : Int) + 9) ≤ (cap' : Int) := by omega
  clear hcell hc2 hp
  go_enter Try.func69, Try.ntmps69
  go_wp2_with fail
  go_loopw [6] (fun i wr => ∃ k : Nat, k ≤ L.length + 9 ∧ i = .int .i64 (k : Int) ∧ Below w.heap.size w wr) (fun i _ => L.length + 9 - (intOf i).toNat)
  case atStart => exact ⟨0, by omega, rfl, Below.refl _ _⟩
  case round =>
    obtain ⟨k, hk, rfl, hbl⟩ := hrel
    have HB := hid hbl
    have hlen : (L ++ mkL).length = L.length + 9 := by rw [List.length_append, mkL_len]
    by_cases hlt : k < L.length + 9
    · have hI : (k : Int) < ((L.length + 9 : Nat) : Int) := by omega
      have hI' : (k : Int) < (L.length : Int) + 9 := by omega
      have hcl := HC.out k (by omega)
      have c0 := below_cells hbl _ _ hcl.1
      have c1 := below_cells hbl _ _ hcl.2
      by_cases hk2 : k < L.length
      · have hI2 : (k : Int) < (L.length : Int) := by omega
        have hI4 : ¬ L.length ≤ k := by omega
        have hI5 : ¬ (L.length : Int) ≤ (k : Int) := by omega
        rcases HP.out with ⟨rfl, _⟩ | ⟨b2, off2, cap2, hv2, hcp, hcell2⟩
        · simp at hk2
        cases hv2
        have hcl2 := hcell2 k hk2
        have d0 := below_cells hbl _ _ hcl2.1
        have d1 := below_cells hbl _ _ hcl2.2
        rw [List.getElem_append_left hk2] at c0 c1
        clear hcl hcl2 hcell2 hbl
        generalize (L[k]'hk2).1 = x at c0 d0
        generalize (L[k]'hk2).2 = y at c1 d1
        go_wp2_with fail
        go_quiet (fail)
        have hB1 := below_drewN HB.out nq
        clear c0 c1 d0 d1
        go_wp2
        go_roundw
        case rel => exact ⟨k + 1, by omega, by go_num, hB1⟩
        case measure => simp [intOf]; omega
      · have hI2 : ¬ (k : Int) < (L.length : Int) := by omega
        have hI3 : (L.length : Int) ≤ (k : Int) := by omega
        have hI4 : L.length ≤ k := by omega
        have hI5 : ¬ k < L.length := by omega
        have em : (L ++ mkL)[k]'(by omega) = (lentA, ((k - L.length : Nat) : Int)) := by
          rw [List.getElem_append_right (by omega), mkL_at]
        rw [em] at c0 c1
        have es : ((k - L.length : Nat) : Int) = (k : Int) - (L.length : Int) := by omega
        rw [es] at c1
        unfold lentA at c0
        clear hcl em es hbl
        go_wp2_with fail
        go_quiet (fail)
        have hB1 := below_drewN HB.out nq
        clear c0 c1
        go_wp2
        go_roundw
        case rel => exact ⟨k + 1, by omega, by go_num, hB1⟩
        case measure => simp [intOf]; omega
    · have hI : ¬ (k : Int) < ((L.length + 9 : Nat) : Int) := by omega
      have hI' : ¬ (k : Int) < (L.length : Int) + 9 := by omega
      clear hbl
      go_wp2
      go_ret
      exact ⟨rfl, HB.out⟩
/-- how much a list of lines weighs -/
def wl (L : List Ln) : Nat := (L.map fun x => 2 + x.1.size).sum
theorem wl_take (L : List Ln) (j : Nat) (h : j < L.length) : wl (L.take (j + 1)) = wl (L.take j) + (2 + L[j].1.size) := by
  unfold wl
  rw [List.take_succ_eq_append_getElem h, List.map_append, List.sum_append]
  simp
theorem wl_le (L : List Ln) (j : Nat) : wl (L.take j) ≤ wl L := by
  unfold wl
  conv => rhs; rw [← List.take_append_drop j L]
  rw [List.map_append, List.sum_append]
  omega
end Go.Proofs.Ytagjjcifpdgniaa
