/-
  What is lent and kept; same; areBelow, isCount, slices.Min.
-/
import Derived.Test.YtaiccmbhdgecgaaSa
namespace Go.Proofs.Ytaiccmbhdgecgaa
open Go.RowKit
set_option maxRecDepth 100000

def mks : List Int := [7700, 7701, 7702, 7703, 7704, 7705, 7706, 7707, 7708]
theorem mks_len : mks.length = 9 := rfl
theorem mks_at (k : Nat) (h : k < mks.length) : mks[k]'h = 7700 + (k : Int) := by
  have : ∀ k : Fin 9, (mks[k.1]'k.2) = 7700 + (k.1 : Int) := by decide
  exact this ⟨k, h⟩
/-- v is lent: it reads as R, and the marks lie behind it -/
def LentI (w : World) (v : Value) (R : List Int) : Prop :=
  ∃ b cap, v = .slice (some ⟨b, 0, none⟩) R.length cap ∧ R.length + 9 ≤ cap ∧ cap ≤ maxLen ∧ ∀ j (hj : j < (R ++ mks).length), w.cell? ⟨b, j, none⟩ = some (.int .i64 ((R ++ mks)[j]))
theorem LentI.reads {w : World} {v : Value} {R : List Int} (h : LentI w v R) : RI w v R := by
  obtain ⟨b, cap, rfl, h1, _, hc⟩ := h
  refine ⟨_, cap, rfl, by omega, fun e => (by cases e), fun j hj => ⟨b, 0, rfl, ?_⟩⟩
  have := hc j (by simp; omega)
  rw [List.getElem_append_left hj] at this
  rw [Nat.zero_add]
  exact this
theorem LentI.below {w w' : World} {v : Value} {R : List Int} (h : LentI w v R) (hb : Below w.heap.size w w') : LentI w' v R := by
  obtain ⟨b, cap, hv, h1, h2, hc⟩ := h
  exact ⟨b, cap, hv, h1, h2, fun j hj => below_cells hb _ _ (hc j hj)⟩
theorem mark_cell {w : World} {b : Nat} {R : List Int} (hc : ∀ j (hj : j < (R ++ mks).length), w.cell? ⟨b, j, none⟩ = some (.int .i64 ((R ++ mks)[j]))) (k : Nat) (h : k < 9) :
    w.cell? ⟨b, R.length + k, none⟩ = some (.int .i64 (7700 + (k : Int))) := by
  have hk : R.length + k < (R ++ mks).length := by rw [List.length_append, mks_len]; omega
  have e : ((R ++ mks)[R.length + k]'hk) = 7700 + (k : Int) := by
    rw [List.getElem_append_right (by omega), mks_at]
    omega
  rw [hc (R.length + k) hk, e]

set_option maxHeartbeats 400000 in
theorem lent_any (v : Value) (R : List Int) (w : World) (hr : RI w v R) (hl : (R.length + 9) * 8 ≤ 140737488355328) :
    Calls Try.prog 22 #[v] w fun e w' => ∃ v', e = .returned v' ∧ LentI w' v' R ∧ Below w.heap.size w w' := by
  obtain ⟨ao, cap, rfl⟩ := hr.len0
  go_enter Try.func22, Try.ntmps22
  go_wp2_with (at_builtin; refine wpList_appI rfl (.tmp 5) (.tmp 6) rfl w.heap.size _ [] rfl (OI.nil _ _) _ R rfl hr (by simp; omega) (Nat.le_refl _) ?hnext)
  case hnext =>
    intro v1 w1 ho1 hg1
    have hb1 := (Below.refl w.heap.size w).grown hg1 (Nat.le_refl _) (by intro k hk; cases hk)
    clear hr hg1
    go_wp2
    go_loopw [3, 4] (fun v i wr => ∃ k : Nat, k ≤ 9 ∧ i = .int .i64 k ∧ OI wr w.heap.size v (R ++ mks.take k) ∧ Below w.heap.size w wr) (fun _ i _ => 9 - (intOf i).toNat)
    case atStart => exact ⟨0, by omega, rfl, by simpa using ho1, hb1⟩
    case round =>
      obtain ⟨k, hk, rfl, ho, hbl⟩ := hrel
      have hz := hbl.size
      clear ho1 hb1
      by_cases h : k < 9
      · have hlen : (mks.take k).length = k := by simp [mks]; omega
        go_wp2_with (at_builtin; refine wpList_appI rfl (.tmp 12) (.tmp 15) rfl w.heap.size _ (R ++ mks.take k) rfl (ho.alloc _) _ [7700 + (k : Int)] rfl (ri_one _ _) ?hlen ?hbase ?hnext2)
        case hlen => simp [hlen]; omega
        case hbase => simp; omega
        case hnext2 =>
          intro v2 w2 ho2 hg2
          go_wp2
          go_roundw
          case rel =>
            refine ⟨k + 1, by omega, by go_num, ?_, (hbl.alloc (by omega) _).grown hg2 (by simp; omega) ho.block_ge⟩
            rw [List.take_succ_eq_append_getElem h, mks_at k h]
            exact ho2
          case measure => simp [intOf]; omega
      · have e9 : k = 9 := by omega
        subst e9
        have hm : mks.take 9 = mks := rfl
        rw [hm] at ho
        obtain ⟨g, cap', hv, hc1, hc2, hcell⟩ := ho.form (by simp [mks])
        have hml : (R ++ mks).length = R.length + 9 := by simp [mks]
        rw [hml] at hv hc1
        subst hv
        have HC : Hid (_) := hcell
        have HM : Hid (_) := hc2
        clear hcell hc2 ho hm
        go_wp2
        go_ret
        refine ⟨_, rfl, ⟨g, cap', ?_, hc1, HM.out, HC.out⟩, hbl⟩
        rfl

set_option maxHeartbeats 400000 in
theorem kept_any (v p : Value) (R : List Int) (w : World) (hv : LentI w v R) (hp : RI w p R) (hl : (R.length + 9) * 8 ≤ 140737488355328) :
    Calls Try.prog 26 #[v, p] w fun e w' => e = .returned (.bool true) ∧ Below w.heap.size w w' := by
  obtain ⟨ao, cap, rfl, hpc, hpn, hpcell⟩ := hp
  obtain ⟨b, cap', rfl, hc1, hc2, hcell⟩ := hv
  have HC : Hid (_) := hcell
  have HP : Hid (_) := hpcell
  clear hcell hpcell hc2 hpn
  go_enter Try.func26, Try.ntmps26
  go_wp2
  go_loopw [6] (fun i wr => ∃ k : Nat, k ≤ R.length + 9 ∧ i = .int .i64 k ∧ Below w.heap.size w wr) (fun i _ => R.length + 9 - (intOf i).toNat)
  case atStart => exact ⟨0, by omega, rfl, Below.refl _ _⟩
  case round =>
    obtain ⟨k, hk, rfl, hbl⟩ := hrel
    have HB := hid hbl
    clear hbl
    by_cases h : k < R.length + 9
    · by_cases h1 : k < R.length
      · have c1 := below_cells HB.out _ _ (HC.out k (by simp [mks]; omega))
        rw [List.getElem_append_left h1] at c1
        obtain ⟨g, off, hao, c2⟩ := HP.out k h1
        have c2 := below_cells HB.out _ _ c2
        subst hao
        generalize R[k] = x at c1 c2
        have hI : (k : Int) < (R.length : Int) := by omega
        have hd : decide (R.length ≤ k) = false := decide_eq_false (by omega)
        go_wp2
        go_quiet (fail)
        go_wp2
        go_roundw
        case rel => exact ⟨k + 1, by omega, by go_num, below_drewN HB.out _⟩
        case measure => simp [intOf]; omega
      · obtain ⟨j, rfl⟩ : ∃ j, k = R.length + j := ⟨k - R.length, by omega⟩
        have c1 := below_cells HB.out _ _ (mark_cell HC.out j (by omega))
        have hI : decide ((R.length : Int) + (j : Int) < (R.length : Int)) = false := decide_eq_false (by omega)
        have hd : (R.length : Int) ≤ (R.length : Int) + (j : Int) := by omega
        have he : (7700 + ((R.length : Int) + (j : Int)) - (R.length : Int)) = 7700 + (j : Int) := by omega
        go_wp2
        go_quiet (fail)
        go_wp2
        go_roundw
        case rel => exact ⟨R.length + j + 1, by omega, by go_num, below_drewN HB.out _⟩
        case measure => simp [intOf]; omega
    · go_wp2
      go_ret
      exact ⟨rfl, HB.out⟩
end Go.Proofs.Ytaiccmbhdgecgaa
