/-
  A board: Waiting, Ready, Wake.
-/
import Derived.Test.YtogbmldplgondacBd5
import Derived.Laws.OwnMore
namespace Go.Proofs.Ytogbmldplgondac
open Go.RowKit Go.Maps
set_option maxRecDepth 100000

theorem equalIn_slice_nil (w : World) (n : Nat) (ad : Addr) (l c : Nat) : (Op.equalIn (n + 1) 22 (.slice (some ad) l c) (.slice none 0 0)).run Try.prog w = .ok false w := by
  simp [Op.equalIn, run_underlying Try.underlying22]
theorem eql_slice_nil (w : World) (ad : Addr) (l c : Nat) : (binOp .eql 22 (.slice (some ad) l c) (.slice none 0 0)).run Try.prog w = .ok (.bool false) w := by
  simp only [binOp]
  simp [Op.equal, Op.maxDepth, equalIn_slice_nil w 9999 ad l c]
set_option maxHeartbeats 400000 in
theorem clone_any (v : Value) (R : List Int) (w : World) (hr : RI w v R) (hl : R.length * 8 ≤ 140737488355328) :
    Calls Try.prog 42 #[v] w fun e w' => (∃ v', e = .returned v' ∧ OI w' w.heap.size v' R) ∧ Below w.heap.size w w' := by
  have hr0 := hr
  obtain ⟨ao, cap, rfl, hc, hn, hcell⟩ := hr
  cases ao with
  | none =>
    obtain rfl := hn rfl
    have : R = [] := List.eq_nil_of_length_eq_zero (by omega)
    subst this
    have hs : ∀ w : World, (binOp .eql 22 (.slice none 0 0) (.slice none 0 0)).run Try.prog w = .ok (.bool true) w := fun w => by kernel_rfl
    clear hcell hr0
    go_enter Try.func42, Try.ntmps42
    go_wp2
    go_ret
    exact ⟨⟨_, rfl, OI.nil _ _⟩, Below.refl _ _⟩
  | some ad =>
    have hs : ∀ w : World, (binOp .eql 22 (.slice (some ad) R.length cap) (.slice none 0 0)).run Try.prog w = .ok (.bool false) w := fun w => eql_slice_nil w ad _ _
    have HR := hid hr0
    have HO := hid (show OI (w.alloc (.cells #[] 3)) w.heap.size (.slice (some ⟨w.heap.size, 0, none⟩) 0 0) [] from World.ownsRow_lit w #[] 0 (Nat.le_refl _) (by unfold maxLen; omega) rfl)
    have B1 := hid ((Below.refl w.heap.size w).alloc (Nat.le_refl _) (.cells #[] 3))
    clear hcell hr0
    go_enter Try.func42, Try.ntmps42
    go_wp2_with (at_builtin; refine wpList_appI rfl _ _ rfl w.heap.size _ [] rfl HO.out _ R rfl (HR.out.alloc _) (by simpa using hl) (by simp) ?hnext)
    case hnext =>
      intro v1 w1 ho1 hg1
      have H1 := hid ho1
      have B2 := hid (B1.out.grown hg1 (by simp) (fun k hk => HO.out.block_ge k hk))
      clear ho1 hg1
      go_wp2
      go_ret
      exact ⟨⟨_, rfl, H1.out⟩, B2.out⟩

theorem waiting_any (on : Int) (w : World) {base d hb mb N : Nat} {S : List Hd} {p : Int} {M : Int → Value} {L : Int → List Int} (H : BD w base d hb mb N S p M L) (hon : i64 on) (hl : (L on).length ≤ 17592186043904) :
    Calls Try.prog 31 #[.pointer (some ⟨d, 0, none⟩), .int .i64 on] w fun e w' => (∃ v', e = .returned v' ∧ OI w' w.heap.size v' (L on)) ∧ Below w.heap.size w w' := by
  obtain ⟨_, c1, _, _⟩ := H.cells
  have hlk := H.map.look hon
  have HC := hid (clone_any (M on) (L on) w (H.lists on).reads (by omega))
  clear H
  generalize M on = m at *
  go_enter Try.func31, Try.ntmps31
  go_wp2_with fail
  refine HC.out.mono ?_
  rintro e w1 ⟨⟨v', rfl, ho⟩, hb⟩
  have HO := hid ho
  have HB := hid hb
  clear ho hb
  go_wp2
  go_ret
  exact ⟨⟨_, rfl, HO.out⟩, HB.out⟩

/-- those of the first k that are ready -/
def rdy (S : List Hd) : Nat → List Int
  | 0 => []
  | k + 1 => if (S.getD k (0, 0, 0)).1 = 1 then rdy S k ++ [(k : Int)] else rdy S k
theorem rdy_len (S : List Hd) : ∀ k, (rdy S k).length ≤ k
  | 0 => Nat.le_refl _
  | k + 1 => by unfold rdy; have := rdy_len S k; split <;> simp <;> omega
set_option maxHeartbeats 400000 in
theorem ready_any (w : World) {base d hb mb N : Nat} {S : List Hd} {p : Int} {M : Int → Value} {L : Int → List Int} (H : BD w base d hb mb N S p M L) :
    Calls Try.prog 30 #[.pointer (some ⟨d, 0, none⟩)] w fun e w' => (∃ v', e = .returned v' ∧ OI w' w.heap.size v' (rdy S S.length)) ∧ Below w.heap.size w w' := by
  obtain ⟨c0, _, _, _⟩ := H.cells
  have HH := hid H
  have hS := H.many
  clear H
  go_enter Try.func30, Try.ntmps30
  go_wp2
  clear c0
  go_loopw [3, 12] (fun v i wr => ∃ k : Nat, k ≤ S.length ∧ i = .int .i64 (k : Int) ∧ OI wr w.heap.size v (rdy S k) ∧ Below w.heap.size w wr) (fun _ i _ => S.length - (intOf i).toNat)
  case atStart => exact ⟨0, by omega, rfl, OI.nil _ _, Below.refl _ _⟩
  case round =>
    obtain ⟨k, hk, rfl, ho, hb⟩ := hrel
    have HO := hid ho
    have HB := hid hb
    have hz := hb.size
    clear ho hb
    by_cases h : k < S.length
    · have hI : (k : Int) < (S.length : Int) := by omega
      have HD := HH.out.later HB.out
      obtain ⟨c0, _, _, _⟩ := HD.cells
      obtain ⟨c1, _, _, _⟩ := HD.hand k h
      have hgd := getD_at S k h
      have hlen := rdy_len S k
      clear HD
      by_cases hs : S[k].1 = 1
      · have HR := hid (show rdy S (k + 1) = rdy S k ++ [(k : Int)] by rw [rdy, hgd, if_pos hs])
        have hb1 : (S[k].1 == 1) = true := by simp [hs]
        generalize S[k].1 = st at c1 hb1
        clear hgd hs
        go_wp2_with (at_builtin; refine wpList_appI rfl _ _ rfl w.heap.size _ (rdy S k) rfl (HO.out.alloc _) _ [(k : Int)] rfl (ri_one _ _) ?hlen ?hbase ?hnext2)
        case hlen => simp; omega
        case hbase => simp; omega
        case hnext2 =>
          intro v2 w2 ho2 hg2
          have HO2 := hid ho2
          have HB2 := hid ((HB.out.alloc (by omega) _).grown hg2 (by simp; omega) HO.out.block_ge)
          clear ho2 hg2
          go_wp2
          go_roundw
          case rel => exact ⟨k + 1, by omega, by go_num, by rw [HR.out]; exact HO2.out, HB2.out⟩
          case measure => simp [intOf]; omega
      · have HR := hid (show rdy S (k + 1) = rdy S k by rw [rdy, hgd, if_neg hs])
        have hb1 : (S[k].1 == 1) = false := by simp [hs]
        generalize S[k].1 = st at c1 hb1
        clear hgd hs
        go_wp2
        go_roundw
        case rel => exact ⟨k + 1, by omega, by go_num, by rw [HR.out]; exact HO.out, HB.out⟩
        case measure => simp [intOf]; omega
    · have hI : ¬ (k : Int) < (S.length : Int) := by omega
      have hke : k = S.length := by omega
      have HE := hid hke
      clear hke h hk
      go_wp2
      go_ret
      rw [← HE.out]
      exact ⟨⟨_, rfl, HO.out⟩, HB.out⟩
end Go.Proofs.Ytogbmldplgondac
