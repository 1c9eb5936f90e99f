/-
  Disk: places: the binary digits that are 1.
-/
import Derived.Test.YtjaopckdhohpbaaDoorDka
import Derived.Test.YtjaopckdhohpbaaDoorDch
namespace Go.Proofs.YtjaopckdhohpbaaDoor
open Go.RowKit
set_option maxRecDepth 100000
set_option linter.unusedVariables false
set_option linter.unusedSimpArgs false

/-- a list of ints in a block of the call's own -/
def OwK (w : World) (base : Nat) (v : Value) (K : List Int) : Prop := w.ownsRow base 3 1 v K.length (ic K)
theorem and_one : ∀ t : Fin 1024, bits .and .i64 (t.1 : Int) 1 = ((t.1 % 2 : Nat) : Int) := by decide +kernel
theorem shr_nat (s j : Nat) : (s : Int) / 2 ^ j = ((s / 2 ^ j : Nat) : Int) := by
  rw [Int.natCast_ediv, Int.natCast_pow]
  rfl
set_option maxHeartbeats 4000000 in
theorem places_any (s : Nat) (w : World) (hs : s < 1024) :
    Calls Tryd.prog 53 #[.int .i64 (s : Int)] w fun e w' => (∃ v, e = .returned v ∧ OwK w' w.heap.size v (pl s 10)) ∧ Below w.heap.size w w' := by
  obtain ⟨j0, hj0, hy0, hy1, hy2⟩ := info_parts intinfo
  go_enter Tryd.func53, Tryd.ntmps53
  go_wp2_with fail
  go_loopw [3, 4] (fun v i wr => ∃ j : Nat, j ≤ 10 ∧ i = .int .i64 (j : Int) ∧ OwK wr w.heap.size v (pl s j) ∧ Below w.heap.size w wr) (fun _ i _ => 10 - (intOf i).toNat)
  case atStart => exact ⟨0, by omega, rfl, World.ownsRow_nil _ _ _ _, Below.refl _ _⟩
  case round =>
    obtain ⟨j, hj, rfl, ho, hb⟩ := hrel
    have hq := shr_nat s j
    have hle : s / 2 ^ j ≤ s := Nat.div_le_self _ _
    have hPs := pl_succ s j
    have hPe := pl_end s j
    have hlen := pl_len s j
    have hz0 : j = 10 → s / 2 ^ j = 0 := fun h => by subst h; exact Nat.div_eq_of_lt (by omega)
    obtain ⟨t, ht⟩ : ∃ t, t = s / 2 ^ j := ⟨_, rfl⟩
    rw [← ht] at hq hle hPs hPe hz0
    have hand := and_one ⟨t, by omega⟩
    simp only [] at hand
    have HPs := hid hPs
    have HPe := hid hPe
    have HO := hid ho
    have HB := hid hb
    clear ht hPs hPe ho hb
    obtain ⟨vo, vc, hv⟩ : ∃ ao c, u3 = .slice ao (pl s j).length c := by
      rcases HO.out.2 with ⟨h, h0⟩ | ⟨g, cap, cur, h, _⟩
      · exact ⟨none, 0, by rw [h, h0]⟩
      · exact ⟨_, cap, h⟩
    subst hv
    by_cases ht0 : t = 0
    · have hT : ¬ (0 : Int) < (t : Int) := by omega
      have HE := hid (show OwK wr w.heap.size (.slice vo (pl s j).length vc) (pl s 10) by
        have e := HPe.out ht0 (10 - j)
        rw [show j + (10 - j) = 10 by omega] at e
        rw [e]
        exact HO.out)
      generalize (pl s j).length = n at *
      clear ht0 hz0 hle
      go_wp2
      go_ret
      exact ⟨⟨_, rfl, HE.out⟩, HB.out⟩
    · have hT : (0 : Int) < (t : Int) := by omega
      have hj10 : j < 10 := by
        rcases Nat.lt_or_ge j 10 with h | h
        · exact h
        · exact absurd (hz0 (by omega)) ht0
      by_cases hbit : t % 2 = 1
      · rw [hbit] at hand
        rw [if_pos hbit] at HPs
        have hsz := HB.out.size
        clear hbit ht0 hz0 hle
        go_wp2_with (at_builtin; refine wpList_append_own _ rfl _ _ 25 rfl w.heap.size 3 j0 (.int .i64 0) 1 8 Tryd.underlying25 hj0 hy0 hy1 hy2 rfl (by decide) _ _ _ rfl (World.ownsRow.alloc HO.out _) ⟨wr.heap.size, 0, none⟩ 1 1 [.int .i64 (j : Int)] rfl rfl ?c1 ?c2 ?c3 ?c4 ?c5 ?c6)
        case c1 =>
          intro q u hq'
          match q, hq' with
          | 0, hq' => simp at hq'; subst hq'; simp [Addr.add]
        case c2 => intro u hu; simp at hu; subst hu; rfl
        case c3 => unfold maxLen; omega
        case c4 => omega
        case c5 => simp; omega
        case c6 =>
          intro v' w4 hown' hgrow _
          have O4 := hid (show OwK w4 w.heap.size v' (pl s (j + 1)) by
            unfold OwK
            rw [HPs.out]
            simpa [ic] using hown')
          have B4 := hid ((HB.out.alloc hsz _).grown hgrow (by simp; omega) (fun k hk => (World.ownsRow.lt HO.out k hk).1))
          clear hown' hgrow
          go_wp2
          go_roundw
          case rel => exact ⟨j + 1, by omega, by go_num, O4.out, B4.out⟩
          case measure => simp [intOf]; omega
      · have hb0 : t % 2 = 0 := by omega
        rw [hb0] at hand
        rw [if_neg hbit] at HPs
        have O4 := hid (show OwK wr w.heap.size (.slice vo (pl s j).length vc) (pl s (j + 1)) by rw [HPs.out]; exact HO.out)
        clear hbit ht0 hz0 hle hb0
        go_wp2
        go_roundw
        case rel => exact ⟨j + 1, by omega, by go_num, O4.out, HB.out⟩
        case measure => simp [intOf]; omega
end Go.Proofs.YtjaopckdhohpbaaDoor
