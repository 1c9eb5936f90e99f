/-
  A board: Longest.
-/
import Derived.Test.YtecjpjjcahanoabBd6
namespace Go.Proofs.Ytecjpjjcahanoab
open Go.RowKit Go.Maps
set_option maxRecDepth 100000

theorem rdy_mem (S : List Hd) : ∀ (k : Nat), k ≤ S.length → ∀ x ∈ rdy S k, ∃ (i : Nat) (h : i < S.length), x = (i : Int) ∧ S[i].1 = 1
  | 0, _, x, hx => by simp [rdy] at hx
  | k + 1, hk, x, hx => by
    unfold rdy at hx
    rw [getD_at S k (by omega)] at hx
    split at hx
    · rename_i h1
      rcases List.mem_append.1 hx with h | h
      · exact rdy_mem S k (by omega) x h
      · simp at h
        exact ⟨k, by omega, h, h1⟩
    · exact rdy_mem S k (by omega) x hx
/-- what Longest answers -/
def LG (S : List Hd) (p : Int) (nil : Prop) (lo ct : Int) : Prop := (nil ∧ lo = -1 ∧ ct = 0) ∨ (0 ≤ lo ∧ ∃ (i : Nat) (h : i < S.length), S[i].1 = 1 ∧ ct = p - S[i].2.2)
set_option maxHeartbeats 2000000 in
theorem longest_any (w : World) {base d hb mb N : Nat} {S : List Hd} {p : Int} {M : Int → Value} {L : Int → List Int} (H : BD w base d hb mb N S p M L) (hp : p ≤ 1000000000) (hs : ∀ (i : Nat) (h : i < S.length), 0 ≤ S[i].2.2 ∧ S[i].2.2 ≤ p) :
    Calls Try.prog 26 #[.pointer (some ⟨d, 0, none⟩)] w fun e w' => (∃ lo ct, e = .returned (.tuple #[.int .i64 lo, .int .i64 ct]) ∧ LG S p (rdy S S.length = []) lo ct) ∧ Below w.heap.size w w' := by
  have HRd := hid (ready_any w H)
  have HH := hid H
  have hS := H.many
  have HM := hid (rdy_mem S S.length (Nat.le_refl _))
  have hRl := rdy_len S S.length
  have HSn := hid hs
  generalize hR : rdy S S.length = R at *
  clear H hs hR
  go_enter Try.func26, Try.ntmps26
  go_wp2_with fail
  refine HRd.out.mono ?_
  rintro e w2 ⟨⟨v, rfl, ho⟩, hb2⟩
  have hrd := ho.reads
  obtain ⟨ao, cap, rfl, hc, hn, hcell⟩ := hrd
  have HC := hid hcell
  have HB2 := hid hb2
  clear ho hb2 hn hcell HRd
  go_wp2
  go_loopw [4, 5, 12] (fun a b i wr => ∃ (j : Nat) (lo ct : Int), j ≤ R.length ∧ a = .int .i64 lo ∧ b = .int .i64 ct ∧ i = .int .i64 (j : Int) ∧ LG S p (j = 0) lo ct ∧ Below w2.heap.size w2 wr) (fun _ _ i _ => R.length - (intOf i).toNat)
  case atStart => exact ⟨0, -1, 0, by omega, rfl, rfl, rfl, .inl ⟨rfl, rfl, rfl⟩, Below.refl _ _⟩
  case round =>
    obtain ⟨j, lo, ct, hj, rfl, rfl, rfl, hlg, hb⟩ := hrel
    have HLG := hid hlg
    have HB := hid hb
    clear hlg hb
    by_cases h : j < R.length
    · have hI : (j : Int) < (R.length : Int) := by omega
      obtain ⟨g, off, rfl, cx⟩ := HC.out j h
      have cx' := below_cells HB.out _ _ cx
      obtain ⟨i, hi, hx, h1⟩ := HM.out R[j] (List.getElem_mem h)
      have HD := (HH.out.later HB2.out).later HB.out
      obtain ⟨c0, _, c2, _⟩ := HD.cells
      obtain ⟨_, _, a3, _⟩ := HD.hand i hi
      have hsi := HSn.out i hi
      have HN := hid (show LG S p (j + 1 = 0) (i : Int) (p - S[i].2.2) from .inr ⟨by omega, i, hi, h1, rfl⟩)
      rw [hx] at cx'
      generalize S[i].2.2 = s at a3 hsi HN
      have hiS : (i : Int) < (S.length : Int) := by omega
      clear HD cx hx h1
      rcases HLG.out with ⟨hj0, rfl, rfl⟩ | ⟨hlo, hex⟩
      · clear HLG hj0
        go_wp2
        go_region
        all_goals
          go_wp2
          go_roundw
          case rel => exact ⟨j + 1, _, _, h, rfl, rfl, by go_num, HN.out, HB.out.drew⟩
          case measure => simp [intOf]; omega
      · have hl0 : ¬ lo < 0 := by omega
        have HX := hid (show LG S p (j + 1 = 0) lo ct from .inr ⟨hlo, hex⟩)
        clear hex
        by_cases hgt : ct < p - s
        · skip
          go_wp2
          go_region
          all_goals
            go_wp2
            go_roundw
            case rel => exact ⟨j + 1, _, _, h, rfl, rfl, by go_num, HN.out, HB.out.drew⟩
            case measure => simp [intOf]; omega
        · skip
          go_wp2
          go_region
          all_goals
            go_wp2
            go_roundw
            case rel => exact ⟨j + 1, _, _, h, rfl, rfl, by go_num, HX.out, HB.out.drew⟩
            case measure => simp [intOf]; omega
    · have hI : ¬ (j : Int) < (R.length : Int) := by omega
      have HF := hid (show LG S p (R = []) lo ct from HLG.out.imp (fun h => ⟨List.eq_nil_of_length_eq_zero (by omega), h.2⟩) id)
      go_wp2
      go_ret2
      exact ⟨⟨lo, ct, rfl, HF.out⟩, HB2.out.trans (HB.out.mono HB2.out.size)⟩
end Go.Proofs.Ytecjpjjcahanoab
