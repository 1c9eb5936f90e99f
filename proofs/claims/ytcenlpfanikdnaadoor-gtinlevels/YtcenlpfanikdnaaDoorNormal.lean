/-
  Normal forms: the contracts of both sides.
-/
import Derived.Test.YtcenlpfanikdnaaDoorCheck
import Derived.Test.YtcenlpfanikdnaaDoorBuild
namespace Go.Proofs.YtcenlpfanikdnaaDoor
open Go.RowKit
set_option maxRecDepth 100000

/-- the normal form: zeros ahead -/
def nrm (l : List UInt8) : List UInt8 := List.replicate (14 - l.length) 48 ++ l

/-- what Normal answers: the error, the text -/
def nrmE (l : List UInt8) : Int := if (chkE l).1 ≠ 0 then (chkE l).1 else if 14 < l.length then 21 else 0
def nrmT (l : List UInt8) : List UInt8 := if nrmE l = 0 then nrm l else []

theorem nrm_len {l : List UInt8} (h : l.length ≤ 14) : (nrm l).length = 14 := by
  unfold nrm
  rw [List.length_append, List.length_replicate]
  omega
theorem nrm_allD {l : List UInt8} (h : AllD l) : AllD (nrm l) := by
  intro c hc
  rcases List.mem_append.1 hc with hc | hc
  · rw [(List.mem_replicate.1 hc).2]; exact ⟨by decide, by decide⟩
  · exact h c hc
theorem nrm_sm (l : List UInt8) : sm (nrm l) = sm l := sm_zeros_ahead _ l

/-- a trade code -/
def Trade (l : List UInt8) : Prop := Code1 l ∧ l.length ≤ 14

theorem nrmE_zero {l : List UInt8} : nrmE l = 0 ↔ Trade l := by
  unfold nrmE
  constructor
  · intro h
    split at h
    · next h1 => exact absurd h h1
    · next h1 =>
      split at h
      · cases h
      · next h2 => exact ⟨chk_zero (Decidable.not_not.1 h1), by omega⟩
  · intro h
    rw [chk_code h.1, if_neg (by simp), if_neg (by have := h.2; omega)]

theorem rep_succ (k : Nat) : List.replicate k (48 : UInt8) ++ [48] = List.replicate (k + 1) 48 := by
  rw [List.replicate_succ']

set_option maxHeartbeats 800000 in
theorem normal_any (s : ByteArray) (w : World) (hs : s.size ≤ 9223372036854775807) :
    Calls Tryd.prog 10 #[.string s] w fun e w' => e = .returned (.tuple #[.string ⟨(nrmT s.data.toList).toArray⟩, .int .i64 (nrmE s.data.toList)]) ∧ Below w.heap.size w w' := by
  have hl := len_list s
  have HK : Hid (_) := check_any s w hs
  clear hs
  by_cases h1 : (chkE s.data.toList).1 = 0
  · have hc := chk_zero h1
    have hsz := hc.2.1
    by_cases h2 : 14 < s.size
    · have e1 : nrmE s.data.toList = 21 := by unfold nrmE; rw [if_neg (by simpa using h1), if_pos (by omega)]
      have e2 : nrmT s.data.toList = [] := by unfold nrmT; rw [e1]; rfl
      rw [e1, e2]
      rw [chk_code hc] at HK
      clear h1 hc hsz e1 e2
      go_enter Tryd.func10, Tryd.ntmps10
      go_wp2_with fail
      refine Calls.mono HK.out ?_
      rintro e w' ⟨rfl, rfl⟩
      go_wp2
      go_ret2
      exact ⟨rfl, Below.refl _ _⟩
    · have e1 : nrmE s.data.toList = 0 := nrmE_zero.2 ⟨hc, by omega⟩
      have e2 : nrmT s.data.toList = nrm s.data.toList := by unfold nrmT; rw [if_pos e1]
      rw [e1, e2]
      rw [chk_code hc] at HK
      have h8 : 8 ≤ s.size := by unfold SizeOk at hsz; omega
      clear h1 hc hsz e1 e2
      go_enter Tryd.func10, Tryd.ntmps10
      go_wp2_with fail
      refine Calls.mono HK.out ?_
      rintro e w' ⟨rfl, rfl⟩
      clear HK
      have hfr := fresh_isB w'
      go_wp2_with fail
      go_loopw [21] (fun i wr => ∃ k : Nat, i = .int .i64 (k : Nat) ∧ k ≤ 14 - s.size ∧ IsB w'.heap.size w'.heap.size (List.replicate k 48) wr ∧ Below w'.heap.size w' wr) (fun i _ => 14 - (intOf i).toNat)
      case atStart => exact ⟨0, rfl, Nat.zero_le _, hfr, (Below.refl _ _).alloc (Nat.le_refl _) _⟩
      case round =>
        obtain ⟨k, rfl, hk, hB, hbl⟩ := hrel
        have hz := hbl.size
        by_cases hlt : k < 14 - s.size
        · have hltI : (k : Int) < 14 - (s.size : Int) := by omega
          go_wp2_with fail
          refine (writeByte_any w'.heap.size w'.heap.size _ 48 _ wr hB rfl (by rw [List.length_replicate]; omega) hz).mono ?_
          rintro e w2 ⟨rfl, hB2, hb2⟩
          rw [rep_succ] at hB2
          clear hB
          go_wp2
          go_roundw
          case rel => exact ⟨k + 1, by go_num, by omega, hB2, hbl.trans hb2⟩
          case measure => simp [intOf]; omega
        · have hkk : k = 14 - s.size := by omega
          have hltI : ¬ (k : Int) < 14 - (s.size : Int) := by omega
          go_wp2_with fail
          refine (writeString_any w'.heap.size w'.heap.size _ s wr hB (by rw [List.length_replicate]; omega) hz).mono ?_
          rintro e w2 ⟨rfl, hB2, hb2⟩
          clear hB
          have hz2 := hb2.size
          go_wp2_with fail
          refine (string_any w'.heap.size w'.heap.size _ w2 hB2 (by omega)).mono ?_
          rintro e w3 ⟨rfl, hb3⟩
          clear hB2
          go_wp2
          go_ret2
          refine ⟨?_, (hbl.trans hb2).trans hb3⟩
          unfold nrm
          rw [hl, ← hkk]
          rfl
  · have e1 : nrmE s.data.toList = (chkE s.data.toList).1 := by unfold nrmE; rw [if_pos h1]
    have e2 : nrmT s.data.toList = [] := by unfold nrmT; rw [e1, if_neg h1]
    rw [e1, e2]
    generalize chkE s.data.toList = q at HK h1
    obtain ⟨q1, q2⟩ := q
    simp only at h1 HK ⊢
    have h1b : (q1 != 0) = true := by simp [h1]
    go_enter Tryd.func10, Tryd.ntmps10
    go_wp2_with fail
    refine Calls.mono HK.out ?_
    rintro e w' ⟨rfl, rfl⟩
    go_wp2
    go_ret2
    exact ⟨rfl, Below.refl _ _⟩
end Go.Proofs.YtcenlpfanikdnaaDoor
