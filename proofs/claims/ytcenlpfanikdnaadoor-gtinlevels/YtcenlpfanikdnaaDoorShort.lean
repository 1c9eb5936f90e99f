/-
  Short forms and units: the contracts of both sides.
-/
import Derived.Test.YtcenlpfanikdnaaDoorRefNormal
import Derived.Lib.TrimByte
namespace Go.Proofs.YtcenlpfanikdnaaDoor
open Go.RowKit
set_option maxRecDepth 100000

theorem ret_pair {a b : ByteArray} {k : IntKind} {q : Int} (h : a = b) : Ending.returned (.tuple #[.string a, .int k q]) = .returned (.tuple #[.string b, .int k q]) := by rw [h]

/-- how many zeros stand ahead -/
def lz (n : List UInt8) : Nat := n.length - (Lib.trimLeftB n 48).length

def shortN (n : List UInt8) : List UInt8 := if 6 ≤ lz n then n.drop 6 else if 2 ≤ lz n then n.drop 2 else n.drop (lz n)

theorem trim_le (n : List UInt8) : (Lib.trimLeftB n 48).length ≤ n.length := by
  unfold Lib.trimLeftB
  exact (List.dropWhile_sublist _).length_le

theorem lz_zero_cons (t : List UInt8) : lz (48 :: t) = lz t + 1 := by
  have h := trim_le t
  unfold lz at *
  unfold Lib.trimLeftB at *
  rw [List.dropWhile_cons_of_pos (by rfl), List.length_cons]
  omega
theorem lz_other_cons (c : UInt8) (t : List UInt8) (hc : c ≠ 48) : lz (c :: t) = 0 := by
  unfold lz Lib.trimLeftB
  rw [List.dropWhile_cons_of_neg (by simpa using hc)]
  omega

theorem take_zeros (k : Nat) : ∀ n : List UInt8, k ≤ n.length → (n.take k = List.replicate k 48 ↔ k ≤ lz n) := by
  induction k with
  | zero => intro n _; simp
  | succ k ih =>
    intro n hn
    cases n with
    | nil => simp at hn
    | cons c t =>
      rw [List.take_succ_cons, List.replicate_succ, List.cons.injEq]
      by_cases hc : c = 48
      · subst hc
        rw [lz_zero_cons, ih t (by simpa using hn)]
        constructor
        · intro h; omega
        · intro h; exact ⟨rfl, by omega⟩
      · rw [lz_other_cons c t hc]
        constructor
        · intro h; exact absurd h.1 hc
        · intro h; omega

/-- what Short answers -/
def shT (l : List UInt8) : List UInt8 := if nrmE l = 0 then shortN (nrm l) else []

theorem tail_list (s : ByteArray) (k : Nat) : (s.extract k s.size).data.toList = s.data.toList.drop k := by
  rw [Lib.extract_data, ← len_list s, ← List.length_drop, List.take_length]
theorem head_list (s : ByteArray) (k : Nat) : (s.extract 0 k).data.toList = s.data.toList.take k := by rw [Lib.extract_data]; rfl

theorem tail14 (s : ByteArray) (k : Nat) (h : s.size = 14) : (s.extract k 14).data.toList = s.data.toList.drop k := by
  have := tail_list s k
  rw [h] at this
  exact this

set_option maxHeartbeats 800000 in
theorem short_any (s : ByteArray) (w : World) (hs : s.size ≤ 9223372036854775807) :
    Calls Tryd.prog 12 #[.string s] w fun e w' => e = .returned (.tuple #[.string ⟨(shT s.data.toList).toArray⟩, .int .i64 (nrmE s.data.toList)]) ∧ Below w.heap.size w w' := by
  have HN : Hid (_) := normal_any s w hs
  clear hs
  by_cases h1 : nrmE s.data.toList = 0
  · have ht := nrmE_zero.1 h1
    have e2 : nrmT s.data.toList = nrm s.data.toList := by unfold nrmT; rw [if_pos h1]
    have e3 : shT s.data.toList = shortN (nrm s.data.toList) := by unfold shT; rw [if_pos h1]
    rw [h1, e2] at HN
    rw [h1, e3]
    have hlen := nrm_len ht.2
    generalize nrm s.data.toList = n at HN hlen
    clear e2 e3 h1 ht
    obtain ⟨N, hN⟩ : ∃ N : ByteArray, N = ⟨n.toArray⟩ := ⟨_, rfl⟩
    have hNl : N.data.toList = n := by rw [hN]
    have hNs : N.size = 14 := by rw [← len_list, hNl, hlen]
    have htr := trim_le n
    have HT : Hid (∀ w, Calls Tryd.prog 25 #[.string N, .string ⟨#[48]⟩] w fun e w' => e = .returned (.string ⟨(Lib.trimLeftB n 48).toArray⟩) ∧ w' = w) := fun w => by
      have := Tryd.strings_TrimLeft_one N 48 (by decide) w
      rw [hNl] at this
      exact this
    obtain ⟨T, hT⟩ : ∃ T : ByteArray, T = ⟨(Lib.trimLeftB n 48).toArray⟩ := ⟨_, rfl⟩
    have hTs : T.size = (Lib.trimLeftB n 48).length := by rw [← len_list, hT]
    have hz : lz n = 14 - T.size := by unfold lz; rw [hlen, hTs]
    have hT14 : T.size ≤ 14 := by omega
    rw [← hN] at HN
    rw [← hT] at HT
    have Hn : Hid (_) := hNl
    clear hN hNl hT hTs htr hlen
    unfold shortN
    by_cases h6 : 6 ≤ lz n
    · rw [if_pos h6]
      have h6T : T.size ≤ 8 := by omega
      clear hz h6
      go_enter Tryd.func12, Tryd.ntmps12
      go_wp2_with fail
      refine Calls.mono HN.out ?_
      rintro e w1 ⟨rfl, hb⟩
      go_wp2_with fail
      refine (HT.out _).mono ?_
      rintro e w2 ⟨rfl, rfl⟩
      go_wp2
      go_ret2
      refine ⟨ret_pair (bytes_ext ?_), hb⟩
      rw [tail14 _ _ hNs, Hn.out]
    · rw [if_neg h6]
      by_cases h2 : 2 ≤ lz n
      · rw [if_pos h2]
        have h6T : ¬ T.size ≤ 8 := by omega
        have h2T : T.size ≤ 12 := by omega
        clear hz h6 h2
        go_enter Tryd.func12, Tryd.ntmps12
        go_wp2_with fail
        refine Calls.mono HN.out ?_
        rintro e w1 ⟨rfl, hb⟩
        go_wp2_with fail
        refine (HT.out _).mono ?_
        rintro e w2 ⟨rfl, rfl⟩
        go_wp2
        go_ret2
        refine ⟨ret_pair (bytes_ext ?_), hb⟩
        rw [tail14 _ _ hNs, Hn.out]
      · rw [if_neg h2]
        have hc : T.size = 14 ∧ lz n = 0 ∨ T.size = 13 ∧ lz n = 1 := by omega
        clear hz h6 h2
        rcases hc with ⟨hc, hz⟩ | ⟨hc, hz⟩
        all_goals
          rw [hz]
          clear hz
          have hcI : (T.size : Int) = _ := congrArg Nat.cast hc
          go_enter Tryd.func12, Tryd.ntmps12
          go_wp2_with fail
          refine Calls.mono HN.out ?_
          rintro e w1 ⟨rfl, hb⟩
          go_wp2_with fail
          refine (HT.out _).mono ?_
          rintro e w2 ⟨rfl, rfl⟩
          go_wp2
          go_ret2
          refine ⟨ret_pair (bytes_ext ?_), hb⟩
          rw [tail14 _ _ hNs, Hn.out]
  · have e2 : nrmT s.data.toList = [] := by unfold nrmT; rw [if_neg h1]
    have e3 : shT s.data.toList = [] := by unfold shT; rw [if_neg h1]
    rw [e3]
    rw [e2] at HN
    generalize nrmE s.data.toList = q at HN h1
    have h1b : (q != 0) = true := by simp [h1]
    clear e2 e3
    go_enter Tryd.func12, Tryd.ntmps12
    go_wp2_with fail
    refine Calls.mono HN.out ?_
    rintro e w1 ⟨rfl, hb⟩
    go_wp2
    go_ret2
    exact ⟨rfl, hb⟩

theorem zeros_beq (N : ByteArray) (n : List UInt8) (k : Nat) (hN : N.data.toList = n) (hk : k ≤ n.length) : ((N.extract 0 k).toList == List.replicate k 48) = decide (k ≤ lz n) := by
  rw [ByteArray.toList_eq, head_list, hN, Bool.eq_iff_iff]
  rw [beq_iff_eq, take_zeros k n hk, decide_eq_true_iff]

end Go.Proofs.YtcenlpfanikdnaaDoor
