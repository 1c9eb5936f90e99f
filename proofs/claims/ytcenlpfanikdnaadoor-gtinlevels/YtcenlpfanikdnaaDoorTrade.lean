/-
  Trade codes, their normal and short forms, their packs: the plain mathematics.
-/
import Derived.Test.YtcenlpfanikdnaaDoorUnit
import Derived.Test.YtcenlpfanikdnaaDoorPacks
namespace Go.Proofs.YtcenlpfanikdnaaDoor
open Go.RowKit
set_option maxRecDepth 100000

theorem nrm_full {n : List UInt8} (h : n.length = 14) : nrm n = n := by
  unfold nrm
  rw [h]
  rfl

theorem trade_nrm {l : List UInt8} (h : Trade l) : Trade (nrm l) := by
  have hl := nrm_len h.2
  refine ⟨⟨nrm_allD h.1.1, ?_, ?_⟩, by omega⟩
  · rw [hl]; exact .inr (.inr (.inr (.inl rfl)))
  · rw [nrm_sm]; exact h.1.2.2

theorem nrm_drop {n : List UInt8} (hn : n.length = 14) (k : Nat) (hk : k ≤ lz n) (h14 : k ≤ 14) : List.replicate k 48 ++ n.drop k = n := by
  rw [← (take_zeros k n (by omega)).2 hk, List.take_append_drop]

theorem shortN_drop (n : List UInt8) : ∃ k, (k = 0 ∨ k = 1 ∨ k = 2 ∨ k = 6) ∧ k ≤ lz n ∧ shortN n = n.drop k := by
  unfold shortN
  by_cases h6 : 6 ≤ lz n
  · rw [if_pos h6]; exact ⟨6, .inr (.inr (.inr rfl)), h6, rfl⟩
  · rw [if_neg h6]
    by_cases h2 : 2 ≤ lz n
    · rw [if_pos h2]; exact ⟨2, .inr (.inr (.inl rfl)), h2, rfl⟩
    · rw [if_neg h2]
      exact ⟨lz n, by omega, Nat.le_refl _, rfl⟩

theorem nrm_short {n : List UInt8} (hn : n.length = 14) : nrm (shortN n) = n := by
  obtain ⟨k, hk, hz, e⟩ := shortN_drop n
  rw [e]
  unfold nrm
  rw [List.length_drop, hn, show 14 - (14 - k) = k by omega]
  exact nrm_drop hn k hz (by omega)

theorem trade_short {n : List UInt8} (hn : n.length = 14) (h : Trade n) : Trade (shortN n) := by
  obtain ⟨k, hk, hz, e⟩ := shortN_drop n
  have hlen : (shortN n).length = 14 - k := by rw [e, List.length_drop, hn]
  refine ⟨⟨?_, ?_, ?_⟩, by omega⟩
  · intro c hc
    rw [e] at hc
    exact h.1.1 c (List.mem_of_mem_drop hc)
  · rw [hlen]
    unfold SizeOk
    omega
  · rw [← nrm_sm, nrm_short hn]
    exact h.1.2.2

theorem lz_rep (k : Nat) (l : List UInt8) : k ≤ lz (List.replicate k 48 ++ l) := by
  induction k with
  | zero => exact Nat.zero_le _
  | succ k ih =>
    rw [List.replicate_succ, List.cons_append, lz_zero_cons]
    omega

theorem short_le {l : List UInt8} (h : Trade l) : (shortN (nrm l)).length ≤ l.length := by
  have hz : 14 - l.length ≤ lz (nrm l) := lz_rep _ _
  have hs := h.1.2.1
  have h14 := h.2
  have hn := nrm_len h.2
  unfold SizeOk at hs
  unfold shortN
  by_cases h6 : 6 ≤ lz (nrm l)
  · rw [if_pos h6, List.length_drop]; omega
  · rw [if_neg h6]
    by_cases h2 : 2 ≤ lz (nrm l)
    · rw [if_pos h2, List.length_drop]; omega
    · rw [if_neg h2, List.length_drop]; omega

theorem drop_nrm {l : List UInt8} : (nrm l).drop (14 - l.length) = l := by
  unfold nrm
  rw [List.drop_left' (by rw [List.length_replicate])]

theorem shT_trade {l : List UInt8} (h : Trade l) : shT l = shortN (nrm l) := by unfold shT; rw [if_pos (nrmE_zero.2 h)]
theorem nrmT_trade {l : List UInt8} (h : Trade l) : nrmT l = nrm l := by unfold nrmT; rw [if_pos (nrmE_zero.2 h)]

/-- the middle of a pack's code is the code's -/
theorem lv_mid {n : List UInt8} (hn : n.length = 14) (c : UInt8) : ((lv n c).drop 1).take 12 = (n.drop 1).take 12 := by
  have hm : ((n.drop 1).take 12).length = 12 := by rw [List.length_take, List.length_drop]; omega
  unfold lv lvB
  rw [List.cons_append, List.drop_one, List.tail_cons]
  exact List.take_left' hm

theorem lv_lv {n : List UInt8} (hn : n.length = 14) (c d : UInt8) : lv (lv n c) d = lv n d := by
  have : lvB (lv n c) d = lvB n d := by
    unfold lvB
    rw [lv_mid hn]
  unfold lv at this ⊢
  rw [this]

theorem trade_lv {n : List UInt8} (hn : n.length = 14) (ha : AllD n) (c : UInt8) (hc : IsD c) : Trade (lv n c) := ⟨(lv_code hn ha c hc).1, by have := (lv_code hn ha c hc).2; omega⟩

/-- a code that begins with 0 is its own unit's -/
theorem lv_self {n : List UInt8} (hn : n.length = 14) (h : Trade n) (h0 : n[0]'(by omega) = 48) : lv n 48 = n := by
  have hsplit : n = lvB n 48 ++ [n[13]'(by omega)] := by
    unfold lvB
    match n, hn, h0 with
    | [a0, a1, a2, a3, a4, a5, a6, a7, a8, a9, a10, a11, a12, a13], _, h0 =>
      simp only [List.getElem_cons_zero] at h0
      subst h0
      rfl
  have hd := h.1.1 _ (List.getElem_mem (l := n) (n := 13) (by omega))
  have hs := h.1.2.2
  have hk := (sm_ck (lvB n 48) _ hd).1 (by rw [← hsplit]; exact hs)
  unfold lv
  rw [← hk, ← hsplit]

theorem lv_head (n : List UInt8) (c : UInt8) : (lv n c)[0]? = some c := by
  unfold lv lvB
  rfl
end Go.Proofs.YtcenlpfanikdnaaDoor
