/-
  A span's own text is read as the span: lists alone.
-/
import Derived.Test.YtjmainmidacmfaaDoorPsp
import Derived.Test.YtjmainmidacmfaaDoorTells0
namespace Go.Proofs.YtjmainmidacmfaaDoor
open Go.RowKit

theorem dec_dig (n : Nat) : ∀ c ∈ Lib.decDigits n, isDB c = true := by
  induction n using Nat.strongRecOn with
  | _ n ih =>
    have hdg : isDB (dgt n) = true := by
      unfold isDB
      rw [dgt_toNat]
      have : n % 10 < 10 := Nat.mod_lt _ (by omega)
      simp
      omega
    intro c hc
    by_cases h : 10 ≤ n
    · rw [dec_big n h] at hc
      rcases List.mem_append.1 hc with hc | hc
      · exact ih (n / 10) (by omega) c hc
      · rw [List.mem_singleton.1 hc]; exact hdg
    · rw [dec_small n (by omega)] at hc
      rw [List.mem_singleton.1 hc]; exact hdg
theorem dec_nm (n : Nat) : nm (Lib.decDigits n) = n := by
  induction n using Nat.strongRecOn with
  | _ n ih =>
    by_cases h : 10 ≤ n
    · rw [dec_big n h, nm, nmA_snoc, dgt_toNat]
      have := ih (n / 10) (by omega)
      unfold nm at this
      rw [this]
      omega
    · rw [dec_small n (by omega)]
      show 0 * 10 + ((dgt n).toNat - 48) = n
      rw [dgt_toNat]
      omega
theorem dec_ne (n : Nat) : 1 ≤ (Lib.decDigits n).length := by
  by_cases h : 10 ≤ n
  · rw [dec_big n h]; simp
  · rw [dec_small n (by omega)]; simp

theorem drop_len (t : List UInt8) (a : Nat) (x r : List UInt8) (h : t.drop a = x ++ r) (ha : a ≤ t.length) : a + x.length ≤ t.length ∧ t.drop (a + x.length) = r := by
  have hl := congrArg List.length h
  rw [List.length_drop, List.length_append] at hl
  refine ⟨by omega, ?_⟩
  rw [← List.drop_drop, h, List.drop_left]
theorem drop_at (t : List UInt8) (a : Nat) (c : UInt8) (r : List UInt8) (h : t.drop a = c :: r) : bt t a = c ∧ a < t.length := by
  have hl : a < t.length := by
    have := congrArg List.length h
    rw [List.length_drop, List.length_cons] at this
    omega
  refine ⟨?_, hl⟩
  unfold bt
  rw [List.getD_eq_getElem?_getD, List.getElem?_eq_getElem hl]
  have h2 := List.drop_eq_getElem_cons hl
  rw [h] at h2
  exact (List.cons.inj h2).1.symm

/-- one number and its letter -/
theorem part_go (t : List UInt8) (f a nx en j : Nat) (s : List Int) (n : Int) (c : UInt8) (r : List UInt8) (ha : a ≤ t.length) (h : t.drop a = mkL n c ++ r) (hn : okN n) (h0 : n ≠ 0) (hc : isDB c = false) (hne : nx ≠ en) (hj : nx ≤ j) (hz : slt nx en c = ((j - nx : Nat) : Int)) :
    ∃ a', a' ≤ t.length ∧ t.drop a' = r ∧ a < a' ∧ spF t (f + 1) a nx en s = spF t f a' (if c = 87 then 7 else j + 1) (if c = 87 then 7 else en) (s.set (fld j) n) := by
  have hk : mkL n c = Lib.decDigits n.toNat ++ [c] := by unfold mkL; rw [if_neg h0]
  rw [hk, List.append_assoc] at h
  have hd := dec_dig n.toNat
  have hnm := dec_nm n.toNat
  have hlen := dec_ne n.toNat
  have hl9 : (Lib.decDigits n.toNat).length ≤ 9 := by rw [Lib.decDigits_length]; exact nDig_le n.toNat (by unfold okN at hn; omega)
  generalize Lib.decDigits n.toNat = l at *
  obtain ⟨h1, h2⟩ := drop_len t a l ([c] ++ r) h ha
  obtain ⟨h3, h4⟩ := drop_at t (a + l.length) c r h2
  have hdg : dga (t.drop a) 9 = l.length := by
    rw [h]
    refine dga_at _ _ _ hl9 (by simp) (fun q hq hh => ?_) (.inr (.inr ⟨by simp, by simpa using hc⟩))
    rw [List.getElem_append_left hq]
    exact hd _ (List.getElem_mem hq)
  have hsub : sub t a l.length = l := by unfold sub; rw [h, List.take_left]
  have h84 : ¬ (bt t a = 84 ∧ en = 4) := by
    intro q
    match l, hlen, h, hd with
    | x :: l', _, h, hd =>
      have hx := (drop_at t a x (l' ++ ([c] ++ r)) h).1
      have hxd := hd x (by simp)
      rw [hx] at q
      rw [q.1] at hxd
      revert hxd
      decide
  have h5 := drop_len t (a + l.length) [c] r h2 (by omega)
  refine ⟨a + l.length + 1, by omega, h5.2, by omega, ?_⟩
  rw [spF_go (by omega) h84 hne (by rw [hdg]; omega) (by rw [hdg, h3, hz]; omega), hdg, h3, hz, hsub, hnm]
  have e1 : nx + (((j - nx : Nat) : Int)).toNat = j := by omega
  rw [e1]
  have e2 : ((n.toNat : Nat) : Int) = n := by unfold okN at hn; omega
  rw [e2]

/-- a part that may be missing: the state behind it -/
theorem part_any' (t : List UInt8) (f a nx en j : Nat) (s : List Int) (n : Int) (c : UInt8) (r : List UInt8) (ha : a ≤ t.length) (h : t.drop a = mkL n c ++ r) (hn : okN n) (hc : isDB c = false) (hW : c ≠ 87) (hne : nx ≠ en) (hj : nx ≤ j) (hz : slt nx en c = ((j - nx : Nat) : Int)) (hs : s.getD (fld j) 0 = 0) (hf : t.length ≤ a + f) :
    ∃ a' f' nx', a' ≤ t.length ∧ t.drop a' = r ∧ t.length ≤ a' + f' ∧ (nx' = nx ∨ nx' = j + 1) ∧ spF t f a nx en s = spF t f' a' nx' en (s.set (fld j) n) := by
  by_cases h0 : n = 0
  · subst h0
    have hk : mkL 0 c = [] := by unfold mkL; rw [if_pos rfl]
    rw [hk, List.nil_append] at h
    refine ⟨a, f, nx, ha, h, hf, .inl rfl, ?_⟩
    congr 1
    by_cases hl : fld j < s.length
    · have : s[fld j] = 0 := by rw [List.getD_eq_getElem?_getD, List.getElem?_eq_getElem hl] at hs; exact hs
      rw [← this, List.set_getElem_self]
    · rw [List.set_eq_of_length_le (by omega)]
  · have hlt : a < t.length := by
      have := congrArg List.length h
      have hk : mkL n c = Lib.decDigits n.toNat ++ [c] := by unfold mkL; rw [if_neg h0]
      rw [hk, List.length_drop] at this
      simp at this
      omega
    obtain ⟨f', rfl⟩ : ∃ f', f = f' + 1 := ⟨f - 1, by omega⟩
    obtain ⟨a', h1, h2, h3, h4⟩ := part_go t f' a nx en j s n c r ha h hn h0 hc hne hj hz
    rw [if_neg hW, if_neg hW] at h4
    exact ⟨a', f', j + 1, h1, h2, by omega, .inr rfl, h4⟩
end Go.Proofs.YtjmainmidacmfaaDoor
