/-
  A text that is taken is the print of what it is taken for: scanned and shown (no program here).
-/
import Derived.Test.YtpplkoilpblpkaaDoorElm
import Derived.Test.YtpplkoilpblpkaaDoorRefA
namespace Go.Proofs.YtpplkoilpblpkaaDoor
open Go.RowKit
set_option maxRecDepth 100000

/-- an element as it is scanned, with what ends it -/
def seE (x : El) : List UInt8 := x.1.data.toList ++ x.2.data.toList ++ (if plB x.1.data.toList = false then [29] else [])
def scE (L : List El) : List UInt8 := L.flatMap seE
theorem scE_app (L M : List El) : scE (L ++ M) = scE L ++ scE M := by simp [scE]
theorem scP_is (M : List El) : ∀ i, i < M.length → scP M i = scE (M.take i) := by
  intro i
  induction i with
  | zero => intro _; simp [scP, scE]
  | succ i ih =>
    intro h
    rw [scP, ih (by omega), sg_at (by omega), List.take_add_one, List.getElem?_eq_getElem (by omega), scE_app]
    congr 1
    simp only [scE, Option.toList_some, List.flatMap_cons, List.flatMap_nil, List.append_nil, seE]
    congr 1
    by_cases hb : plB (M[i]).1.data.toList = false
    · rw [if_pos ⟨hb, h⟩, if_pos hb]
    · rw [if_neg (fun x => hb x.1), if_neg hb]
theorem scP_last (L : List El) (x : El) : scP (L ++ [x]) (L ++ [x]).length = scE L ++ x.1.data.toList ++ x.2.data.toList := by
  have h : (L ++ [x]).length = L.length + 1 := by simp
  rw [h, scP, scP_is _ _ (by omega), sg_at (by omega)]
  rw [if_neg (fun y => by omega)]
  simp

theorem ve_by {lo hi : Nat} {P : UInt8 → Int} : ∀ {l : List UInt8} {n m : Nat}, ve lo hi P l n = .inr m → (∀ c ∈ l.take (m - n), P c = 0) ∧ ((l.drop (m - n)).head? = none ∨ (l.drop (m - n)).head? = some 29) := by
  intro l
  induction l with
  | nil => intro n m h; simp
  | cons c t ih =>
    intro n m h
    by_cases hc : c = 29
    · subst hc
      rw [ve, if_pos rfl] at h
      split at h
      · cases h
      · cases h; simp
    · rw [ve_cons _ _ _ _ _ _ hc] at h
      split at h
      · cases h
      · split at h
        · cases h
        · rename_i _ hP
          have h1 := ve_ok h
          obtain ⟨h2, h3⟩ := ih h
          obtain ⟨d, hd⟩ : ∃ d, m - n = d + 1 := ⟨m - n - 1, by omega⟩
          rw [show m - (n + 1) = d by omega] at h2 h3
          rw [hd]
          refine ⟨fun x hx => ?_, h3⟩
          rw [List.take_succ_cons] at hx
          rcases List.mem_cons.1 hx with rfl | hx
          · exact Classical.not_not.1 hP
          · exact h2 x hx
theorem vp_by : ∀ {r : Nat} {l : List UInt8} {n m : Nat}, vp r l n = .inr m → ∀ c ∈ l.take r, dF c = 0 := by
  intro r
  induction r with
  | zero => intro l n m h c hc; simp at hc
  | succ r ih =>
    intro l n m h c hc
    cases l with
    | nil => simp at hc
    | cons d t =>
      rw [vp] at h
      split at h
      · rename_i hd
        rw [List.take_succ_cons] at hc
        rcases List.mem_cons.1 hc with rfl | hc
        · unfold dF; rw [if_pos hd]
        · exact ih h c hc
      · cases h
theorem fltK_is (k : Int) (l : List UInt8) (h0 : 0 ≤ k) (h1 : k ≤ 12) : fltK k l = fltE (loK k) (hiK k) (byK k) (whK k l).1 l := by
  have hk : k = 0 ∨ k = 1 ∨ k = 2 ∨ k = 3 ∨ k = 4 ∨ k = 5 ∨ k = 6 ∨ k = 7 ∨ k = 8 ∨ k = 9 ∨ k = 10 ∨ k = 11 ∨ k = 12 := by omega
  rcases hk with rfl | rfl | rfl | rfl | rfl | rfl | rfl | rfl | rfl | rfl | rfl | rfl | rfl <;> rfl
/-- a Value that ends where it should, and is whole, is one that may be -/
theorem vend_flt {k : Int} {l : List UInt8} {n : Nat} (h0 : 0 ≤ k) (h1 : k ≤ 12) (h : vend k l = .inr n) (hw : (whK k (l.take n)).1 = 0) : fltK k (l.take n) = 0 := by
  have hv := vend_ok h
  have hlen : (l.take n).length = n := by rw [List.length_take]; omega
  rw [fltK_is k _ h0 h1]
  unfold fltE
  rw [hlen]
  have hb : (loK k ≤ n) ∧ n ≤ hiK k ∧ byF (byK k) (l.take n) = 0 := by
    unfold vend at h
    split at h
    · rename_i hp
      have h2 := vp_ok h
      have h3 := vp_by h
      have hn : n = hiK k := by omega
      refine ⟨?_, by omega, byF_none fun c hc => ?_⟩
      · rw [hn]
        unfold plK at hp
        simp only [Bool.or_eq_true, decide_eq_true_eq] at hp
        have hk : k = 0 ∨ k = 1 ∨ k = 2 ∨ k = 3 ∨ k = 4 ∨ k = 6 := by omega
        rcases hk with rfl | rfl | rfl | rfl | rfl | rfl <;> decide
      · have h8 : k ≤ 8 := by
          unfold plK at hp
          simp only [Bool.or_eq_true, decide_eq_true_eq] at hp
          omega
        unfold byK
        rw [if_pos h8]
        exact h3 c (by rw [← hn]; exact hc)
    · have h2 := ve_ok h
      obtain ⟨h3, _⟩ := ve_by h
      rw [Nat.sub_zero] at h3
      exact ⟨by omega, by omega, byF_none h3⟩
  rw [if_neg (by omega), if_neg (by omega), if_neg (by rw [hb.2.2]; simp), hw]
theorem kfind_of {a : List UInt8} {k : Int} (h : (a, k) ∈ knl) : kfind a = some k := by
  unfold kfind
  cases hf : knl.find? (fun x => x.1 == a) with
  | none =>
    have := List.find?_eq_none.1 hf (a, k) h
    simp at this
  | some y =>
    have h1 := List.mem_of_find?_eq_some hf
    have h2 := List.find?_some hf
    have := knl_one _ h1 _ h (by simpa using h2)
    rw [this]
    rfl
theorem take_add (T : List UInt8) (p n : Nat) : T.take (p + n) = T.take p ++ (T.drop p).take n := by rw [List.take_add]
/-- one element more -/
theorem psp_back {T : List UInt8} {L : List El} {p q : Nat} {a v : List UInt8} (hp : p ≤ T.length) (h : psp T L p = .inr (a, v, q)) :
    ftE L a v = 0 ∧ q ≤ T.length ∧ (q = T.length → T = T.take p ++ a ++ v) ∧ (q < T.length → T.take q = T.take p ++ a ++ v ++ (if plB a = false then [29] else [])) := by
  cases hk : ahK (T.drop p) with
  | none => rw [psp_none hk] at h; cases h
  | some x =>
    obtain ⟨b, k⟩ := x
    obtain ⟨g1, g2, g3, g4, g5⟩ := ahK_len hk
    have g5 := g5 hp
    obtain ⟨hm, hpre⟩ := ahK_mem hk
    have hpb : (T.drop p).take b.length = b := by
      obtain ⟨t, ht⟩ := List.isPrefixOf_iff_prefix.1 hpre
      rw [← ht]
      simp
    have hkf := kfind_of hm
    have hpl : plB b = plK k := by unfold plB; rw [hkf]; rfl
    by_cases hc : clE L b = 0
    · cases hv : vend k (T.drop (p + b.length)) with
      | inl e =>
        obtain ⟨e, n⟩ := e
        rw [psp_end hk hc hv] at h; cases h
      | inr n =>
        obtain ⟨v1, v2, _⟩ := vend_ok hv
        rw [List.length_drop] at v1
        by_cases hw : (whK k ((T.drop (p + b.length)).take n)).1 = 0
        · have hfl := vend_flt g3 g4 hv hw
          have hft : ftE L b ((T.drop (p + b.length)).take n) = 0 := by
            unfold ftE
            rw [hkf]
            simp only
            rw [if_neg (by simpa using hc), hfl]
          have htk : T.take (p + b.length + n) = T.take p ++ b ++ (T.drop (p + b.length)).take n := by
            rw [take_add, take_add, hpb]
          rw [psp_go hk hc hv hw] at h
          split at h
          · rename_i hor
            cases h
            refine ⟨hft, by omega, fun e => ?_, fun e => ?_⟩
            · rw [← htk, e, List.take_length]
            · rcases hor with hor | hor
              · rw [htk, hpl, hor, if_neg (by simp), List.append_nil]
              · omega
          · split at h
            · cases h
            · rename_i n1 n2
              have hne : p + b.length + n ≠ T.length := fun e => n1 (.inr e)
              have hnp : plK k = false := by
                cases hq : plK k with
                | true => exact absurd (.inl hq) n1
                | false => rfl
              cases h
              refine ⟨hft, by omega, fun e => by omega, fun e => ?_⟩
              have h29 : (T.drop (p + a.length + n)).take 1 = [29] := by
                unfold vend at hv
                rw [hnp, if_neg (by simp)] at hv
                obtain ⟨_, h3⟩ := ve_by hv
                rw [Nat.sub_zero, List.drop_drop] at h3
                rcases h3 with h3 | h3
                · have := List.head?_eq_none_iff.1 h3
                  have := congrArg List.length this
                  rw [List.length_drop] at this
                  simp at this
                  omega
                · cases hd : T.drop (p + a.length + n) with
                  | nil => rw [hd] at h3; cases h3
                  | cons c t =>
                    rw [hd] at h3
                    simp at h3
                    subst h3
                    simp
              rw [take_add T (p + a.length + n) 1, h29, htk, hpl, hnp, if_pos rfl]
        · rw [psp_whole hk hc hv hw] at h; cases h
    · rw [psp_clash hk hc] at h; cases h
theorem psp_bad {T : List UInt8} {L : List El} {p : Nat} {e n : Int} (h : psp T L p = .inl (e, n)) : e ≠ 0 := by
  cases hk : ahK (T.drop p) with
  | none =>
    rw [psp_none hk] at h
    cases h
    rcases ahE_two (T.drop p) with h | h <;> rw [h] <;> decide
  | some x =>
    obtain ⟨b, k⟩ := x
    by_cases hc : clE L b = 0
    · cases hv : vend k (T.drop (p + b.length)) with
      | inl e =>
        obtain ⟨e, n⟩ := e
        rw [psp_end hk hc hv] at h
        cases h
        exact vend_err hv
      | inr n =>
        by_cases hw : (whK k ((T.drop (p + b.length)).take n)).1 = 0
        · rw [psp_go hk hc hv hw] at h
          split at h
          · cases h
          · split at h
            · cases h; decide
            · cases h
        · rw [psp_whole hk hc hv hw] at h
          cases h
          exact hw
    · rw [psp_clash hk hc] at h
      cases h
      exact hc
theorem ft_app {L : List El} {x : El} (h : ∀ j, j < L.length → ft L j = 0) (hx : ftE L x.1.data.toList x.2.data.toList = 0) : ∀ j, j < (L ++ [x]).length → ft (L ++ [x]) j = 0 := by
  intro j hj
  rw [ft_at hj]
  by_cases e : j < L.length
  · rw [List.getElem_append_left e, List.take_append_of_le_length (by omega), ← ft_at e]
    exact h j e
  · have : j = L.length := by simp at hj; omega
    subst this
    rw [List.take_left]
    simp only [List.getElem_append_right (Nat.le_refl _), Nat.sub_self, List.getElem_cons_zero]
    exact hx
theorem rp_back {T : List UInt8} : ∀ {n p : Nat} {L : List El} {G : List Nat}, rp T n = some (p, L, G) → p ≤ T.length ∧ (∀ j, j < L.length → ft L j = 0) ∧ (p = T.length → T = scP L L.length) ∧ (p < T.length → T.take p = scE L) := by
  intro n
  induction n with
  | zero =>
    intro p L G h
    rw [rp] at h
    cases h
    refine ⟨by omega, fun j hj => by simp at hj, fun e => ?_, fun _ => by simp [scE]⟩
    rw [List.length_nil, scP]
    exact List.eq_nil_of_length_eq_zero e.symm
  | succ n ih =>
    intro p L G h
    rw [rp] at h
    cases hr : rp T n with
    | none => rw [hr] at h; cases h
    | some pl =>
      obtain ⟨p0, L0, G0⟩ := pl
      rw [hr] at h
      simp only at h
      by_cases hp : p0 < T.length
      · rw [if_pos hp] at h
        cases hs : psp T L0 p0 with
        | inl e => rw [hs] at h; cases h
        | inr r =>
          obtain ⟨a, v, q⟩ := r
          rw [hs] at h
          simp only at h
          cases h
          obtain ⟨_, h2, _, h4⟩ := ih hr
          have h4 := h4 hp
          obtain ⟨b1, b2, b3, b4⟩ := psp_back (by omega) hs
          refine ⟨b2, ft_app h2 (by simpa using b1), fun e => ?_, fun e => ?_⟩
          · rw [scP_last, ← h4]
            simpa using b3 e
          · rw [scE_app, ← h4, b4 e]
            simp [scE, seE]
      · rw [if_neg hp] at h; cases h
/-- what is taken is what Print says of it -/
theorem PaA.back {T : List UInt8} {M : List El} {n : Int} (h : PaA T M 0 n) (t : ByteArray) (ht : t.data.toList = T) : PrA M t 0 0 ∧ ∀ x ∈ M, x.2.size ≤ 90 := by
  rcases h with ⟨_, _, h, _⟩ | ⟨h0, k, p, L, G, hr, h⟩
  · cases h
  · rcases h with ⟨_, h2, _⟩ | ⟨h1, h⟩
    · exact absurd rfl (psp_bad h2)
    · rcases h with ⟨i, _, _, h, _⟩ | ⟨hi, rfl, _, _⟩
      · cases h
      · obtain ⟨b1, b2, b3, _⟩ := rp_back hr
        have b3 := b3 (by omega)
        refine ⟨.inr ⟨b2, .inr (.inr ⟨hi, ?_, ?_, rfl, rfl⟩)⟩, (rp_inv hr).2.2.2.2⟩
        · rw [← b3]; exact h0
        · rw [← b3]; exact ht

theorem sv_back (n : Nat) : ∀ l : List UInt8, l.length ≤ n → (sv l).2.2 = true → l.take (sv l).2.1 = shV (sv l).1 := by
  induction n with
  | zero =>
    intro l hl _
    have : l = [] := List.eq_nil_of_length_eq_zero (by omega)
    subst this
    simp [sv, shV]
  | succ n ih =>
    intro l hl h
    cases l with
    | nil => simp [sv, shV]
    | cons c t =>
      by_cases hb : IsBr c
      · cases t with
        | nil => rw [sv, if_pos hb] at h ⊢; simp [shV]
        | cons d t =>
          by_cases hd : d = c
          · subst hd
            rw [sv_twice d t hb] at h ⊢
            have := ih t (by simp at hl; omega) h
            simp only [shV]
            rw [List.take_succ_cons, List.take_succ_cons, this]
            unfold brk
            rw [if_pos hb]
            rfl
          · rw [sv, if_pos hb, if_neg hd] at h ⊢
            simp [shV]
      · rw [sv_plain c t hb] at h ⊢
        have := ih t (by simp at hl; omega) h
        simp only [shV]
        rw [List.take_succ_cons, this]
        unfold brk
        rw [if_neg hb]
        rfl
theorem stp_back {T : List UInt8} {p q : Nat} {a v : List UInt8} (h : stp T p = .inr (a, v, q)) : T.take q = T.take p ++ ([40] ++ a ++ [41] ++ shV v) := by
  unfold stp at h
  cases hd : T.drop p with
  | nil => rw [hd] at h; cases h
  | cons c t =>
    rw [hd] at h
    simp only at h
    by_cases h1 : c ≠ 40
    · rw [if_pos h1] at h; cases h
    · rw [if_neg h1] at h
      have hc : c = 40 := Classical.not_not.1 h1
      subst hc
      by_cases h2 : Lib.indexByte t 41 < 0
      · rw [if_pos h2] at h; cases h
      · rw [if_neg h2] at h
        have hib := ib_is t 41 (Lib.indexByte t 41).toNat (by omega)
        generalize (Lib.indexByte t 41).toNat = m at *
        cases hk : kfind (t.take m) with
        | none => rw [hk] at h; cases h
        | some k =>
          rw [hk] at h
          simp only at h
          split at h
          · rename_i hg
            have hs := sv_back _ (t.drop (m + 1)) (Nat.le_refl _) hg
            cases h
            have h41 : t.drop m = 41 :: t.drop (m + 1) := by
              cases hq : t.drop m with
              | nil => rw [hq] at hib; cases hib
              | cons c u =>
                rw [hq] at hib
                simp at hib
                subst hib
                have : (t.drop m).drop 1 = u := by rw [hq]; rfl
                rw [List.drop_drop] at this
                rw [← this]
            rw [show p + m + 2 + (sv (t.drop (m + 1))).2.1 = p + (1 + m + 1 + (sv (t.drop (m + 1))).2.1) by omega, take_add, hd]
            congr 1
            rw [show 1 + m + 1 + (sv (t.drop (m + 1))).2.1 = (m + ((sv (t.drop (m + 1))).2.1 + 1)) + 1 by omega, List.take_succ_cons, take_add, h41, List.take_succ_cons, hs]
            simp
          · cases h
theorem shP_pre (L : List El) (x : El) : ∀ i, i ≤ L.length → shP (L ++ [x]) i = shP L i := by
  intro i
  induction i with
  | zero => intro _; rfl
  | succ i ih =>
    intro h
    rw [shP, shP, ih (by omega), she_at (by simp; omega), she_at (by omega), List.getElem_append_left (by omega)]
theorem rn_back {T : List UInt8} : ∀ {n p : Nat} {L : List El}, rn T n = some (p, L) → T.take p = shP L L.length := by
  intro n
  induction n with
  | zero =>
    intro p L h
    rw [rn] at h
    cases h
    simp [shP]
  | succ n ih =>
    intro p L h
    rw [rn] at h
    cases hr : rn T n with
    | none => rw [hr] at h; cases h
    | some pl =>
      obtain ⟨p0, L0⟩ := pl
      rw [hr] at h
      simp only at h
      by_cases hp : p0 < T.length
      · rw [if_pos hp] at h
        cases hs : stp T p0 with
        | inl e => rw [hs] at h; cases h
        | inr r =>
          obtain ⟨a, v, q⟩ := r
          rw [hs] at h
          simp only at h
          cases h
          rw [stp_back hs, ih hr, List.length_append, List.length_cons, List.length_nil, shP, shP_pre _ _ _ (Nat.le_refl _), she_at (by simp)]
          simp
      · rw [if_neg hp] at h; cases h
theorem stp_bad {T : List UInt8} {p : Nat} {e n : Int} (hp : p < T.length) (h : stp T p = .inl (e, n)) : e ≠ 0 := by
  unfold stp at h
  cases hd : T.drop p with
  | nil =>
    have := congrArg List.length hd
    rw [List.length_drop] at this
    simp at this
    omega
  | cons c t =>
    rw [hd] at h
    simp only at h
    split at h
    · cases h; decide
    · split at h
      · cases h; decide
      · split at h
        · cases h; decide
        · split at h
          · cases h
          · cases h; decide
theorem ShA.back {T : List UInt8} {M : List El} {n : Int} (h : ShA T M 0 n) (t : ByteArray) (ht : t.data.toList = T) : PsA M t 0 n ∧ ∀ x ∈ M, x.2.size ≤ 2048 := by
  rcases h with ⟨_, _, h, _⟩ | ⟨h0, k, p, L, hr, h⟩
  · cases h
  · rcases h with ⟨h1, h2, _⟩ | ⟨h1, t', h2, h3⟩
    · exact absurd rfl (stp_bad h1 h2)
    · rcases h3 with ⟨h3, _⟩ | ⟨_, rfl⟩
      · exact absurd rfl h3
      · have b := rn_back hr
        have i := rn_inv hr
        refine ⟨⟨t', h2, .inr ⟨rfl, ?_⟩⟩, fun x hx => Nat.le_trans (i.2.2 x hx) h0⟩
        rw [← b, ht, List.take_of_length_le h1]
end Go.Proofs.YtpplkoilpblpkaaDoor
