/-
  What is printed is read as it was: scanned and shown (no program here).
-/
import Derived.Test.YtpplkoilpblpkaaDoorBck
namespace Go.Proofs.YtpplkoilpblpkaaDoor
open Go.RowKit
set_option maxRecDepth 100000

theorem ve_fwd {lo hi : Nat} {P : UInt8 → Int} (h29 : P 29 ≠ 0) (R : List UInt8) (hR : R.head? = none ∨ R.head? = some 29) : ∀ (v : List UInt8) (n : Nat), (∀ c ∈ v, P c = 0) → lo ≤ n + v.length → n + v.length ≤ hi → ve lo hi P (v ++ R) n = .inr (n + v.length) := by
  intro v
  induction v with
  | nil =>
    intro n _ h1 _
    rw [List.nil_append, ve_end _ _ _ _ _ hR, if_neg (by simpa using h1)]
    rfl
  | cons c t ih =>
    intro n h h1 h2
    have hc : c ≠ 29 := fun e => h29 (by rw [← e]; exact h c (by simp))
    simp only [List.length_cons] at h1 h2 ⊢
    rw [List.cons_append, ve_cons _ _ _ _ _ _ hc, if_neg (by omega), if_neg (by rw [h c (by simp)]; simp), ih (n + 1) (fun d hd => h d (by simp [hd])) (by omega) (by omega)]
    congr 1
    omega
theorem vp_fwd (R : List UInt8) : ∀ (v : List UInt8) (n : Nat), (∀ c ∈ v, isDB c = true) → vp v.length (v ++ R) n = .inr (n + v.length) := by
  intro v
  induction v with
  | nil => intro n _; rw [List.length_nil, vp]; rfl
  | cons c t ih =>
    intro n h
    rw [List.length_cons, List.cons_append, vp, if_pos (h c (by simp)), ih (n + 1) (fun d hd => h d (by simp [hd]))]
    congr 1
    omega
theorem byF_all {P : UInt8 → Int} {l : List UInt8} (h : byF P l = 0) : ∀ c ∈ l, P c = 0 := by
  induction l with
  | nil => intro c hc; cases hc
  | cons d t ih =>
    intro c hc
    unfold byF at h
    by_cases hd : P d = 0
    · rw [if_pos hd] at h
      rcases List.mem_cons.1 hc with rfl | hc
      · exact hd
      · exact ih h c hc
    · rw [if_neg hd] at h
      exact absurd h hd
theorem fltK_fwd {k : Int} {v : List UInt8} (h0 : 0 ≤ k) (h1 : k ≤ 12) (h : fltK k v = 0) : loK k ≤ v.length ∧ v.length ≤ hiK k ∧ (∀ c ∈ v, byK k c = 0) ∧ (whK k v).1 = 0 := by
  rw [fltK_is k v h0 h1] at h
  have hl := fltE_len h
  unfold fltE at h
  rw [if_neg (by omega), if_neg (by omega)] at h
  by_cases hb : byF (byK k) v = 0
  · rw [if_neg (by simpa using hb)] at h
    exact ⟨hl.1, hl.2, byF_all hb, h⟩
  · rw [if_pos hb] at h
    exact absurd h hb
theorem dF_dig {c : UInt8} (h : dF c = 0) : isDB c = true := by
  unfold dF at h
  cases hb : isDB c with
  | true => rfl
  | false => rw [hb] at h; simp at h
theorem plK_pl {k : Int} (h0 : 0 ≤ k) (h : plK k = true) : loK k = hiK k ∧ k ≤ 8 := by
  unfold plK at h
  simp only [Bool.or_eq_true, decide_eq_true_eq] at h
  have hk : k = 0 ∨ k = 1 ∨ k = 2 ∨ k = 3 ∨ k = 4 ∨ k = 6 := by omega
  rcases hk with rfl | rfl | rfl | rfl | rfl | rfl <;> exact ⟨by decide, by omega⟩
theorem byK_29 (k : Int) : byK k 29 ≠ 0 := by
  unfold byK
  split <;> decide
theorem vend_fwd {k : Int} {v : List UInt8} (h0 : 0 ≤ k) (h1 : k ≤ 12) (h : fltK k v = 0) (R : List UInt8) (hR : plK k = true ∨ R.head? = none ∨ R.head? = some 29) : vend k (v ++ R) = .inr v.length := by
  obtain ⟨a1, a2, a3, _⟩ := fltK_fwd h0 h1 h
  unfold vend
  cases hp : plK k with
  | true =>
    obtain ⟨b1, b2⟩ := plK_pl h0 hp
    rw [if_pos rfl, show hiK k = v.length by omega, vp_fwd R v 0 (fun c hc => dF_dig (by have := a3 c hc; unfold byK at this; rwa [if_pos b2] at this)), Nat.zero_add]
  | false =>
    rw [if_neg (by simp), ve_fwd (byK_29 k) R (by rcases hR with h | h; (rw [hp] at h; cases h); exact h) v 0 a3 (by omega) (by omega), Nat.zero_add]
theorem psp_fwd {A a v R : List UInt8} {L : List El} {k : Int} (hk : kfind a = some k) (hc : clE L a = 0) (hf : fltK k v = 0) (hR : R = [] ∨ plK k = true ∨ ∃ c R', R = 29 :: c :: R') :
    psp (A ++ (a ++ v ++ R)) L A.length = .inr (a, v, if plK k = true ∨ R = [] then A.length + a.length + v.length else A.length + a.length + v.length + 1) := by
  obtain ⟨k', hah, hk'⟩ := ahK_is (l := a ++ v ++ R) (AL_all a (kfind_memP hk)) (List.isPrefixOf_iff_prefix.2 ⟨v ++ R, by simp⟩)
  rw [hk] at hk'
  cases hk'
  have hd : (A ++ (a ++ v ++ R)).drop A.length = a ++ v ++ R := by simp
  have hd2 : (A ++ (a ++ v ++ R)).drop (A.length + a.length) = v ++ R := by
    rw [← List.drop_drop, hd, List.append_assoc]
    simp
  obtain ⟨k0, k12⟩ := kfind_12 hk
  have hv := vend_fwd k0 k12 hf R (by
    rcases hR with rfl | h | ⟨c, R', rfl⟩
    · exact .inr (.inl rfl)
    · exact .inl h
    · exact .inr (.inr rfl))
  rw [← hd2] at hv
  rw [← hd] at hah
  have htk : ((A ++ (a ++ v ++ R)).drop (A.length + a.length)).take v.length = v := by rw [hd2]; simp
  have hw : (whK k (((A ++ (a ++ v ++ R)).drop (A.length + a.length)).take v.length)).1 = 0 := by rw [htk]; exact (fltK_fwd k0 k12 hf).2.2.2
  rw [psp_go hah hc hv hw, htk]
  have hlen : (A ++ (a ++ v ++ R)).length = A.length + a.length + v.length + R.length := by simp; omega
  rw [hlen]
  by_cases hp : plK k = true ∨ R = []
  · rw [if_pos hp, if_pos (by rcases hp with h | rfl; (exact .inl h); exact .inr rfl)]
  · have hp1 : ¬ plK k = true := fun h => hp (.inl h)
    have hp2 : R ≠ [] := fun h => hp (.inr h)
    obtain ⟨c, R', rfl⟩ : ∃ c R', R = 29 :: c :: R' := by
      rcases hR with h | h | h
      · exact absurd h hp2
      · exact absurd h hp1
      · exact h
    simp only [List.length_cons]
    rw [if_neg hp, if_neg (by rintro (h | h); (exact hp1 h); omega), if_neg (by omega)]
theorem kfind_two {a : List UInt8} {k : Int} (h : kfind a = some k) : ∃ d t, a = d :: t ∧ d ≠ 40 := by
  have hall : ∀ y ∈ knl.map (·.1), ∃ d t, y = d :: t ∧ d ≠ 40 := by
    have : (knl.map (·.1)).all (fun y => match y with | [] => false | d :: _ => d != 40) = true := by decide
    intro y hy
    have := List.all_eq_true.1 this y hy
    cases y with
    | nil => cases this
    | cons d t => exact ⟨d, t, rfl, by simpa using this⟩
  exact hall a (kfind_memP h)
/-- the scanned string, cut at element i -/
theorem scP_cut (L : List El) (hf : ∀ j, j < L.length → ft L j = 0) (i : Nat) (hi : i < L.length) : ∃ R, scP L L.length = scE (L.take i) ++ ((L[i]).1.data.toList ++ (L[i]).2.data.toList ++ R) ∧
    ((i + 1 = L.length ∧ R = []) ∨ (i + 1 < L.length ∧ ∃ c R', R = (if plB (L[i]).1.data.toList = false then [29] else []) ++ c :: R')) := by
  have hL : L = L.take i ++ L[i] :: L.drop (i + 1) := by rw [List.getElem_cons_drop, List.take_append_drop]
  by_cases he : i + 1 = L.length
  · refine ⟨[], ?_, .inl ⟨he, rfl⟩⟩
    have hd : L.drop (i + 1) = [] := List.drop_of_length_le (by omega)
    rw [hd] at hL
    have := scP_last (L.take i) L[i]
    rw [← hL] at this
    rw [this]
    simp
  · have hj : L.length - 1 < L.length := by omega
    obtain ⟨M, y, hM⟩ : ∃ M y, L.drop (i + 1) = M ++ [y] := by
      rcases List.eq_nil_or_concat (L.drop (i + 1)) with h | ⟨M, y, h⟩
      · have := congrArg List.length h
        rw [List.length_drop] at this
        simp at this
        omega
      · exact ⟨M, y, by rw [h, List.concat_eq_append]⟩
    have hyz : y = L[L.length - 1] := by
      have h1 : L.drop (i + 1) = M ++ [y] := hM
      have h2 : (L.drop (i + 1)).length = M.length + 1 := by rw [h1]; simp
      rw [List.length_drop] at h2
      have h3 : (L.drop (i + 1))[M.length]? = some y := by rw [h1]; simp
      rw [List.getElem?_drop, show i + 1 + M.length = L.length - 1 by omega, List.getElem?_eq_getElem hj] at h3
      exact (Option.some.inj h3).symm
    obtain ⟨d, t, hdt, _⟩ : ∃ d t, y.1.data.toList = d :: t ∧ d ≠ 40 := by
      have h0 := hf (L.length - 1) hj
      rw [ft_at hj, ← hyz] at h0
      obtain ⟨k, hk, _⟩ := ftE_zero h0
      exact kfind_two hk
    rw [hM] at hL
    have hs := scP_last (L.take i ++ L[i] :: M) y
    rw [show (L.take i ++ L[i] :: M) ++ [y] = L by rw [List.append_assoc, List.cons_append]; exact hL.symm] at hs
    refine ⟨(if plB (L[i]).1.data.toList = false then [29] else []) ++ (scE M ++ y.1.data.toList ++ y.2.data.toList), ?_, .inr ⟨by omega, ?_⟩⟩
    · rw [hs, scE_app]
      have : scE (L[i] :: M) = seE L[i] ++ scE M := by simp [scE]
      rw [this]
      unfold seE
      simp only [List.append_assoc]
    · cases hsm : scE M with
      | nil => rw [hdt]; exact ⟨d, _, rfl⟩
      | cons c R => exact ⟨c, _, rfl⟩
theorem rp_fwd (L : List El) (hf : ∀ j, j < L.length → ft L j = 0) : ∀ i, i ≤ L.length → ∃ G, rp (scP L L.length) i = some (if i < L.length then (scE (L.take i)).length else (scP L L.length).length, L.take i, G) := by
  intro i
  induction i with
  | zero =>
    intro _
    refine ⟨[], ?_⟩
    rw [rp]
    by_cases h : 0 < L.length
    · rw [if_pos h]; simp [scE]
    · have : L = [] := List.eq_nil_of_length_eq_zero (by omega)
      subst this
      simp [scP]
  | succ i ih =>
    intro h
    obtain ⟨G, hG⟩ := ih (by omega)
    rw [if_pos (by omega)] at hG
    have h0 := hf i (by omega)
    rw [ft_at (by omega)] at h0
    obtain ⟨k, hk, hc, hfl⟩ := ftE_zero h0
    obtain ⟨R, hT, hR⟩ := scP_cut L hf i (by omega)
    have hpl : plB (L[i]).1.data.toList = plK k := by unfold plB; rw [hk]; rfl
    have hlt : (scE (L.take i)).length < (scP L L.length).length := by
      obtain ⟨d, t, hd, _⟩ := kfind_two hk
      rw [hT]
      simp only [List.length_append, hd, List.length_cons]
      omega
    have hs := psp_fwd (A := scE (L.take i)) (R := R) hk hc hfl (by
      rcases hR with ⟨_, h⟩ | ⟨_, c, R', h⟩
      · exact .inl h
      · cases hp : plK k with
        | true => exact .inr (.inl rfl)
        | false => exact .inr (.inr ⟨c, R', by rw [h, hpl, hp, if_pos rfl]; rfl⟩))
    rw [← hT] at hs
    have hst := rp_step hG hlt hs
    have htk : L.take i ++ [(L[i].1, L[i].2)] = L.take (i + 1) := by
      rw [List.take_add_one, List.getElem?_eq_getElem (by omega)]
      rfl
    rw [htk] at hst
    refine ⟨G ++ [(scE (L.take i)).length], hst.trans ?_⟩
    congr 2
    rcases hR with ⟨he, hR⟩ | ⟨he, c, R', hR⟩
    · rw [if_pos (.inr hR), if_neg (by omega), hT, hR]
      simp
      omega
    · have hne : R ≠ [] := by rw [hR]; simp
      have htl : (scE (L.take (i + 1))).length = (scE (L.take i)).length + (seE L[i]).length := by
        rw [← htk, scE_app, List.length_append]
        congr 1
        simp [scE]
      rw [if_pos he, htl]
      unfold seE
      rw [hpl]
      cases hp : plK k with
      | true => rw [if_pos (.inl rfl), if_neg (by simp)]; simp; omega
      | false => rw [if_neg (by rintro (h | h); (cases h); exact hne h), if_pos rfl]; simp; omega
theorem PaA.fwd {L : List El} (hf : ∀ j, j < L.length → ft L j = 0) (hlo : loI L < 0) (hs : (scP L L.length).length ≤ 512) : PaA (scP L L.length) L 0 0 := by
  obtain ⟨G, hG⟩ := rp_fwd L hf L.length (Nat.le_refl _)
  rw [if_neg (by omega), List.take_length] at hG
  exact .inr ⟨hs, _, _, L, G, hG, .inr ⟨Nat.le_refl _, .inr ⟨hlo, rfl, rfl, rfl⟩⟩⟩

theorem sv_fwd (R : List UInt8) (hR : R = [] ∨ ∃ d R', R = 40 :: d :: R' ∧ d ≠ 40) : ∀ v : List UInt8, sv (shV v ++ R) = (v, (shV v).length, true) := by
  intro v
  induction v with
  | nil =>
    rcases hR with rfl | ⟨d, R', rfl, hd⟩
    · rfl
    · rw [shV, List.nil_append, sv_stop 40 _ (.inl rfl) (fun e t' h => by cases h; exact hd)]
      rfl
  | cons c t ih =>
    rw [shV]
    unfold brk
    by_cases hb : IsBr c
    · rw [if_pos hb]
      show sv (c :: c :: (shV t ++ R)) = _
      rw [sv_twice c _ hb, ih]
      simp
    · rw [if_neg hb]
      show sv (c :: (shV t ++ R)) = _
      rw [sv_plain c _ hb, ih]
      simp
theorem ib_fwd (X : List UInt8) (c : UInt8) : ∀ a : List UInt8, (∀ d ∈ a, d ≠ c) → Lib.indexByte (a ++ c :: X) c = (a.length : Int) := by
  intro a
  induction a with
  | nil => intro _; simp [Lib.indexByte]
  | cons d t ih =>
    intro h
    have h1 := ih (fun e he => h e (by simp [he]))
    rw [List.cons_append]
    unfold Lib.indexByte
    rw [if_neg (by simpa using h d (by simp)), h1, if_neg (by simp)]
    simp
def shO (x : El) : List UInt8 := [40] ++ x.1.data.toList ++ [41] ++ shV x.2.data.toList
def shF : List El → List UInt8
  | [] => []
  | x :: t => shO x ++ shF t
theorem shF_app (L M : List El) : shF (L ++ M) = shF L ++ shF M := by
  induction L with
  | nil => rfl
  | cons x t ih => rw [List.cons_append, shF, shF, ih, List.append_assoc]
theorem shP_is (M : List El) : ∀ i, i ≤ M.length → shP M i = shF (M.take i) := by
  intro i
  induction i with
  | zero => intro _; simp [shP, shF]
  | succ i ih =>
    intro h
    rw [shP, ih (by omega), she_at (by omega), List.take_add_one, List.getElem?_eq_getElem (by omega), shF_app, Option.toList_some, shF, shF, List.append_nil]
    rfl
theorem stp_fwd {A a v R : List UInt8} {k : Int} (hk : kfind a = some k) (hR : R = [] ∨ ∃ d R', R = 40 :: d :: R' ∧ d ≠ 40) :
    stp (A ++ ([40] ++ a ++ [41] ++ shV v ++ R)) A.length = .inr (a, v, A.length + a.length + 2 + (shV v).length) := by
  have ha : ∀ d ∈ a, d ≠ 41 := by
    have : (knl.map (·.1)).all (fun y => y.all (fun d => d != 41)) = true := by decide
    intro d hd
    have h1 := List.all_eq_true.1 this a (kfind_memP hk)
    simpa using List.all_eq_true.1 h1 d hd
  have hd : (A ++ ([40] ++ a ++ [41] ++ shV v ++ R)).drop A.length = 40 :: (a ++ 41 :: (shV v ++ R)) := by simp
  have hi := ib_fwd (shV v ++ R) 41 a ha
  unfold stp
  rw [hd]
  simp only
  have ht : (Lib.indexByte (a ++ 41 :: (shV v ++ R)) 41).toNat = a.length := by rw [hi]; simp
  have h1 : (a ++ 41 :: (shV v ++ R)).take a.length = a := by simp
  have h2 : (a ++ 41 :: (shV v ++ R)).drop (a.length + 1) = shV v ++ R := by
    rw [← List.drop_drop]
    simp
  rw [if_neg (by simp), if_neg (by rw [hi]; omega), ht, h1, hk, h2, sv_fwd R hR v]
  simp
theorem rn_fwd (L : List El) (hf : ∀ j, j < L.length → ft L j = 0) : ∀ i, i ≤ L.length → rn (shP L L.length) i = some ((shP L i).length, L.take i) := by
  intro i
  induction i with
  | zero => intro _; rw [rn]; simp [shP]
  | succ i ih =>
    intro h
    have hn := ih (by omega)
    have h0 := hf i (by omega)
    rw [ft_at (by omega)] at h0
    obtain ⟨k, hk, _, _⟩ := ftE_zero h0
    have hL : L = L.take i ++ L[i] :: L.drop (i + 1) := by rw [List.getElem_cons_drop, List.take_append_drop]
    have hT : shP L L.length = shP L i ++ ([40] ++ (L[i]).1.data.toList ++ [41] ++ shV (L[i]).2.data.toList ++ shF (L.drop (i + 1))) := by
      rw [shP_is L _ (Nat.le_refl _), shP_is L i (by omega), List.take_length]
      conv => lhs; rw [hL]
      rw [shF_app, shF]
      unfold shO
      simp only [List.append_assoc]
    have hR : shF (L.drop (i + 1)) = [] ∨ ∃ d R', shF (L.drop (i + 1)) = 40 :: d :: R' ∧ d ≠ 40 := by
      by_cases he : i + 1 < L.length
      · have h2 := hf (i + 1) he
        rw [ft_at he] at h2
        obtain ⟨k', hk', _, _⟩ := ftE_zero h2
        obtain ⟨d, t, hd, hd4⟩ := kfind_two hk'
        refine .inr ⟨d, t ++ [41] ++ shV (L[i + 1]).2.data.toList ++ shF (L.drop (i + 1 + 1)), ?_, hd4⟩
        rw [List.drop_eq_getElem_cons he, shF]
        unfold shO
        rw [hd]
        simp
      · rw [List.drop_of_length_le (by omega)]
        exact .inl rfl
    have hs := stp_fwd (A := shP L i) (v := (L[i]).2.data.toList) hk hR
    rw [← hT] at hs
    have hlt : (shP L i).length < (shP L L.length).length := by rw [hT]; simp
    rw [rn_step hn hlt hs]
    have htk : L.take i ++ [(L[i].1, L[i].2)] = L.take (i + 1) := by
      rw [List.take_add_one, List.getElem?_eq_getElem (by omega)]
      rfl
    rw [htk, shP, she_at (by omega)]
    congr 2
    simp
    omega
theorem ShA.fwd {L : List El} {t : ByteArray} (hf : ∀ j, j < L.length → ft L j = 0) (hp : PrA L t 0 0) (hs : (shP L L.length).length ≤ 2048) : ShA (shP L L.length) L 0 0 := by
  have h := rn_fwd L hf L.length (Nat.le_refl _)
  rw [List.take_length] at h
  exact .inr ⟨hs, _, _, L, h, .inr ⟨Nat.le_refl _, t, hp, .inr ⟨rfl, rfl⟩⟩⟩

theorem rp_pre (L : List El) (hf : ∀ j, j < L.length → ft L j = 0) (Y : List UInt8) (hY : Y ≠ []) : ∀ i, i ≤ L.length → ∃ G, rp (scE L ++ Y) i = some ((scE (L.take i)).length, L.take i, G) := by
  intro i
  induction i with
  | zero => intro _; exact ⟨[], by rw [rp]; simp [scE]⟩
  | succ i ih =>
    intro h
    obtain ⟨G, hG⟩ := ih (by omega)
    have h0 := hf i (by omega)
    rw [ft_at (by omega)] at h0
    obtain ⟨k, hk, hc, hfl⟩ := ftE_zero h0
    have hpl : plB (L[i]).1.data.toList = plK k := by unfold plB; rw [hk]; rfl
    have hL : L = L.take i ++ L[i] :: L.drop (i + 1) := by rw [List.getElem_cons_drop, List.take_append_drop]
    have hT : scE L ++ Y = scE (L.take i) ++ ((L[i]).1.data.toList ++ (L[i]).2.data.toList ++ ((if plB (L[i]).1.data.toList = false then [29] else []) ++ (scE (L.drop (i + 1)) ++ Y))) := by
      conv => lhs; rw [hL]
      rw [scE_app]
      have : scE (L[i] :: L.drop (i + 1)) = seE L[i] ++ scE (L.drop (i + 1)) := by unfold scE; rw [List.flatMap_cons]
      rw [this]
      unfold seE
      simp only [List.append_assoc]
    obtain ⟨c, R', hR⟩ : ∃ c R', scE (L.drop (i + 1)) ++ Y = c :: R' := by
      cases hq : scE (L.drop (i + 1)) ++ Y with
      | nil => exact absurd (List.append_eq_nil_iff.1 hq).2 hY
      | cons c R' => exact ⟨c, R', rfl⟩
    rw [hR] at hT
    have hlt : (scE (L.take i)).length < (scE L ++ Y).length := by
      obtain ⟨d, t, hd, _⟩ := kfind_two hk
      rw [hT]
      simp only [List.length_append, hd, List.length_cons]
      omega
    have hs := psp_fwd (A := scE (L.take i)) (R := (if plB (L[i]).1.data.toList = false then [29] else []) ++ c :: R') hk hc hfl (by
      cases hp : plK k with
      | true => exact .inr (.inl rfl)
      | false => exact .inr (.inr ⟨c, R', by rw [hpl, hp, if_pos rfl]; rfl⟩))
    rw [← hT] at hs
    have hst := rp_step hG hlt hs
    have htk : L.take i ++ [(L[i].1, L[i].2)] = L.take (i + 1) := by
      rw [List.take_add_one, List.getElem?_eq_getElem (by omega)]
      rfl
    rw [htk] at hst
    refine ⟨G ++ [(scE (L.take i)).length], hst.trans ?_⟩
    congr 2
    have htl : (scE (L.take (i + 1))).length = (scE (L.take i)).length + (seE L[i]).length := by
      rw [← htk, scE_app, List.length_append]
      congr 1
      simp [scE]
    rw [htl]
    unfold seE
    rw [hpl]
    cases hp : plK k with
    | true => rw [if_pos (.inl rfl), if_neg (by simp)]; simp; omega
    | false => rw [if_neg (by rintro (h | h); (cases h); simp at h), if_pos rfl]; simp; omega
theorem set_mid (A a v R : List UInt8) (q : Nat) (d : UInt8) (hq : q < v.length) : (A ++ (a ++ v ++ R)).set (A.length + a.length + q) d = A ++ (a ++ v.set q d ++ R) := by
  rw [List.set_append_right _ _ (by omega), show A.length + a.length + q - A.length = a.length + q by omega, List.append_assoc, List.set_append_right _ _ (by omega), show a.length + q - a.length = q by omega, List.set_append_left _ _ hq, List.append_assoc]
theorem spoilt_told (L : List El) (hf : ∀ j, j < L.length → ft L j = 0) (hs : (scP L L.length).length ≤ 512) (k : Nat) (hk : k < L.length) (kk : Int) (hkf : kfind (L[k]).1.data.toList = some kk) (h2 : kk ≤ 2) (q : Nat) (hq : q < (L[k]).2.data.toList.length) (d : UInt8) (hd : IsD d) (hne : d ≠ (L[k]).2.data.toList[q]) :
    PaA ((scP L L.length).set ((scE (L.take k)).length + (L[k]).1.data.toList.length + q) d) [] 22 (((scE (L.take k)).length + (L[k]).1.data.toList.length + (L[k]).2.data.toList.length : Nat) - 1) := by
  have h0 := hf k hk
  rw [ft_at hk] at h0
  obtain ⟨k', hk', hc, hfl⟩ := ftE_zero h0
  rw [hkf] at hk'
  cases hk'
  obtain ⟨k0, _⟩ := kfind_12 hkf
  obtain ⟨R, hT, _⟩ := scP_cut L hf k hk
  obtain ⟨a1, a2, a3, a4⟩ := fltK_fwd k0 (by omega) hfl
  have hpl : plK kk = true := by unfold plK; simp; omega
  obtain ⟨b1, _⟩ := plK_pl k0 hpl
  have hall : AllD (L[k]).2.data.toList := fun c hc => (isDB_iff c).1 (dF_dig (by have := a3 c hc; unfold byK at this; rwa [if_pos (by omega)] at this))
  have hsm : sm (L[k]).2.data.toList % 10 = 0 := by
    unfold whK at a4
    rw [if_pos h2] at a4
    unfold cF at a4
    by_cases h : sm (L[k]).2.data.toList % 10 = 0
    · exact h
    · rw [if_neg h] at a4; cases a4
  have htold := sm_set_told _ q hq d hsm (hall _ (List.getElem_mem hq)) hd hne
  have hlen := congrArg List.length hT
  rw [hT] at hs ⊢
  rw [set_mid _ _ _ _ _ _ hq]
  generalize hv' : (L[k]).2.data.toList.set q d = v' at *
  have hl' : v'.length = (L[k]).2.data.toList.length := by rw [← hv', List.length_set]
  have hall' : ∀ c ∈ v', isDB c = true := by
    intro c hc
    rw [← hv'] at hc
    rcases List.mem_or_eq_of_mem_set hc with hc | hc
    · exact (isDB_iff c).2 (hall c hc)
    · rw [hc]; exact (isDB_iff d).2 hd
  generalize hA : (L[k]).1.data.toList = a at *
  generalize hV : (L[k]).2.data.toList = v at *
  have hane : a ≠ [] := by obtain ⟨x, t, e, _⟩ := kfind_two hkf; rw [e]; simp
  obtain ⟨G, hG⟩ := rp_pre (L.take k) (fun j hj => by
    have hj2 : j < k := by rw [List.length_take] at hj; omega
    have := hf j (by omega)
    rw [ft_at (by omega)] at this
    rw [ft_at hj, List.take_take, List.getElem_take, show min j k = j by omega]
    exact this) (a ++ v' ++ R) (by simp [hane]) (L.take k).length (Nat.le_refl _)
  rw [List.take_length] at hG
  have hd1 : (scE (L.take k) ++ (a ++ v' ++ R)).drop (scE (L.take k)).length = a ++ v' ++ R := by simp
  have hd2 : (scE (L.take k) ++ (a ++ v' ++ R)).drop ((scE (L.take k)).length + a.length) = v' ++ R := by
    rw [← List.drop_drop, hd1, List.append_assoc]
    simp
  obtain ⟨k2, hah, hk2⟩ := ahK_is (l := a ++ v' ++ R) (AL_all a (kfind_memP hkf)) (List.isPrefixOf_iff_prefix.2 ⟨v' ++ R, by simp⟩)
  rw [hkf] at hk2
  cases hk2
  rw [← hd1] at hah
  have hve : vend kk ((scE (L.take k) ++ (a ++ v' ++ R)).drop ((scE (L.take k)).length + a.length)) = .inr v'.length := by
    rw [hd2]
    unfold vend
    rw [hpl, if_pos rfl, show hiK kk = v'.length by omega, vp_fwd R v' 0 hall', Nat.zero_add]
  have hwh : whK kk (((scE (L.take k) ++ (a ++ v' ++ R)).drop ((scE (L.take k)).length + a.length)).take v'.length) = (22, (v'.length : Int) - 1) := by
    rw [hd2]
    have : (v' ++ R).take v'.length = v' := by simp
    rw [this]
    unfold whK
    rw [if_pos h2]
    unfold cF
    rw [if_neg htold]
  have hps := psp_whole (L := L.take k) hah hc hve (by rw [hwh]; simp)
  rw [hwh] at hps
  have hlen2 : (scE (L.take k) ++ (a ++ v' ++ R)).length = (scE (L.take k) ++ (a ++ v ++ R)).length := by simp [hl']
  refine .inr ⟨by rw [hlen2]; exact hs, _, _, _, G, hG, .inl ⟨?_, ?_, rfl⟩⟩
  · have : 0 < a.length := List.length_pos_iff.2 hane
    simp only [List.length_append]
    omega
  · rw [hps]
    congr 2
    simp only
    rw [hl']
    omega
end Go.Proofs.YtpplkoilpblpkaaDoor
