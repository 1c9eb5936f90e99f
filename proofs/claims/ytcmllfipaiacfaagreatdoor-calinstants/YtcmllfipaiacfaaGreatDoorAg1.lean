/-
  Both sides agree about the text of a time, and of a zone, that has a shape. Laid by mkag1.py.
-/
import Derived.Test.YtcmllfipaiacfaaGreatDoorRi0
namespace Go.Proofs.YtcmllfipaiacfaaGreatDoor
open Go.RowKit
set_option maxRecDepth 100000
set_option linter.unusedSimpArgs false
set_option linter.unusedVariables false

theorem dw_nil (p : UInt8 → Bool) : ∀ l : List UInt8, l.dropWhile p = [] ↔ ∀ x ∈ l, p x = true
  | [] => by simp
  | a :: l => by
    have ih := dw_nil p l
    rw [List.dropWhile_cons]
    by_cases h : p a = true
    · rw [if_pos h, ih]
      simp [h]
    · rw [if_neg h]
      simp [h]
theorem dw_head (p : UInt8 → Bool) : ∀ (l : List UInt8) (y : UInt8) (r : List UInt8), l.dropWhile p = y :: r → p y = false
  | [], _, _, h => by simp at h
  | a :: l, y, r, h => by
    rw [List.dropWhile_cons] at h
    by_cases q : p a = true
    · rw [if_pos q] at h
      exact dw_head p l y r h
    · rw [if_neg q] at h
      cases h
      simpa using q
theorem trim_nil (L cs : List UInt8) : (Lib.trimS L cs == []) = L.all (cs.contains ·) := by
  by_cases h : ∀ x ∈ L, cs.contains x = true
  · have e1 : L.reverse.dropWhile (cs.contains ·) = [] := (dw_nil _ _).2 (fun x hx => h x (List.mem_reverse.1 hx))
    have e2 : Lib.trimS L cs = [] := by unfold Lib.trimS Lib.trimLeftS Lib.trimRightS; rw [e1]; rfl
    rw [e2, List.all_eq_true.2 h]
    rfl
  · have e0 : L.all (cs.contains ·) = false := by
      refine Bool.eq_false_iff.2 fun e => h (List.all_eq_true.1 e)
    rw [e0]
    refine Bool.eq_false_iff.2 fun e => h ?_
    have e2 : Lib.trimS L cs = [] := by simpa using e
    unfold Lib.trimS Lib.trimLeftS at e2
    have e3 := (dw_nil _ _).1 e2
    unfold Lib.trimRightS at e3
    cases hd : L.reverse.dropWhile (cs.contains ·) with
    | nil => exact fun x hx => (dw_nil _ _).1 hd x (List.mem_reverse.2 hx)
    | cons y r =>
      rw [hd] at e3
      have hy := e3 y (by simp)
      have hn : (cs.contains y) = false := dw_head _ _ _ _ hd
      rw [hn] at hy
      cases hy
theorem dz {c d : UInt8} (hc : isDB c = true) (hd : isDB d = true) : (nm [c, d] = 0) ↔ (c = 48 ∧ d = 48) := by
  have h1 := isDB_in hc
  have h2 := isDB_in hd
  have e : nm [c, d] = (c.toNat - 48) * 10 + (d.toNat - 48) := by show (0 * 10 + (c.toNat - 48)) * 10 + (d.toNat - 48) = _; omega
  rw [e]
  constructor
  · intro h
    exact ⟨UInt8.toNat_inj.1 (by show c.toNat = 48; omega), UInt8.toNat_inj.1 (by show d.toNat = 48; omega)⟩
  · rintro ⟨rfl, rfl⟩
    decide
theorem dz_in {c : UInt8} (hc : isDB c = true) : ([48, 58] : List UInt8).contains c = (c == 48) := by
  have h1 := isDB_in hc
  have n1 : ¬ c = 58 := fun e => by rw [e] at h1; exact absurd h1 (by decide)
  by_cases h : c = 48
  · rw [h]; decide
  · simp [h, n1]
theorem nm99 {c d : UInt8} (hc : isDB c = true) (hd : isDB d = true) : nm [c, d] ≤ 99 := by
  have h1 := isDB_in hc
  have h2 := isDB_in hd
  show (0 * 10 + (c.toNat - 48)) * 10 + (d.toNat - 48) ≤ 99
  omega
theorem sub_app (A l : List UInt8) (p k : Nat) : sub (A ++ l) (A.length + p) k = sub l p k := by
  unfold sub
  rw [List.drop_append, List.drop_eq_nil_of_le (by omega), List.nil_append, Nat.add_sub_cancel_left]
theorem get_app (A l : List UInt8) (p : Nat) : (A ++ l)[A.length + p]? = l[p]? := by
  rw [List.getElem?_append_right (by omega), Nat.add_sub_cancel_left]
theorem n2_app {u : ByteArray} {A l : List UInt8} (h : u.data.toList = A ++ l) (p : Nat) : n2 u (A.length + p) = nm (sub l p 2) := by
  show nm (sub u.data.toList (A.length + p) 2) = _
  rw [h, sub_app]
/-- what both sides answer of a time -/
def Agr (x : Bool) (tau u : ByteArray) (a : Nat) : Prop := ∃ (c : Int) (ok : Bool) (pt : Nat), (0 ≤ c ∧ c ≤ 1000000) ∧ pt ≤ 64 ∧
  Reads3 19 #[.string tau, .bool x] (tup (if ok then (c, 0, 0) else (0, 32, (pt : Int)))) ∧ RdB 26 #[.string u, .int .i64 (a : Int)] (if ok then (c, 0, true) else (0, ((a + pt : Nat) : Int), false))
set_option maxHeartbeats 1000000 in
theorem agrE1 (a b : UInt8) (ha : isDB a = true) (hb : isDB b = true) (tau u : ByteArray) (A : List UInt8) (ht : tau.data.toList = [a, b]) (hu : u.data.toList = A ++ [a, b]) (h64 : u.size ≤ 64) : Agr true tau u A.length := by
  obtain ⟨hT, zT, t0⟩ := tmE1 a b ha hb tau ht
  have z58 : isDB 58 = false := by decide
  have na : ¬ a = 58 := fun e => by rw [e, z58] at ha; cases ha
  have nb : ¬ b = 58 := fun e => by rw [e, z58] at hb; cases hb
  have b0 := nm99 ha hb
  have len : u.data.toList.length = A.length + 2 := by rw [hu]; simp
  have hP : PT u.data.toList A.length [A.length + 0] := by
    rw [hu]
    have gl : ∀ p, (A ++ [a, b])[A.length + p]? = ([a, b] : List UInt8)[p]? := get_app A _
    have sl : ∀ p, sub (A ++ [a, b]) (A.length + p) 2 = sub ([a, b] : List UInt8) p 2 := fun p => sub_app A _ p 2
    have g0 := gl 0
    have ll : (A ++ [a, b]).length = A.length + 2 := by simp
    refine ⟨by omega, by rw [show A.length = A.length + 0 from rfl, gl 0]; simp [na], by omega, by rw [sl]; simp [sub, ha, hb], ?_⟩
    show A.length + 0 + 2 = _
    omega
  have k0 : n2 u (A.length + 0) = nm [a, b] := n2_app hu 0
  have k0' : n2 u A.length = nm [a, b] := k0
  have hK := fun w => clock_ref u h64 A.length [A.length + 0] (by simp) hP (nm [a, b]) (0) (0) (A.length + 0) (A.length) (A.length) (by simp [k0']) (by simp) b0 (by decide) (by decide) w
  have eO : okH tau (nm [a, b]) = !decide (24 < nm [a, b] ∨ (nm [a, b] = 24 ∧ 0 < 0 + 0)) := by
    have et : tz tau = decide (0 + 0 = 0) := by
      unfold tz
      rw [trim_nil, ht]
      rfl
    unfold okH
    rw [et]
    generalize nm [a, b] = hh
    generalize hmm : 0 + 0 = mm
    rw [Bool.eq_iff_iff]
    simp only [Bool.or_eq_true, Bool.and_eq_true, decide_eq_true_eq, Bool.not_eq_true', decide_eq_false_iff_not]
    omega
  unfold clA at hK
  by_cases hA : 24 < nm [a, b] ∨ (nm [a, b] = 24 ∧ 0 < 0 + 0)
  · have e0 : okH tau (n2 tau 0) = false := by rw [t0, eO, decide_eq_true hA]; rfl
    rw [tmP_no0 tau 2 2 (by omega) e0] at hT
    simp only [if_pos hA] at hK
    exact ⟨0, false, 0, by omega, by omega, hT, hK⟩
  have e0 : okH tau (n2 tau 0) = true := by rw [t0, eO, decide_eq_false hA]; rfl
  simp only [if_neg hA] at hK
  try simp only [if_neg (show ¬ 59 < 0 by decide)] at hK
  try simp only [if_neg (show ¬ 59 < 0 by decide)] at hK
  rw [tmP_ok1 tau 2 2 (by omega) (by omega) e0, t0] at hT
  refine ⟨3600 * (nm [a, b] : Int), true, 0, ⟨by omega, by omega⟩, by omega, hT, ?_⟩
  rw [show 3600 * (nm [a, b] : Int) + 60 * ((0 : Nat) : Int) + ((0 : Nat) : Int) = 3600 * (nm [a, b] : Int) by omega] at hK
  exact hK
set_option maxHeartbeats 1000000 in
theorem agrE2 (a b c d : UInt8) (ha : isDB a = true) (hb : isDB b = true) (hc : isDB c = true) (hd : isDB d = true) (tau u : ByteArray) (A : List UInt8) (ht : tau.data.toList = [a, b, 58, c, d]) (hu : u.data.toList = A ++ [a, b, 58, c, d]) (h64 : u.size ≤ 64) : Agr true tau u A.length := by
  obtain ⟨hT, zT, t0, t1⟩ := tmE2 a b c d ha hb hc hd tau ht
  have z58 : isDB 58 = false := by decide
  have na : ¬ a = 58 := fun e => by rw [e, z58] at ha; cases ha
  have nb : ¬ b = 58 := fun e => by rw [e, z58] at hb; cases hb
  have nc : ¬ c = 58 := fun e => by rw [e, z58] at hc; cases hc
  have nd : ¬ d = 58 := fun e => by rw [e, z58] at hd; cases hd
  have b0 := nm99 ha hb
  have b1 := nm99 hc hd
  have len : u.data.toList.length = A.length + 5 := by rw [hu]; simp
  have hP : PT u.data.toList A.length [A.length + 0, A.length + 3] := by
    rw [hu]
    have gl : ∀ p, (A ++ [a, b, 58, c, d])[A.length + p]? = ([a, b, 58, c, d] : List UInt8)[p]? := get_app A _
    have sl : ∀ p, sub (A ++ [a, b, 58, c, d]) (A.length + p) 2 = sub ([a, b, 58, c, d] : List UInt8) p 2 := fun p => sub_app A _ p 2
    have g0 := gl 0
    have ll : (A ++ [a, b, 58, c, d]).length = A.length + 5 := by simp
    refine ⟨by omega, by rw [show A.length = A.length + 0 from rfl, gl 0]; simp [na], by omega, by rw [sl]; simp [sub, ha, hb, hc, hd], ?_⟩
    refine ⟨by omega, by rw [show A.length + 0 + 2 = A.length + 2 from rfl, gl 2]; simp [nc], by omega, by rw [sl]; simp [sub, ha, hb, hc, hd], ?_⟩
    show A.length + 3 + 2 = _
    omega
  have k0 : n2 u (A.length + 0) = nm [a, b] := n2_app hu 0
  have k0' : n2 u A.length = nm [a, b] := k0
  have k1 : n2 u (A.length + 3) = nm [c, d] := n2_app hu 3
  have hK := fun w => clock_ref u h64 A.length [A.length + 0, A.length + 3] (by simp) hP (nm [a, b]) (nm [c, d]) (0) (A.length + 0) (A.length + 3) (A.length) (by simp [k0', k1]) (by simp) b0 b1 (by decide) w
  have eO : okH tau (nm [a, b]) = !decide (24 < nm [a, b] ∨ (nm [a, b] = 24 ∧ 0 < nm [c, d] + 0)) := by
    have et : tz tau = decide (nm [c, d] + 0 = 0) := by
      unfold tz
      rw [trim_nil, ht]
      have q1 := dz hc hd
      show (List.all [58, c, d] fun c => ([48, 58] : List UInt8).contains c) = _
      simp only [List.all_cons, List.all_nil, Bool.and_true, dz_in hc, dz_in hd, show ([48, 58] : List UInt8).contains 58 = true from rfl, Bool.true_and]
      rw [Bool.eq_iff_iff]
      simp only [Bool.and_eq_true, beq_iff_eq, decide_eq_true_eq]
      rw [Nat.add_zero, q1]
      try exact Iff.rfl
    unfold okH
    rw [et]
    generalize nm [a, b] = hh
    generalize hmm : nm [c, d] + 0 = mm
    rw [Bool.eq_iff_iff]
    simp only [Bool.or_eq_true, Bool.and_eq_true, decide_eq_true_eq, Bool.not_eq_true', decide_eq_false_iff_not]
    omega
  unfold clA at hK
  by_cases hA : 24 < nm [a, b] ∨ (nm [a, b] = 24 ∧ 0 < nm [c, d] + 0)
  · have e0 : okH tau (n2 tau 0) = false := by rw [t0, eO, decide_eq_true hA]; rfl
    rw [tmP_no0 tau 3 5 (by omega) e0] at hT
    simp only [if_pos hA] at hK
    exact ⟨0, false, 0, by omega, by omega, hT, hK⟩
  have e0 : okH tau (n2 tau 0) = true := by rw [t0, eO, decide_eq_false hA]; rfl
  simp only [if_neg hA] at hK
  by_cases hB : 59 < nm [c, d]
  · rw [tmP_no1 tau 3 5 (by omega) (by omega) e0 (by rw [t1]; omega)] at hT
    simp only [if_pos hB] at hK
    exact ⟨0, false, 3, by omega, by omega, hT, hK⟩
  simp only [if_neg hB] at hK
  try simp only [if_neg (show ¬ 59 < 0 by decide)] at hK
  rw [tmP_ok2 tau 3 5 (by omega) (by omega) (by omega) e0 (by rw [t1]; omega), t0, t1] at hT
  refine ⟨3600 * (nm [a, b] : Int) + 60 * (nm [c, d] : Int), true, 0, ⟨by omega, by omega⟩, by omega, hT, ?_⟩
  rw [show 3600 * (nm [a, b] : Int) + 60 * (nm [c, d] : Int) + ((0 : Nat) : Int) = 3600 * (nm [a, b] : Int) + 60 * (nm [c, d] : Int) by omega] at hK
  exact hK
set_option maxHeartbeats 1000000 in
theorem agrE3 (a b c d e f : UInt8) (ha : isDB a = true) (hb : isDB b = true) (hc : isDB c = true) (hd : isDB d = true) (he : isDB e = true) (hf : isDB f = true) (tau u : ByteArray) (A : List UInt8) (ht : tau.data.toList = [a, b, 58, c, d, 58, e, f]) (hu : u.data.toList = A ++ [a, b, 58, c, d, 58, e, f]) (h64 : u.size ≤ 64) : Agr true tau u A.length := by
  obtain ⟨hT, zT, t0, t1, t2⟩ := tmE3 a b c d e f ha hb hc hd he hf tau ht
  have z58 : isDB 58 = false := by decide
  have na : ¬ a = 58 := fun e => by rw [e, z58] at ha; cases ha
  have nb : ¬ b = 58 := fun e => by rw [e, z58] at hb; cases hb
  have nc : ¬ c = 58 := fun e => by rw [e, z58] at hc; cases hc
  have nd : ¬ d = 58 := fun e => by rw [e, z58] at hd; cases hd
  have ne : ¬ e = 58 := fun e => by rw [e, z58] at he; cases he
  have nf : ¬ f = 58 := fun e => by rw [e, z58] at hf; cases hf
  have b0 := nm99 ha hb
  have b1 := nm99 hc hd
  have b2 := nm99 he hf
  have len : u.data.toList.length = A.length + 8 := by rw [hu]; simp
  have hP : PT u.data.toList A.length [A.length + 0, A.length + 3, A.length + 6] := by
    rw [hu]
    have gl : ∀ p, (A ++ [a, b, 58, c, d, 58, e, f])[A.length + p]? = ([a, b, 58, c, d, 58, e, f] : List UInt8)[p]? := get_app A _
    have sl : ∀ p, sub (A ++ [a, b, 58, c, d, 58, e, f]) (A.length + p) 2 = sub ([a, b, 58, c, d, 58, e, f] : List UInt8) p 2 := fun p => sub_app A _ p 2
    have g0 := gl 0
    have ll : (A ++ [a, b, 58, c, d, 58, e, f]).length = A.length + 8 := by simp
    refine ⟨by omega, by rw [show A.length = A.length + 0 from rfl, gl 0]; simp [na], by omega, by rw [sl]; simp [sub, ha, hb, hc, hd, he, hf], ?_⟩
    refine ⟨by omega, by rw [show A.length + 0 + 2 = A.length + 2 from rfl, gl 2]; simp [nc], by omega, by rw [sl]; simp [sub, ha, hb, hc, hd, he, hf], ?_⟩
    refine ⟨by omega, by rw [show A.length + 3 + 2 = A.length + 5 from rfl, gl 5]; simp [ne], by omega, by rw [sl]; simp [sub, ha, hb, hc, hd, he, hf], ?_⟩
    show A.length + 6 + 2 = _
    omega
  have k0 : n2 u (A.length + 0) = nm [a, b] := n2_app hu 0
  have k0' : n2 u A.length = nm [a, b] := k0
  have k1 : n2 u (A.length + 3) = nm [c, d] := n2_app hu 3
  have k2 : n2 u (A.length + 6) = nm [e, f] := n2_app hu 6
  have hK := fun w => clock_ref u h64 A.length [A.length + 0, A.length + 3, A.length + 6] (by simp) hP (nm [a, b]) (nm [c, d]) (nm [e, f]) (A.length + 0) (A.length + 3) (A.length + 6) (by simp [k0', k1, k2]) (by simp) b0 b1 b2 w
  have eO : okH tau (nm [a, b]) = !decide (24 < nm [a, b] ∨ (nm [a, b] = 24 ∧ 0 < nm [c, d] + nm [e, f])) := by
    have et : tz tau = decide (nm [c, d] + nm [e, f] = 0) := by
      unfold tz
      rw [trim_nil, ht]
      have q1 := dz hc hd
      have q2 := dz he hf
      show (List.all [58, c, d, 58, e, f] fun c => ([48, 58] : List UInt8).contains c) = _
      simp only [List.all_cons, List.all_nil, Bool.and_true, dz_in hc, dz_in hd, dz_in he, dz_in hf, show ([48, 58] : List UInt8).contains 58 = true from rfl, Bool.true_and]
      rw [Bool.eq_iff_iff]
      simp only [Bool.and_eq_true, beq_iff_eq, decide_eq_true_eq]
      rw [Nat.add_eq_zero_iff, q1, q2]
      constructor
      · rintro ⟨h1, h2, h3, h4⟩
        exact ⟨⟨h1, h2⟩, h3, h4⟩
      · rintro ⟨⟨h1, h2⟩, h3, h4⟩
        exact ⟨h1, h2, h3, h4⟩
    unfold okH
    rw [et]
    generalize nm [a, b] = hh
    generalize hmm : nm [c, d] + nm [e, f] = mm
    rw [Bool.eq_iff_iff]
    simp only [Bool.or_eq_true, Bool.and_eq_true, decide_eq_true_eq, Bool.not_eq_true', decide_eq_false_iff_not]
    omega
  unfold clA at hK
  by_cases hA : 24 < nm [a, b] ∨ (nm [a, b] = 24 ∧ 0 < nm [c, d] + nm [e, f])
  · have e0 : okH tau (n2 tau 0) = false := by rw [t0, eO, decide_eq_true hA]; rfl
    rw [tmP_no0 tau 3 6 (by omega) e0] at hT
    simp only [if_pos hA] at hK
    exact ⟨0, false, 0, by omega, by omega, hT, hK⟩
  have e0 : okH tau (n2 tau 0) = true := by rw [t0, eO, decide_eq_false hA]; rfl
  simp only [if_neg hA] at hK
  by_cases hB : 59 < nm [c, d]
  · rw [tmP_no1 tau 3 6 (by omega) (by omega) e0 (by rw [t1]; omega)] at hT
    simp only [if_pos hB] at hK
    exact ⟨0, false, 3, by omega, by omega, hT, hK⟩
  simp only [if_neg hB] at hK
  by_cases hC : 59 < nm [e, f]
  · have e9 : tmP tau 3 6 = (0, 32, (6 : Int)) := by
      have er : rg tau.size (sel3 0 3 6) (tmB tau 3 6) 3 0 = ((6 : Int), 3) := by
        rw [rg_yes (k := 0) (show sel3 0 3 6 0 ≠ tau.size by show (0 : Nat) ≠ tau.size; omega) e0, rg_yes (k := 1) (show sel3 0 3 6 1 ≠ tau.size by show (3 : Nat) ≠ tau.size; omega) (show decide (n2 tau 3 ≤ 59) = true from decide_eq_true (by rw [t1]; omega)), rg_no (k := 2) (show sel3 0 3 6 2 ≠ tau.size by show (6 : Nat) ≠ tau.size; omega) (show decide (n2 tau 6 ≤ 59) = false from decide_eq_false (by rw [t2]; omega))]
        rfl
      unfold tmP
      rw [er]
      rfl
    rw [e9] at hT
    simp only [if_pos hC] at hK
    exact ⟨0, false, 6, by omega, by omega, hT, hK⟩
  simp only [if_neg hC] at hK
  rw [tmP_ok3 tau 3 6 (by omega) (by omega) (by omega) e0 (by rw [t1]; omega) (by rw [t2]; omega), t0, t1, t2] at hT
  exact ⟨_, true, 0, ⟨by omega, by omega⟩, by omega, hT, hK⟩
set_option maxHeartbeats 1000000 in
theorem agrP1 (a b : UInt8) (ha : isDB a = true) (hb : isDB b = true) (tau u : ByteArray) (A : List UInt8) (ht : tau.data.toList = [a, b]) (hu : u.data.toList = A ++ [a, b]) (h64 : u.size ≤ 64) : Agr false tau u A.length := by
  obtain ⟨hT, zT, t0⟩ := tmP1 a b ha hb tau ht
  have z58 : isDB 58 = false := by decide
  have na : ¬ a = 58 := fun e => by rw [e, z58] at ha; cases ha
  have nb : ¬ b = 58 := fun e => by rw [e, z58] at hb; cases hb
  have b0 := nm99 ha hb
  have len : u.data.toList.length = A.length + 2 := by rw [hu]; simp
  have hP : PT u.data.toList A.length [A.length + 0] := by
    rw [hu]
    have gl : ∀ p, (A ++ [a, b])[A.length + p]? = ([a, b] : List UInt8)[p]? := get_app A _
    have sl : ∀ p, sub (A ++ [a, b]) (A.length + p) 2 = sub ([a, b] : List UInt8) p 2 := fun p => sub_app A _ p 2
    have g0 := gl 0
    have ll : (A ++ [a, b]).length = A.length + 2 := by simp
    refine ⟨by omega, by rw [show A.length = A.length + 0 from rfl, gl 0]; simp [na], by omega, by rw [sl]; simp [sub, ha, hb], ?_⟩
    show A.length + 0 + 2 = _
    omega
  have k0 : n2 u (A.length + 0) = nm [a, b] := n2_app hu 0
  have k0' : n2 u A.length = nm [a, b] := k0
  have hK := fun w => clock_ref u h64 A.length [A.length + 0] (by simp) hP (nm [a, b]) (0) (0) (A.length + 0) (A.length) (A.length) (by simp [k0']) (by simp) b0 (by decide) (by decide) w
  have eO : okH tau (nm [a, b]) = !decide (24 < nm [a, b] ∨ (nm [a, b] = 24 ∧ 0 < 0 + 0)) := by
    have et : tz tau = decide (0 + 0 = 0) := by
      unfold tz
      rw [trim_nil, ht]
      rfl
    unfold okH
    rw [et]
    generalize nm [a, b] = hh
    generalize hmm : 0 + 0 = mm
    rw [Bool.eq_iff_iff]
    simp only [Bool.or_eq_true, Bool.and_eq_true, decide_eq_true_eq, Bool.not_eq_true', decide_eq_false_iff_not]
    omega
  unfold clA at hK
  by_cases hA : 24 < nm [a, b] ∨ (nm [a, b] = 24 ∧ 0 < 0 + 0)
  · have e0 : okH tau (n2 tau 0) = false := by rw [t0, eO, decide_eq_true hA]; rfl
    rw [tmP_no0 tau 2 2 (by omega) e0] at hT
    simp only [if_pos hA] at hK
    exact ⟨0, false, 0, by omega, by omega, hT, hK⟩
  have e0 : okH tau (n2 tau 0) = true := by rw [t0, eO, decide_eq_false hA]; rfl
  simp only [if_neg hA] at hK
  try simp only [if_neg (show ¬ 59 < 0 by decide)] at hK
  try simp only [if_neg (show ¬ 59 < 0 by decide)] at hK
  rw [tmP_ok1 tau 2 2 (by omega) (by omega) e0, t0] at hT
  refine ⟨3600 * (nm [a, b] : Int), true, 0, ⟨by omega, by omega⟩, by omega, hT, ?_⟩
  rw [show 3600 * (nm [a, b] : Int) + 60 * ((0 : Nat) : Int) + ((0 : Nat) : Int) = 3600 * (nm [a, b] : Int) by omega] at hK
  exact hK
set_option maxHeartbeats 1000000 in
theorem agrP2 (a b c d : UInt8) (ha : isDB a = true) (hb : isDB b = true) (hc : isDB c = true) (hd : isDB d = true) (tau u : ByteArray) (A : List UInt8) (ht : tau.data.toList = [a, b, c, d]) (hu : u.data.toList = A ++ [a, b, c, d]) (h64 : u.size ≤ 64) : Agr false tau u A.length := by
  obtain ⟨hT, zT, t0, t1⟩ := tmP2 a b c d ha hb hc hd tau ht
  have z58 : isDB 58 = false := by decide
  have na : ¬ a = 58 := fun e => by rw [e, z58] at ha; cases ha
  have nb : ¬ b = 58 := fun e => by rw [e, z58] at hb; cases hb
  have nc : ¬ c = 58 := fun e => by rw [e, z58] at hc; cases hc
  have nd : ¬ d = 58 := fun e => by rw [e, z58] at hd; cases hd
  have b0 := nm99 ha hb
  have b1 := nm99 hc hd
  have len : u.data.toList.length = A.length + 4 := by rw [hu]; simp
  have hP : PT u.data.toList A.length [A.length + 0, A.length + 2] := by
    rw [hu]
    have gl : ∀ p, (A ++ [a, b, c, d])[A.length + p]? = ([a, b, c, d] : List UInt8)[p]? := get_app A _
    have sl : ∀ p, sub (A ++ [a, b, c, d]) (A.length + p) 2 = sub ([a, b, c, d] : List UInt8) p 2 := fun p => sub_app A _ p 2
    have g0 := gl 0
    have ll : (A ++ [a, b, c, d]).length = A.length + 4 := by simp
    refine ⟨by omega, by rw [show A.length = A.length + 0 from rfl, gl 0]; simp [na], by omega, by rw [sl]; simp [sub, ha, hb, hc, hd], ?_⟩
    refine ⟨by omega, by rw [show A.length + 0 + 2 = A.length + 2 from rfl, gl 2]; simp [nc], by omega, by rw [sl]; simp [sub, ha, hb, hc, hd], ?_⟩
    show A.length + 2 + 2 = _
    omega
  have k0 : n2 u (A.length + 0) = nm [a, b] := n2_app hu 0
  have k0' : n2 u A.length = nm [a, b] := k0
  have k1 : n2 u (A.length + 2) = nm [c, d] := n2_app hu 2
  have hK := fun w => clock_ref u h64 A.length [A.length + 0, A.length + 2] (by simp) hP (nm [a, b]) (nm [c, d]) (0) (A.length + 0) (A.length + 2) (A.length) (by simp [k0', k1]) (by simp) b0 b1 (by decide) w
  have eO : okH tau (nm [a, b]) = !decide (24 < nm [a, b] ∨ (nm [a, b] = 24 ∧ 0 < nm [c, d] + 0)) := by
    have et : tz tau = decide (nm [c, d] + 0 = 0) := by
      unfold tz
      rw [trim_nil, ht]
      have q1 := dz hc hd
      show (List.all [c, d] fun c => ([48, 58] : List UInt8).contains c) = _
      simp only [List.all_cons, List.all_nil, Bool.and_true, dz_in hc, dz_in hd, show ([48, 58] : List UInt8).contains 58 = true from rfl, Bool.true_and]
      rw [Bool.eq_iff_iff]
      simp only [Bool.and_eq_true, beq_iff_eq, decide_eq_true_eq]
      rw [Nat.add_zero, q1]
      try exact Iff.rfl
    unfold okH
    rw [et]
    generalize nm [a, b] = hh
    generalize hmm : nm [c, d] + 0 = mm
    rw [Bool.eq_iff_iff]
    simp only [Bool.or_eq_true, Bool.and_eq_true, decide_eq_true_eq, Bool.not_eq_true', decide_eq_false_iff_not]
    omega
  unfold clA at hK
  by_cases hA : 24 < nm [a, b] ∨ (nm [a, b] = 24 ∧ 0 < nm [c, d] + 0)
  · have e0 : okH tau (n2 tau 0) = false := by rw [t0, eO, decide_eq_true hA]; rfl
    rw [tmP_no0 tau 2 4 (by omega) e0] at hT
    simp only [if_pos hA] at hK
    exact ⟨0, false, 0, by omega, by omega, hT, hK⟩
  have e0 : okH tau (n2 tau 0) = true := by rw [t0, eO, decide_eq_false hA]; rfl
  simp only [if_neg hA] at hK
  by_cases hB : 59 < nm [c, d]
  · rw [tmP_no1 tau 2 4 (by omega) (by omega) e0 (by rw [t1]; omega)] at hT
    simp only [if_pos hB] at hK
    exact ⟨0, false, 2, by omega, by omega, hT, hK⟩
  simp only [if_neg hB] at hK
  try simp only [if_neg (show ¬ 59 < 0 by decide)] at hK
  rw [tmP_ok2 tau 2 4 (by omega) (by omega) (by omega) e0 (by rw [t1]; omega), t0, t1] at hT
  refine ⟨3600 * (nm [a, b] : Int) + 60 * (nm [c, d] : Int), true, 0, ⟨by omega, by omega⟩, by omega, hT, ?_⟩
  rw [show 3600 * (nm [a, b] : Int) + 60 * (nm [c, d] : Int) + ((0 : Nat) : Int) = 3600 * (nm [a, b] : Int) + 60 * (nm [c, d] : Int) by omega] at hK
  exact hK
set_option maxHeartbeats 1000000 in
theorem agrP3 (a b c d e f : UInt8) (ha : isDB a = true) (hb : isDB b = true) (hc : isDB c = true) (hd : isDB d = true) (he : isDB e = true) (hf : isDB f = true) (tau u : ByteArray) (A : List UInt8) (ht : tau.data.toList = [a, b, c, d, e, f]) (hu : u.data.toList = A ++ [a, b, c, d, e, f]) (h64 : u.size ≤ 64) : Agr false tau u A.length := by
  obtain ⟨hT, zT, t0, t1, t2⟩ := tmP3 a b c d e f ha hb hc hd he hf tau ht
  have z58 : isDB 58 = false := by decide
  have na : ¬ a = 58 := fun e => by rw [e, z58] at ha; cases ha
  have nb : ¬ b = 58 := fun e => by rw [e, z58] at hb; cases hb
  have nc : ¬ c = 58 := fun e => by rw [e, z58] at hc; cases hc
  have nd : ¬ d = 58 := fun e => by rw [e, z58] at hd; cases hd
  have ne : ¬ e = 58 := fun e => by rw [e, z58] at he; cases he
  have nf : ¬ f = 58 := fun e => by rw [e, z58] at hf; cases hf
  have b0 := nm99 ha hb
  have b1 := nm99 hc hd
  have b2 := nm99 he hf
  have len : u.data.toList.length = A.length + 6 := by rw [hu]; simp
  have hP : PT u.data.toList A.length [A.length + 0, A.length + 2, A.length + 4] := by
    rw [hu]
    have gl : ∀ p, (A ++ [a, b, c, d, e, f])[A.length + p]? = ([a, b, c, d, e, f] : List UInt8)[p]? := get_app A _
    have sl : ∀ p, sub (A ++ [a, b, c, d, e, f]) (A.length + p) 2 = sub ([a, b, c, d, e, f] : List UInt8) p 2 := fun p => sub_app A _ p 2
    have g0 := gl 0
    have ll : (A ++ [a, b, c, d, e, f]).length = A.length + 6 := by simp
    refine ⟨by omega, by rw [show A.length = A.length + 0 from rfl, gl 0]; simp [na], by omega, by rw [sl]; simp [sub, ha, hb, hc, hd, he, hf], ?_⟩
    refine ⟨by omega, by rw [show A.length + 0 + 2 = A.length + 2 from rfl, gl 2]; simp [nc], by omega, by rw [sl]; simp [sub, ha, hb, hc, hd, he, hf], ?_⟩
    refine ⟨by omega, by rw [show A.length + 2 + 2 = A.length + 4 from rfl, gl 4]; simp [ne], by omega, by rw [sl]; simp [sub, ha, hb, hc, hd, he, hf], ?_⟩
    show A.length + 4 + 2 = _
    omega
  have k0 : n2 u (A.length + 0) = nm [a, b] := n2_app hu 0
  have k0' : n2 u A.length = nm [a, b] := k0
  have k1 : n2 u (A.length + 2) = nm [c, d] := n2_app hu 2
  have k2 : n2 u (A.length + 4) = nm [e, f] := n2_app hu 4
  have hK := fun w => clock_ref u h64 A.length [A.length + 0, A.length + 2, A.length + 4] (by simp) hP (nm [a, b]) (nm [c, d]) (nm [e, f]) (A.length + 0) (A.length + 2) (A.length + 4) (by simp [k0', k1, k2]) (by simp) b0 b1 b2 w
  have eO : okH tau (nm [a, b]) = !decide (24 < nm [a, b] ∨ (nm [a, b] = 24 ∧ 0 < nm [c, d] + nm [e, f])) := by
    have et : tz tau = decide (nm [c, d] + nm [e, f] = 0) := by
      unfold tz
      rw [trim_nil, ht]
      have q1 := dz hc hd
      have q2 := dz he hf
      show (List.all [c, d, e, f] fun c => ([48, 58] : List UInt8).contains c) = _
      simp only [List.all_cons, List.all_nil, Bool.and_true, dz_in hc, dz_in hd, dz_in he, dz_in hf, show ([48, 58] : List UInt8).contains 58 = true from rfl, Bool.true_and]
      rw [Bool.eq_iff_iff]
      simp only [Bool.and_eq_true, beq_iff_eq, decide_eq_true_eq]
      rw [Nat.add_eq_zero_iff, q1, q2]
      constructor
      · rintro ⟨h1, h2, h3, h4⟩
        exact ⟨⟨h1, h2⟩, h3, h4⟩
      · rintro ⟨⟨h1, h2⟩, h3, h4⟩
        exact ⟨h1, h2, h3, h4⟩
    unfold okH
    rw [et]
    generalize nm [a, b] = hh
    generalize hmm : nm [c, d] + nm [e, f] = mm
    rw [Bool.eq_iff_iff]
    simp only [Bool.or_eq_true, Bool.and_eq_true, decide_eq_true_eq, Bool.not_eq_true', decide_eq_false_iff_not]
    omega
  unfold clA at hK
  by_cases hA : 24 < nm [a, b] ∨ (nm [a, b] = 24 ∧ 0 < nm [c, d] + nm [e, f])
  · have e0 : okH tau (n2 tau 0) = false := by rw [t0, eO, decide_eq_true hA]; rfl
    rw [tmP_no0 tau 2 4 (by omega) e0] at hT
    simp only [if_pos hA] at hK
    exact ⟨0, false, 0, by omega, by omega, hT, hK⟩
  have e0 : okH tau (n2 tau 0) = true := by rw [t0, eO, decide_eq_false hA]; rfl
  simp only [if_neg hA] at hK
  by_cases hB : 59 < nm [c, d]
  · rw [tmP_no1 tau 2 4 (by omega) (by omega) e0 (by rw [t1]; omega)] at hT
    simp only [if_pos hB] at hK
    exact ⟨0, false, 2, by omega, by omega, hT, hK⟩
  simp only [if_neg hB] at hK
  by_cases hC : 59 < nm [e, f]
  · have e9 : tmP tau 2 4 = (0, 32, (4 : Int)) := by
      have er : rg tau.size (sel3 0 2 4) (tmB tau 2 4) 3 0 = ((4 : Int), 3) := by
        rw [rg_yes (k := 0) (show sel3 0 2 4 0 ≠ tau.size by show (0 : Nat) ≠ tau.size; omega) e0, rg_yes (k := 1) (show sel3 0 2 4 1 ≠ tau.size by show (2 : Nat) ≠ tau.size; omega) (show decide (n2 tau 2 ≤ 59) = true from decide_eq_true (by rw [t1]; omega)), rg_no (k := 2) (show sel3 0 2 4 2 ≠ tau.size by show (4 : Nat) ≠ tau.size; omega) (show decide (n2 tau 4 ≤ 59) = false from decide_eq_false (by rw [t2]; omega))]
        rfl
      unfold tmP
      rw [er]
      rfl
    rw [e9] at hT
    simp only [if_pos hC] at hK
    exact ⟨0, false, 4, by omega, by omega, hT, hK⟩
  simp only [if_neg hC] at hK
  rw [tmP_ok3 tau 2 4 (by omega) (by omega) (by omega) e0 (by rw [t1]; omega) (by rw [t2]; omega), t0, t1, t2] at hT
  exact ⟨_, true, 0, ⟨by omega, by omega⟩, by omega, hT, hK⟩
end Go.Proofs.YtcmllfipaiacfaaGreatDoor
