/-
  Both sides agree about the text of any time, and of any zone. Laid by mkag2.py.
-/
import Derived.Test.YtcmllfipaiacfaaGreatDoorAg1
namespace Go.Proofs.YtcmllfipaiacfaaGreatDoor
open Go.RowKit
set_option maxRecDepth 100000
set_option linter.unusedSimpArgs false
set_option linter.unusedVariables false

theorem znEp1 (a b : UInt8) (ha : isDB a = true) (hb : isDB b = true) (t : ByteArray) (hT : t.data.toList = [43, a, b]) : Reads3 20 #[.string t, .bool true] (tup (znP t 1 3)) ∧ t.size = 3 ∧ t.data.toList[0]? = some 43 ∧ n2 t 1 = nm [a, b] := by
  have hs : t.size = 3 := by have e := congrArg List.length hT; rw [Array.length_toList] at e; exact e
  have z58 : isDB 58 = false := by decide
  have z43 : isDB 43 = false := by decide
  have z45 : isDB 45 = false := by decide
  have hfit : fitL t.data.toList (SS ZE) 0 0 = (((1 : Nat) : Int), 0) := by
    rw [hT]
    have na : ¬ a = 58 := fun e => by rw [e, z58] at ha; cases ha
    have nb : ¬ b = 58 := fun e => by rw [e, z58] at hb; cases hb
    simp [fitL, SS, ZE, rl, fitB, ha, hb, z58, na, nb]
  have hF : ZnF t 1 3 := by
    refine ⟨by rw [hT]; simp [sk, skA, ha, hb, z43, z45], .inr ⟨by omega, by rw [hT]; simp [sub, ha, hb]⟩, by omega, fun _ => by rw [hT]; simp [sk, skA, ha, hb, z58], ?_⟩
    exact .inl (by omega)
  refine ⟨fun w => readZone_yesE t (by omega) (by omega) 1 3 hF 1 0 hfit w, hs, by rw [hT]; rfl, by show nm (sub t.data.toList 1 2) = _; rw [hT]; rfl⟩
theorem znEm1 (a b : UInt8) (ha : isDB a = true) (hb : isDB b = true) (t : ByteArray) (hT : t.data.toList = [45, a, b]) : Reads3 20 #[.string t, .bool true] (tup (znP t 1 3)) ∧ t.size = 3 ∧ t.data.toList[0]? = some 45 ∧ n2 t 1 = nm [a, b] := by
  have hs : t.size = 3 := by have e := congrArg List.length hT; rw [Array.length_toList] at e; exact e
  have z58 : isDB 58 = false := by decide
  have z43 : isDB 43 = false := by decide
  have z45 : isDB 45 = false := by decide
  have hfit : fitL t.data.toList (SS ZE) 0 0 = (((2 : Nat) : Int), 0) := by
    rw [hT]
    have na : ¬ a = 58 := fun e => by rw [e, z58] at ha; cases ha
    have nb : ¬ b = 58 := fun e => by rw [e, z58] at hb; cases hb
    simp [fitL, SS, ZE, rl, fitB, ha, hb, z58, na, nb]
  have hF : ZnF t 1 3 := by
    refine ⟨by rw [hT]; simp [sk, skA, ha, hb, z43, z45], .inr ⟨by omega, by rw [hT]; simp [sub, ha, hb]⟩, by omega, fun _ => by rw [hT]; simp [sk, skA, ha, hb, z58], ?_⟩
    exact .inl (by omega)
  refine ⟨fun w => readZone_yesE t (by omega) (by omega) 1 3 hF 2 0 hfit w, hs, by rw [hT]; rfl, by show nm (sub t.data.toList 1 2) = _; rw [hT]; rfl⟩
theorem znPm1 (a b : UInt8) (ha : isDB a = true) (hb : isDB b = true) (t : ByteArray) (hT : t.data.toList = [45, a, b]) : Reads3 20 #[.string t, .bool false] (tup (znP t 1 3)) ∧ t.size = 3 ∧ t.data.toList[0]? = some 45 ∧ n2 t 1 = nm [a, b] := by
  have hs : t.size = 3 := by have e := congrArg List.length hT; rw [Array.length_toList] at e; exact e
  have z58 : isDB 58 = false := by decide
  have z43 : isDB 43 = false := by decide
  have z45 : isDB 45 = false := by decide
  have hfit : fitL t.data.toList (SS ZP) 0 0 = (((2 : Nat) : Int), 0) := by
    rw [hT]
    have na : ¬ a = 58 := fun e => by rw [e, z58] at ha; cases ha
    have nb : ¬ b = 58 := fun e => by rw [e, z58] at hb; cases hb
    simp [fitL, SS, ZP, rl, fitB, ha, hb, z58, na, nb]
  have hF : ZnF t 1 3 := by
    refine ⟨by rw [hT]; simp [sk, skA, ha, hb, z43, z45], .inr ⟨by omega, by rw [hT]; simp [sub, ha, hb]⟩, by omega, fun _ => by rw [hT]; simp [sk, skA, ha, hb, z58], ?_⟩
    exact .inl (by omega)
  refine ⟨fun w => readZone_yesP t (by omega) (by omega) 1 3 hF 2 0 hfit w, hs, by rw [hT]; rfl, by show nm (sub t.data.toList 1 2) = _; rw [hT]; rfl⟩
theorem ex_tE0 (l : List UInt8) (h1 : rl l [100, 100] = l.length) (h2 : rl l [100, 100] = ([100, 100] : List UInt8).length) : ∃ a b : UInt8, isDB a = true ∧ isDB b = true ∧ l = [a, b] := by
  have hl : l.length = 2 := h1.symm.trans h2
  match l, hl with
  | [x0, x1], _ =>
    have hf := rl_all [x0, x1] [100, 100] rfl h1
    have f0 := hf 0 (by simp) (by simp)
    have f1 := hf 1 (by simp) (by simp)
    simp [fitB] at f0 f1
    exact ⟨_, _, f0, f1, rfl⟩
theorem ex_tE1 (l : List UInt8) (h1 : rl l [100, 100, 58, 100, 100] = l.length) (h2 : rl l [100, 100, 58, 100, 100] = ([100, 100, 58, 100, 100] : List UInt8).length) : ∃ a b c d : UInt8, isDB a = true ∧ isDB b = true ∧ isDB c = true ∧ isDB d = true ∧ l = [a, b, 58, c, d] := by
  have hl : l.length = 5 := h1.symm.trans h2
  match l, hl with
  | [x0, x1, x2, x3, x4], _ =>
    have hf := rl_all [x0, x1, x2, x3, x4] [100, 100, 58, 100, 100] rfl h1
    have f0 := hf 0 (by simp) (by simp)
    have f1 := hf 1 (by simp) (by simp)
    have f2 := hf 2 (by simp) (by simp)
    have f3 := hf 3 (by simp) (by simp)
    have f4 := hf 4 (by simp) (by simp)
    simp [fitB] at f0 f1 f2 f3 f4
    subst f2
    exact ⟨_, _, _, _, f0, f1, f3, f4, rfl⟩
theorem ex_tE2 (l : List UInt8) (h1 : rl l [100, 100, 58, 100, 100, 58, 100, 100] = l.length) (h2 : rl l [100, 100, 58, 100, 100, 58, 100, 100] = ([100, 100, 58, 100, 100, 58, 100, 100] : List UInt8).length) : ∃ a b c d e f : UInt8, isDB a = true ∧ isDB b = true ∧ isDB c = true ∧ isDB d = true ∧ isDB e = true ∧ isDB f = true ∧ l = [a, b, 58, c, d, 58, e, f] := by
  have hl : l.length = 8 := h1.symm.trans h2
  match l, hl with
  | [x0, x1, x2, x3, x4, x5, x6, x7], _ =>
    have hf := rl_all [x0, x1, x2, x3, x4, x5, x6, x7] [100, 100, 58, 100, 100, 58, 100, 100] rfl h1
    have f0 := hf 0 (by simp) (by simp)
    have f1 := hf 1 (by simp) (by simp)
    have f2 := hf 2 (by simp) (by simp)
    have f3 := hf 3 (by simp) (by simp)
    have f4 := hf 4 (by simp) (by simp)
    have f5 := hf 5 (by simp) (by simp)
    have f6 := hf 6 (by simp) (by simp)
    have f7 := hf 7 (by simp) (by simp)
    simp [fitB] at f0 f1 f2 f3 f4 f5 f6 f7
    subst f2
    subst f5
    exact ⟨_, _, _, _, _, _, f0, f1, f3, f4, f6, f7, rfl⟩
theorem ex_tP1 (l : List UInt8) (h1 : rl l [100, 100, 100, 100] = l.length) (h2 : rl l [100, 100, 100, 100] = ([100, 100, 100, 100] : List UInt8).length) : ∃ a b c d : UInt8, isDB a = true ∧ isDB b = true ∧ isDB c = true ∧ isDB d = true ∧ l = [a, b, c, d] := by
  have hl : l.length = 4 := h1.symm.trans h2
  match l, hl with
  | [x0, x1, x2, x3], _ =>
    have hf := rl_all [x0, x1, x2, x3] [100, 100, 100, 100] rfl h1
    have f0 := hf 0 (by simp) (by simp)
    have f1 := hf 1 (by simp) (by simp)
    have f2 := hf 2 (by simp) (by simp)
    have f3 := hf 3 (by simp) (by simp)
    simp [fitB] at f0 f1 f2 f3
    exact ⟨_, _, _, _, f0, f1, f2, f3, rfl⟩
theorem ex_tP2 (l : List UInt8) (h1 : rl l [100, 100, 100, 100, 100, 100] = l.length) (h2 : rl l [100, 100, 100, 100, 100, 100] = ([100, 100, 100, 100, 100, 100] : List UInt8).length) : ∃ a b c d e f : UInt8, isDB a = true ∧ isDB b = true ∧ isDB c = true ∧ isDB d = true ∧ isDB e = true ∧ isDB f = true ∧ l = [a, b, c, d, e, f] := by
  have hl : l.length = 6 := h1.symm.trans h2
  match l, hl with
  | [x0, x1, x2, x3, x4, x5], _ =>
    have hf := rl_all [x0, x1, x2, x3, x4, x5] [100, 100, 100, 100, 100, 100] rfl h1
    have f0 := hf 0 (by simp) (by simp)
    have f1 := hf 1 (by simp) (by simp)
    have f2 := hf 2 (by simp) (by simp)
    have f3 := hf 3 (by simp) (by simp)
    have f4 := hf 4 (by simp) (by simp)
    have f5 := hf 5 (by simp) (by simp)
    simp [fitB] at f0 f1 f2 f3 f4 f5
    exact ⟨_, _, _, _, _, _, f0, f1, f2, f3, f4, f5, rfl⟩
theorem ex_zE0 (l : List UInt8) (h1 : rl l [90] = l.length) (h2 : rl l [90] = ([90] : List UInt8).length) : l = [90] := by
  have hl : l.length = 1 := h1.symm.trans h2
  match l, hl with
  | [x0], _ =>
    have hf := rl_all [x0] [90] rfl h1
    have f0 := hf 0 (by simp) (by simp)
    simp [fitB] at f0
    subst f0
    rfl
theorem ex_zE1 (l : List UInt8) (h1 : rl l [43, 100, 100] = l.length) (h2 : rl l [43, 100, 100] = ([43, 100, 100] : List UInt8).length) : ∃ a b : UInt8, isDB a = true ∧ isDB b = true ∧ l = [43, a, b] := by
  have hl : l.length = 3 := h1.symm.trans h2
  match l, hl with
  | [x0, x1, x2], _ =>
    have hf := rl_all [x0, x1, x2] [43, 100, 100] rfl h1
    have f0 := hf 0 (by simp) (by simp)
    have f1 := hf 1 (by simp) (by simp)
    have f2 := hf 2 (by simp) (by simp)
    simp [fitB] at f0 f1 f2
    subst f0
    exact ⟨_, _, f1, f2, rfl⟩
theorem ex_zE2 (l : List UInt8) (h1 : rl l [45, 100, 100] = l.length) (h2 : rl l [45, 100, 100] = ([45, 100, 100] : List UInt8).length) : ∃ a b : UInt8, isDB a = true ∧ isDB b = true ∧ l = [45, a, b] := by
  have hl : l.length = 3 := h1.symm.trans h2
  match l, hl with
  | [x0, x1, x2], _ =>
    have hf := rl_all [x0, x1, x2] [45, 100, 100] rfl h1
    have f0 := hf 0 (by simp) (by simp)
    have f1 := hf 1 (by simp) (by simp)
    have f2 := hf 2 (by simp) (by simp)
    simp [fitB] at f0 f1 f2
    subst f0
    exact ⟨_, _, f1, f2, rfl⟩
theorem ex_zE3 (l : List UInt8) (h1 : rl l [43, 100, 100, 58, 100, 100] = l.length) (h2 : rl l [43, 100, 100, 58, 100, 100] = ([43, 100, 100, 58, 100, 100] : List UInt8).length) : ∃ a b c d : UInt8, isDB a = true ∧ isDB b = true ∧ isDB c = true ∧ isDB d = true ∧ l = [43, a, b, 58, c, d] := by
  have hl : l.length = 6 := h1.symm.trans h2
  match l, hl with
  | [x0, x1, x2, x3, x4, x5], _ =>
    have hf := rl_all [x0, x1, x2, x3, x4, x5] [43, 100, 100, 58, 100, 100] rfl h1
    have f0 := hf 0 (by simp) (by simp)
    have f1 := hf 1 (by simp) (by simp)
    have f2 := hf 2 (by simp) (by simp)
    have f3 := hf 3 (by simp) (by simp)
    have f4 := hf 4 (by simp) (by simp)
    have f5 := hf 5 (by simp) (by simp)
    simp [fitB] at f0 f1 f2 f3 f4 f5
    subst f0
    subst f3
    exact ⟨_, _, _, _, f1, f2, f4, f5, rfl⟩
theorem ex_zE4 (l : List UInt8) (h1 : rl l [45, 100, 100, 58, 100, 100] = l.length) (h2 : rl l [45, 100, 100, 58, 100, 100] = ([45, 100, 100, 58, 100, 100] : List UInt8).length) : ∃ a b c d : UInt8, isDB a = true ∧ isDB b = true ∧ isDB c = true ∧ isDB d = true ∧ l = [45, a, b, 58, c, d] := by
  have hl : l.length = 6 := h1.symm.trans h2
  match l, hl with
  | [x0, x1, x2, x3, x4, x5], _ =>
    have hf := rl_all [x0, x1, x2, x3, x4, x5] [45, 100, 100, 58, 100, 100] rfl h1
    have f0 := hf 0 (by simp) (by simp)
    have f1 := hf 1 (by simp) (by simp)
    have f2 := hf 2 (by simp) (by simp)
    have f3 := hf 3 (by simp) (by simp)
    have f4 := hf 4 (by simp) (by simp)
    have f5 := hf 5 (by simp) (by simp)
    simp [fitB] at f0 f1 f2 f3 f4 f5
    subst f0
    subst f3
    exact ⟨_, _, _, _, f1, f2, f4, f5, rfl⟩
theorem ex_zP3 (l : List UInt8) (h1 : rl l [43, 100, 100, 100, 100] = l.length) (h2 : rl l [43, 100, 100, 100, 100] = ([43, 100, 100, 100, 100] : List UInt8).length) : ∃ a b c d : UInt8, isDB a = true ∧ isDB b = true ∧ isDB c = true ∧ isDB d = true ∧ l = [43, a, b, c, d] := by
  have hl : l.length = 5 := h1.symm.trans h2
  match l, hl with
  | [x0, x1, x2, x3, x4], _ =>
    have hf := rl_all [x0, x1, x2, x3, x4] [43, 100, 100, 100, 100] rfl h1
    have f0 := hf 0 (by simp) (by simp)
    have f1 := hf 1 (by simp) (by simp)
    have f2 := hf 2 (by simp) (by simp)
    have f3 := hf 3 (by simp) (by simp)
    have f4 := hf 4 (by simp) (by simp)
    simp [fitB] at f0 f1 f2 f3 f4
    subst f0
    exact ⟨_, _, _, _, f1, f2, f3, f4, rfl⟩
theorem ex_zP4 (l : List UInt8) (h1 : rl l [45, 100, 100, 100, 100] = l.length) (h2 : rl l [45, 100, 100, 100, 100] = ([45, 100, 100, 100, 100] : List UInt8).length) : ∃ a b c d : UInt8, isDB a = true ∧ isDB b = true ∧ isDB c = true ∧ isDB d = true ∧ l = [45, a, b, c, d] := by
  have hl : l.length = 5 := h1.symm.trans h2
  match l, hl with
  | [x0, x1, x2, x3, x4], _ =>
    have hf := rl_all [x0, x1, x2, x3, x4] [45, 100, 100, 100, 100] rfl h1
    have f0 := hf 0 (by simp) (by simp)
    have f1 := hf 1 (by simp) (by simp)
    have f2 := hf 2 (by simp) (by simp)
    have f3 := hf 3 (by simp) (by simp)
    have f4 := hf 4 (by simp) (by simp)
    simp [fitB] at f0 f1 f2 f3 f4
    subst f0
    exact ⟨_, _, _, _, f1, f2, f3, f4, rfl⟩
theorem timeE (tau : ByteArray) (h64 : tau.size ≤ 64) : (∃ n : Nat, n ≤ 64 ∧ fitL tau.data.toList (SS TE) 0 0 = (-1, n) ∧ Reads3 19 #[.string tau, .bool true] (tup (0, 32, (n : Int)))) ∨ ∃ k q : Nat, fitL tau.data.toList (SS TE) 0 0 = ((k : Int), q) ∧ ∀ (u : ByteArray) (A : List UInt8), u.data.toList = A ++ tau.data.toList → u.size ≤ 64 → Agr true tau u A.length := by
  have lt : tau.data.toList.length = tau.size := Array.length_toList
  rcases fitL_hit tau.data.toList (SS TE) 0 0 with h | ⟨k, hk, h, h1, h2⟩
  · refine .inl ⟨(fitL tau.data.toList (SS TE) 0 0).2, ?_, Prod.ext h rfl, fun w => readTime_noE tau h64 _ (Prod.ext h rfl) w⟩
    have := fitL_le tau.data.toList (SS TE) 0 0 (by omega)
    omega
  · refine .inr ⟨0 + k, 0, h, fun u A hu hs => ?_⟩
    match k, hk, h1, h2 with
    | 0, _, h1, h2 =>
      obtain ⟨a, b, ha, hb, e9⟩ := ex_tE0 tau.data.toList h1 h2
      exact agrE1 a b ha hb tau u A e9 (by rw [hu, e9]) hs
    | 1, _, h1, h2 =>
      obtain ⟨a, b, c, d, ha, hb, hc, hd, e9⟩ := ex_tE1 tau.data.toList h1 h2
      exact agrE2 a b c d ha hb hc hd tau u A e9 (by rw [hu, e9]) hs
    | 2, _, h1, h2 =>
      obtain ⟨a, b, c, d, e, f, ha, hb, hc, hd, he, hf, e9⟩ := ex_tE2 tau.data.toList h1 h2
      exact agrE3 a b c d e f ha hb hc hd he hf tau u A e9 (by rw [hu, e9]) hs
theorem timeP (tau : ByteArray) (h64 : tau.size ≤ 64) : (∃ n : Nat, n ≤ 64 ∧ fitL tau.data.toList (SS TP) 0 0 = (-1, n) ∧ Reads3 19 #[.string tau, .bool false] (tup (0, 32, (n : Int)))) ∨ ∃ k q : Nat, fitL tau.data.toList (SS TP) 0 0 = ((k : Int), q) ∧ ∀ (u : ByteArray) (A : List UInt8), u.data.toList = A ++ tau.data.toList → u.size ≤ 64 → Agr false tau u A.length := by
  have lt : tau.data.toList.length = tau.size := Array.length_toList
  rcases fitL_hit tau.data.toList (SS TP) 0 0 with h | ⟨k, hk, h, h1, h2⟩
  · refine .inl ⟨(fitL tau.data.toList (SS TP) 0 0).2, ?_, Prod.ext h rfl, fun w => readTime_noP tau h64 _ (Prod.ext h rfl) w⟩
    have := fitL_le tau.data.toList (SS TP) 0 0 (by omega)
    omega
  · refine .inr ⟨0 + k, 0, h, fun u A hu hs => ?_⟩
    match k, hk, h1, h2 with
    | 0, _, h1, h2 =>
      obtain ⟨a, b, ha, hb, e9⟩ := ex_tE0 tau.data.toList h1 h2
      exact agrP1 a b ha hb tau u A e9 (by rw [hu, e9]) hs
    | 1, _, h1, h2 =>
      obtain ⟨a, b, c, d, ha, hb, hc, hd, e9⟩ := ex_tP1 tau.data.toList h1 h2
      exact agrP2 a b c d ha hb hc hd tau u A e9 (by rw [hu, e9]) hs
    | 2, _, h1, h2 =>
      obtain ⟨a, b, c, d, e, f, ha, hb, hc, hd, he, hf, e9⟩ := ex_tP2 tau.data.toList h1 h2
      exact agrP3 a b c d e f ha hb hc hd he hf tau u A e9 (by rw [hu, e9]) hs
/-- what both sides answer of a zone -/
def Zag (x : Bool) (zeta t : ByteArray) (z : Nat) : Prop := ∃ (o : Int) (ok : Bool) (pz : Nat), (-1000000 ≤ 60 * o ∧ 60 * o ≤ 1000000) ∧ pz ≤ 64 ∧
  Reads3 20 #[.string zeta, .bool x] (tup (if ok then (o, 0, 0) else (0, 33, (pz : Int)))) ∧ RdB 27 #[.string t, .int .i64 (z : Int)] (if ok then (60 * o, 0, true) else (0, ((z + pz : Nat) : Int), false))
theorem zag_Z (x : Bool) (zeta t : ByteArray) (B : List UInt8) (hz : zeta.data.toList = [90]) (ht : t.data.toList = B ++ [90]) : Zag x zeta t B.length := by
  have lt : t.data.toList.length = t.size := Array.length_toList
  have hl : B.length < t.size := by rw [← lt, ht]; simp
  have hb : t[B.length]'hl = 90 := by
    rw [← byte_at t B.length hl]
    simp [ht]
  refine ⟨0, true, 0, by omega, by omega, zn_Z x zeta hz, fun w => zone_Z t B.length hl hb w⟩
set_option maxHeartbeats 1000000 in
theorem zag_Ep1 (a b : UInt8) (ha : isDB a = true) (hb : isDB b = true) (zeta t : ByteArray) (B : List UInt8) (hz : zeta.data.toList = [43, a, b]) (ht : t.data.toList = B ++ [43, a, b]) (h64 : t.size ≤ 64) : Zag true zeta t B.length := by
  obtain ⟨hR, zs, g0, t0⟩ := znEp1 a b ha hb zeta hz
  have lt : t.data.toList.length = t.size := Array.length_toList
  have hl : B.length < t.size := by rw [← lt, ht]; simp
  have hb0 : t[B.length]'hl = 43 := by
    rw [← byte_at t B.length hl]
    simp [ht]
  have z58 : isDB 58 = false := by decide
  have na : ¬ a = 58 := fun e => by rw [e, z58] at ha; cases ha
  have nb : ¬ b = 58 := fun e => by rw [e, z58] at hb; cases hb
  have b0 := nm99 ha hb
  have hP : PT t.data.toList (B.length + 1) [B.length + 1] := by
    rw [ht]
    have gl : ∀ p, (B ++ [43, a, b])[B.length + p]? = ([43, a, b] : List UInt8)[p]? := get_app B _
    have sl : ∀ p, sub (B ++ [43, a, b]) (B.length + p) 2 = sub ([43, a, b] : List UInt8) p 2 := fun p => sub_app B _ p 2
    have ll : (B ++ [43, a, b]).length = B.length + 3 := by simp
    refine ⟨by omega, by rw [gl 1]; simp [na], by omega, by rw [sl]; simp [sub, ha, hb], ?_⟩
    show B.length + 1 + 2 = _
    omega
  have k0 : n2 t (B.length + 1) = nm [a, b] := n2_app ht 1
  have hK := fun w => zone_1 t h64 B.length hl 43 hb0 (by decide) (B.length + 1) hP (nm [a, b]) k0 b0 w
  unfold zoA at hK
  have s1 : sel3 1 3 3 0 ≠ zeta.size := by show (1 : Nat) ≠ zeta.size; omega
  by_cases hA : 23 < nm [a, b]
  · have er : rg zeta.size (sel3 1 3 3) (znB zeta 1 3) 2 0 = ((1 : Int), 1) := by
      rw [rg_no (k := 0) s1 (show decide (n2 zeta 1 ≤ 23) = false from decide_eq_false (by rw [t0]; omega))]
      rfl
    have e9 : znP zeta 1 3 = (0, 33, 1) := by
      unfold znP
      rw [er]
      rfl
    rw [e9] at hR
    simp only [if_pos hA] at hK
    exact ⟨0, false, 1, by omega, by omega, hR, hK⟩
  simp only [if_neg hA] at hK
  try simp only [if_neg (show ¬ 59 < 0 by decide)] at hK
  have er : rg zeta.size (sel3 1 3 3) (znB zeta 1 3) 2 0 = (-1, 1) := by
    rw [rg_yes (k := 0) s1 (show decide (n2 zeta 1 ≤ 23) = true from decide_eq_true (by rw [t0]; omega)), rg_end (k := 1) (show sel3 1 3 3 1 = zeta.size from zs.symm)]
  have eN : znN zeta 1 3 1 = 60 * (nm [a, b] : Int) := by
    show 60 * (n2 zeta 1 : Int) = _
    rw [t0]
  have e9 : znP zeta 1 3 = (60 * (nm [a, b] : Int), 0, 0) := by
    unfold znP
    rw [er, g0]
    show (if (some (43 : UInt8)) ≠ some 45 then (znN zeta 1 3 1, (0 : Int), (0 : Int)) else if znN zeta 1 3 1 = 0 then (0, 33, 0) else (-(znN zeta 1 3 1), 0, 0)) = _
    rw [if_pos (by decide), eN]
  rw [e9] at hR
  simp only [if_neg (show ¬ ((43 : UInt8) = 45) by decide)] at hK
  refine ⟨60 * (nm [a, b] : Int), true, 0, ⟨by omega, by omega⟩, by omega, hR, ?_⟩
  rw [show 3600 * (nm [a, b] : Int) + 60 * ((0 : Nat) : Int) = 60 * (60 * (nm [a, b] : Int)) by omega] at hK
  exact hK
set_option maxHeartbeats 1000000 in
theorem zag_Ep2 (a b c d : UInt8) (ha : isDB a = true) (hb : isDB b = true) (hc : isDB c = true) (hd : isDB d = true) (zeta t : ByteArray) (B : List UInt8) (hz : zeta.data.toList = [43, a, b, 58, c, d]) (ht : t.data.toList = B ++ [43, a, b, 58, c, d]) (h64 : t.size ≤ 64) : Zag true zeta t B.length := by
  obtain ⟨hR, zs, g0, t0, t1⟩ := znEp2 a b c d ha hb hc hd zeta hz
  have lt : t.data.toList.length = t.size := Array.length_toList
  have hl : B.length < t.size := by rw [← lt, ht]; simp
  have hb0 : t[B.length]'hl = 43 := by
    rw [← byte_at t B.length hl]
    simp [ht]
  have z58 : isDB 58 = false := by decide
  have na : ¬ a = 58 := fun e => by rw [e, z58] at ha; cases ha
  have nb : ¬ b = 58 := fun e => by rw [e, z58] at hb; cases hb
  have nc : ¬ c = 58 := fun e => by rw [e, z58] at hc; cases hc
  have nd : ¬ d = 58 := fun e => by rw [e, z58] at hd; cases hd
  have b0 := nm99 ha hb
  have b1 := nm99 hc hd
  have hP : PT t.data.toList (B.length + 1) [B.length + 1, B.length + 4] := by
    rw [ht]
    have gl : ∀ p, (B ++ [43, a, b, 58, c, d])[B.length + p]? = ([43, a, b, 58, c, d] : List UInt8)[p]? := get_app B _
    have sl : ∀ p, sub (B ++ [43, a, b, 58, c, d]) (B.length + p) 2 = sub ([43, a, b, 58, c, d] : List UInt8) p 2 := fun p => sub_app B _ p 2
    have ll : (B ++ [43, a, b, 58, c, d]).length = B.length + 6 := by simp
    refine ⟨by omega, by rw [gl 1]; simp [na], by omega, by rw [sl]; simp [sub, ha, hb, hc, hd], ?_⟩
    refine ⟨by omega, by rw [show B.length + 1 + 2 = B.length + 3 from rfl, gl 3]; simp [nc], by omega, by rw [sl]; simp [sub, ha, hb, hc, hd], ?_⟩
    show B.length + 4 + 2 = _
    omega
  have k0 : n2 t (B.length + 1) = nm [a, b] := n2_app ht 1
  have k1 : n2 t (B.length + 4) = nm [c, d] := n2_app ht 4
  have hK := fun w => zone_2 t h64 B.length hl 43 hb0 (by decide) (B.length + 1) (B.length + 4) hP (nm [a, b]) (nm [c, d]) k0 k1 b0 b1 w
  unfold zoA at hK
  have s1 : sel3 1 4 4 0 ≠ zeta.size := by show (1 : Nat) ≠ zeta.size; omega
  by_cases hA : 23 < nm [a, b]
  · have er : rg zeta.size (sel3 1 4 4) (znB zeta 1 4) 2 0 = ((1 : Int), 1) := by
      rw [rg_no (k := 0) s1 (show decide (n2 zeta 1 ≤ 23) = false from decide_eq_false (by rw [t0]; omega))]
      rfl
    have e9 : znP zeta 1 4 = (0, 33, 1) := by
      unfold znP
      rw [er]
      rfl
    rw [e9] at hR
    simp only [if_pos hA] at hK
    exact ⟨0, false, 1, by omega, by omega, hR, hK⟩
  simp only [if_neg hA] at hK
  have s2 : sel3 1 4 4 1 ≠ zeta.size := by show (4 : Nat) ≠ zeta.size; omega
  by_cases hB : 59 < nm [c, d]
  · have er : rg zeta.size (sel3 1 4 4) (znB zeta 1 4) 2 0 = ((4 : Int), 2) := by
      rw [rg_yes (k := 0) s1 (show decide (n2 zeta 1 ≤ 23) = true from decide_eq_true (by rw [t0]; omega)), rg_no (k := 1) s2 (show decide (n2 zeta 4 ≤ 59) = false from decide_eq_false (by rw [t1]; omega))]
      rfl
    have e9 : znP zeta 1 4 = (0, 33, 4) := by
      unfold znP
      rw [er]
      rfl
    rw [e9] at hR
    simp only [if_pos hB] at hK
    exact ⟨0, false, 4, by omega, by omega, hR, hK⟩
  simp only [if_neg hB] at hK
  have er : rg zeta.size (sel3 1 4 4) (znB zeta 1 4) 2 0 = (-1, 2) := by
    rw [rg_yes (k := 0) s1 (show decide (n2 zeta 1 ≤ 23) = true from decide_eq_true (by rw [t0]; omega)), rg_yes (k := 1) s2 (show decide (n2 zeta 4 ≤ 59) = true from decide_eq_true (by rw [t1]; omega))]
    rfl
  have eN : znN zeta 1 4 2 = 60 * (nm [a, b] : Int) + (nm [c, d] : Int) := by
    show 60 * (n2 zeta 1 : Int) + (n2 zeta 4 : Int) = _
    rw [t0, t1]
  have e9 : znP zeta 1 4 = (60 * (nm [a, b] : Int) + (nm [c, d] : Int), 0, 0) := by
    unfold znP
    rw [er, g0]
    show (if (some (43 : UInt8)) ≠ some 45 then (znN zeta 1 4 2, (0 : Int), (0 : Int)) else if znN zeta 1 4 2 = 0 then (0, 33, 0) else (-(znN zeta 1 4 2), 0, 0)) = _
    rw [if_pos (by decide), eN]
  rw [e9] at hR
  simp only [if_neg (show ¬ ((43 : UInt8) = 45) by decide)] at hK
  refine ⟨60 * (nm [a, b] : Int) + (nm [c, d] : Int), true, 0, ⟨by omega, by omega⟩, by omega, hR, ?_⟩
  rw [show 3600 * (nm [a, b] : Int) + 60 * (nm [c, d] : Int) = 60 * (60 * (nm [a, b] : Int) + (nm [c, d] : Int)) by omega] at hK
  exact hK
set_option maxHeartbeats 1000000 in
theorem zag_Em1 (a b : UInt8) (ha : isDB a = true) (hb : isDB b = true) (zeta t : ByteArray) (B : List UInt8) (hz : zeta.data.toList = [45, a, b]) (ht : t.data.toList = B ++ [45, a, b]) (h64 : t.size ≤ 64) : Zag true zeta t B.length := by
  obtain ⟨hR, zs, g0, t0⟩ := znEm1 a b ha hb zeta hz
  have lt : t.data.toList.length = t.size := Array.length_toList
  have hl : B.length < t.size := by rw [← lt, ht]; simp
  have hb0 : t[B.length]'hl = 45 := by
    rw [← byte_at t B.length hl]
    simp [ht]
  have z58 : isDB 58 = false := by decide
  have na : ¬ a = 58 := fun e => by rw [e, z58] at ha; cases ha
  have nb : ¬ b = 58 := fun e => by rw [e, z58] at hb; cases hb
  have b0 := nm99 ha hb
  have hP : PT t.data.toList (B.length + 1) [B.length + 1] := by
    rw [ht]
    have gl : ∀ p, (B ++ [45, a, b])[B.length + p]? = ([45, a, b] : List UInt8)[p]? := get_app B _
    have sl : ∀ p, sub (B ++ [45, a, b]) (B.length + p) 2 = sub ([45, a, b] : List UInt8) p 2 := fun p => sub_app B _ p 2
    have ll : (B ++ [45, a, b]).length = B.length + 3 := by simp
    refine ⟨by omega, by rw [gl 1]; simp [na], by omega, by rw [sl]; simp [sub, ha, hb], ?_⟩
    show B.length + 1 + 2 = _
    omega
  have k0 : n2 t (B.length + 1) = nm [a, b] := n2_app ht 1
  have hK := fun w => zone_1 t h64 B.length hl 45 hb0 (by decide) (B.length + 1) hP (nm [a, b]) k0 b0 w
  unfold zoA at hK
  have s1 : sel3 1 3 3 0 ≠ zeta.size := by show (1 : Nat) ≠ zeta.size; omega
  by_cases hA : 23 < nm [a, b]
  · have er : rg zeta.size (sel3 1 3 3) (znB zeta 1 3) 2 0 = ((1 : Int), 1) := by
      rw [rg_no (k := 0) s1 (show decide (n2 zeta 1 ≤ 23) = false from decide_eq_false (by rw [t0]; omega))]
      rfl
    have e9 : znP zeta 1 3 = (0, 33, 1) := by
      unfold znP
      rw [er]
      rfl
    rw [e9] at hR
    simp only [if_pos hA] at hK
    exact ⟨0, false, 1, by omega, by omega, hR, hK⟩
  simp only [if_neg hA] at hK
  try simp only [if_neg (show ¬ 59 < 0 by decide)] at hK
  have er : rg zeta.size (sel3 1 3 3) (znB zeta 1 3) 2 0 = (-1, 1) := by
    rw [rg_yes (k := 0) s1 (show decide (n2 zeta 1 ≤ 23) = true from decide_eq_true (by rw [t0]; omega)), rg_end (k := 1) (show sel3 1 3 3 1 = zeta.size from zs.symm)]
  have eN : znN zeta 1 3 1 = 60 * (nm [a, b] : Int) := by
    show 60 * (n2 zeta 1 : Int) = _
    rw [t0]
  try simp only [if_true] at hK
  by_cases hn : 60 * (nm [a, b] : Int) = 0
  · have e9 : znP zeta 1 3 = (0, 33, 0) := by
      unfold znP
      rw [er, g0]
      show (if (some (45 : UInt8)) ≠ some 45 then (znN zeta 1 3 1, (0 : Int), (0 : Int)) else if znN zeta 1 3 1 = 0 then (0, 33, 0) else _) = _
      rw [if_neg (by decide), if_pos (by rw [eN]; exact hn)]
    rw [e9] at hR
    simp only [if_pos (show 3600 * (nm [a, b] : Int) + 60 * ((0 : Nat) : Int) = 0 by omega)] at hK
    exact ⟨0, false, 0, by omega, by omega, hR, hK⟩
  · have e9 : znP zeta 1 3 = (-(60 * (nm [a, b] : Int)), 0, 0) := by
      unfold znP
      rw [er, g0]
      show (if (some (45 : UInt8)) ≠ some 45 then (znN zeta 1 3 1, (0 : Int), (0 : Int)) else if znN zeta 1 3 1 = 0 then (0, 33, 0) else (-(znN zeta 1 3 1), 0, 0)) = _
      rw [if_neg (by decide), if_neg (by rw [eN]; exact hn), eN]
    rw [e9] at hR
    simp only [if_neg (show ¬ 3600 * (nm [a, b] : Int) + 60 * ((0 : Nat) : Int) = 0 by omega)] at hK
    refine ⟨-(60 * (nm [a, b] : Int)), true, 0, ⟨by omega, by omega⟩, by omega, hR, ?_⟩
    rw [show -(3600 * (nm [a, b] : Int) + 60 * ((0 : Nat) : Int)) = 60 * (-(60 * (nm [a, b] : Int))) by omega] at hK
    exact hK
set_option maxHeartbeats 1000000 in
theorem zag_Em2 (a b c d : UInt8) (ha : isDB a = true) (hb : isDB b = true) (hc : isDB c = true) (hd : isDB d = true) (zeta t : ByteArray) (B : List UInt8) (hz : zeta.data.toList = [45, a, b, 58, c, d]) (ht : t.data.toList = B ++ [45, a, b, 58, c, d]) (h64 : t.size ≤ 64) : Zag true zeta t B.length := by
  obtain ⟨hR, zs, g0, t0, t1⟩ := znEm2 a b c d ha hb hc hd zeta hz
  have lt : t.data.toList.length = t.size := Array.length_toList
  have hl : B.length < t.size := by rw [← lt, ht]; simp
  have hb0 : t[B.length]'hl = 45 := by
    rw [← byte_at t B.length hl]
    simp [ht]
  have z58 : isDB 58 = false := by decide
  have na : ¬ a = 58 := fun e => by rw [e, z58] at ha; cases ha
  have nb : ¬ b = 58 := fun e => by rw [e, z58] at hb; cases hb
  have nc : ¬ c = 58 := fun e => by rw [e, z58] at hc; cases hc
  have nd : ¬ d = 58 := fun e => by rw [e, z58] at hd; cases hd
  have b0 := nm99 ha hb
  have b1 := nm99 hc hd
  have hP : PT t.data.toList (B.length + 1) [B.length + 1, B.length + 4] := by
    rw [ht]
    have gl : ∀ p, (B ++ [45, a, b, 58, c, d])[B.length + p]? = ([45, a, b, 58, c, d] : List UInt8)[p]? := get_app B _
    have sl : ∀ p, sub (B ++ [45, a, b, 58, c, d]) (B.length + p) 2 = sub ([45, a, b, 58, c, d] : List UInt8) p 2 := fun p => sub_app B _ p 2
    have ll : (B ++ [45, a, b, 58, c, d]).length = B.length + 6 := by simp
    refine ⟨by omega, by rw [gl 1]; simp [na], by omega, by rw [sl]; simp [sub, ha, hb, hc, hd], ?_⟩
    refine ⟨by omega, by rw [show B.length + 1 + 2 = B.length + 3 from rfl, gl 3]; simp [nc], by omega, by rw [sl]; simp [sub, ha, hb, hc, hd], ?_⟩
    show B.length + 4 + 2 = _
    omega
  have k0 : n2 t (B.length + 1) = nm [a, b] := n2_app ht 1
  have k1 : n2 t (B.length + 4) = nm [c, d] := n2_app ht 4
  have hK := fun w => zone_2 t h64 B.length hl 45 hb0 (by decide) (B.length + 1) (B.length + 4) hP (nm [a, b]) (nm [c, d]) k0 k1 b0 b1 w
  unfold zoA at hK
  have s1 : sel3 1 4 4 0 ≠ zeta.size := by show (1 : Nat) ≠ zeta.size; omega
  by_cases hA : 23 < nm [a, b]
  · have er : rg zeta.size (sel3 1 4 4) (znB zeta 1 4) 2 0 = ((1 : Int), 1) := by
      rw [rg_no (k := 0) s1 (show decide (n2 zeta 1 ≤ 23) = false from decide_eq_false (by rw [t0]; omega))]
      rfl
    have e9 : znP zeta 1 4 = (0, 33, 1) := by
      unfold znP
      rw [er]
      rfl
    rw [e9] at hR
    simp only [if_pos hA] at hK
    exact ⟨0, false, 1, by omega, by omega, hR, hK⟩
  simp only [if_neg hA] at hK
  have s2 : sel3 1 4 4 1 ≠ zeta.size := by show (4 : Nat) ≠ zeta.size; omega
  by_cases hB : 59 < nm [c, d]
  · have er : rg zeta.size (sel3 1 4 4) (znB zeta 1 4) 2 0 = ((4 : Int), 2) := by
      rw [rg_yes (k := 0) s1 (show decide (n2 zeta 1 ≤ 23) = true from decide_eq_true (by rw [t0]; omega)), rg_no (k := 1) s2 (show decide (n2 zeta 4 ≤ 59) = false from decide_eq_false (by rw [t1]; omega))]
      rfl
    have e9 : znP zeta 1 4 = (0, 33, 4) := by
      unfold znP
      rw [er]
      rfl
    rw [e9] at hR
    simp only [if_pos hB] at hK
    exact ⟨0, false, 4, by omega, by omega, hR, hK⟩
  simp only [if_neg hB] at hK
  have er : rg zeta.size (sel3 1 4 4) (znB zeta 1 4) 2 0 = (-1, 2) := by
    rw [rg_yes (k := 0) s1 (show decide (n2 zeta 1 ≤ 23) = true from decide_eq_true (by rw [t0]; omega)), rg_yes (k := 1) s2 (show decide (n2 zeta 4 ≤ 59) = true from decide_eq_true (by rw [t1]; omega))]
    rfl
  have eN : znN zeta 1 4 2 = 60 * (nm [a, b] : Int) + (nm [c, d] : Int) := by
    show 60 * (n2 zeta 1 : Int) + (n2 zeta 4 : Int) = _
    rw [t0, t1]
  try simp only [if_true] at hK
  by_cases hn : 60 * (nm [a, b] : Int) + (nm [c, d] : Int) = 0
  · have e9 : znP zeta 1 4 = (0, 33, 0) := by
      unfold znP
      rw [er, g0]
      show (if (some (45 : UInt8)) ≠ some 45 then (znN zeta 1 4 2, (0 : Int), (0 : Int)) else if znN zeta 1 4 2 = 0 then (0, 33, 0) else _) = _
      rw [if_neg (by decide), if_pos (by rw [eN]; exact hn)]
    rw [e9] at hR
    simp only [if_pos (show 3600 * (nm [a, b] : Int) + 60 * (nm [c, d] : Int) = 0 by omega)] at hK
    exact ⟨0, false, 0, by omega, by omega, hR, hK⟩
  · have e9 : znP zeta 1 4 = (-(60 * (nm [a, b] : Int) + (nm [c, d] : Int)), 0, 0) := by
      unfold znP
      rw [er, g0]
      show (if (some (45 : UInt8)) ≠ some 45 then (znN zeta 1 4 2, (0 : Int), (0 : Int)) else if znN zeta 1 4 2 = 0 then (0, 33, 0) else (-(znN zeta 1 4 2), 0, 0)) = _
      rw [if_neg (by decide), if_neg (by rw [eN]; exact hn), eN]
    rw [e9] at hR
    simp only [if_neg (show ¬ 3600 * (nm [a, b] : Int) + 60 * (nm [c, d] : Int) = 0 by omega)] at hK
    refine ⟨-(60 * (nm [a, b] : Int) + (nm [c, d] : Int)), true, 0, ⟨by omega, by omega⟩, by omega, hR, ?_⟩
    rw [show -(3600 * (nm [a, b] : Int) + 60 * (nm [c, d] : Int)) = 60 * (-(60 * (nm [a, b] : Int) + (nm [c, d] : Int))) by omega] at hK
    exact hK
set_option maxHeartbeats 1000000 in
theorem zag_Pp1 (a b : UInt8) (ha : isDB a = true) (hb : isDB b = true) (zeta t : ByteArray) (B : List UInt8) (hz : zeta.data.toList = [43, a, b]) (ht : t.data.toList = B ++ [43, a, b]) (h64 : t.size ≤ 64) : Zag false zeta t B.length := by
  obtain ⟨hR, zs, g0, t0⟩ := znPp1 a b ha hb zeta hz
  have lt : t.data.toList.length = t.size := Array.length_toList
  have hl : B.length < t.size := by rw [← lt, ht]; simp
  have hb0 : t[B.length]'hl = 43 := by
    rw [← byte_at t B.length hl]
    simp [ht]
  have z58 : isDB 58 = false := by decide
  have na : ¬ a = 58 := fun e => by rw [e, z58] at ha; cases ha
  have nb : ¬ b = 58 := fun e => by rw [e, z58] at hb; cases hb
  have b0 := nm99 ha hb
  have hP : PT t.data.toList (B.length + 1) [B.length + 1] := by
    rw [ht]
    have gl : ∀ p, (B ++ [43, a, b])[B.length + p]? = ([43, a, b] : List UInt8)[p]? := get_app B _
    have sl : ∀ p, sub (B ++ [43, a, b]) (B.length + p) 2 = sub ([43, a, b] : List UInt8) p 2 := fun p => sub_app B _ p 2
    have ll : (B ++ [43, a, b]).length = B.length + 3 := by simp
    refine ⟨by omega, by rw [gl 1]; simp [na], by omega, by rw [sl]; simp [sub, ha, hb], ?_⟩
    show B.length + 1 + 2 = _
    omega
  have k0 : n2 t (B.length + 1) = nm [a, b] := n2_app ht 1
  have hK := fun w => zone_1 t h64 B.length hl 43 hb0 (by decide) (B.length + 1) hP (nm [a, b]) k0 b0 w
  unfold zoA at hK
  have s1 : sel3 1 3 3 0 ≠ zeta.size := by show (1 : Nat) ≠ zeta.size; omega
  by_cases hA : 23 < nm [a, b]
  · have er : rg zeta.size (sel3 1 3 3) (znB zeta 1 3) 2 0 = ((1 : Int), 1) := by
      rw [rg_no (k := 0) s1 (show decide (n2 zeta 1 ≤ 23) = false from decide_eq_false (by rw [t0]; omega))]
      rfl
    have e9 : znP zeta 1 3 = (0, 33, 1) := by
      unfold znP
      rw [er]
      rfl
    rw [e9] at hR
    simp only [if_pos hA] at hK
    exact ⟨0, false, 1, by omega, by omega, hR, hK⟩
  simp only [if_neg hA] at hK
  try simp only [if_neg (show ¬ 59 < 0 by decide)] at hK
  have er : rg zeta.size (sel3 1 3 3) (znB zeta 1 3) 2 0 = (-1, 1) := by
    rw [rg_yes (k := 0) s1 (show decide (n2 zeta 1 ≤ 23) = true from decide_eq_true (by rw [t0]; omega)), rg_end (k := 1) (show sel3 1 3 3 1 = zeta.size from zs.symm)]
  have eN : znN zeta 1 3 1 = 60 * (nm [a, b] : Int) := by
    show 60 * (n2 zeta 1 : Int) = _
    rw [t0]
  have e9 : znP zeta 1 3 = (60 * (nm [a, b] : Int), 0, 0) := by
    unfold znP
    rw [er, g0]
    show (if (some (43 : UInt8)) ≠ some 45 then (znN zeta 1 3 1, (0 : Int), (0 : Int)) else if znN zeta 1 3 1 = 0 then (0, 33, 0) else (-(znN zeta 1 3 1), 0, 0)) = _
    rw [if_pos (by decide), eN]
  rw [e9] at hR
  simp only [if_neg (show ¬ ((43 : UInt8) = 45) by decide)] at hK
  refine ⟨60 * (nm [a, b] : Int), true, 0, ⟨by omega, by omega⟩, by omega, hR, ?_⟩
  rw [show 3600 * (nm [a, b] : Int) + 60 * ((0 : Nat) : Int) = 60 * (60 * (nm [a, b] : Int)) by omega] at hK
  exact hK
set_option maxHeartbeats 1000000 in
theorem zag_Pp2 (a b c d : UInt8) (ha : isDB a = true) (hb : isDB b = true) (hc : isDB c = true) (hd : isDB d = true) (zeta t : ByteArray) (B : List UInt8) (hz : zeta.data.toList = [43, a, b, c, d]) (ht : t.data.toList = B ++ [43, a, b, c, d]) (h64 : t.size ≤ 64) : Zag false zeta t B.length := by
  obtain ⟨hR, zs, g0, t0, t1⟩ := znPp2 a b c d ha hb hc hd zeta hz
  have lt : t.data.toList.length = t.size := Array.length_toList
  have hl : B.length < t.size := by rw [← lt, ht]; simp
  have hb0 : t[B.length]'hl = 43 := by
    rw [← byte_at t B.length hl]
    simp [ht]
  have z58 : isDB 58 = false := by decide
  have na : ¬ a = 58 := fun e => by rw [e, z58] at ha; cases ha
  have nb : ¬ b = 58 := fun e => by rw [e, z58] at hb; cases hb
  have nc : ¬ c = 58 := fun e => by rw [e, z58] at hc; cases hc
  have nd : ¬ d = 58 := fun e => by rw [e, z58] at hd; cases hd
  have b0 := nm99 ha hb
  have b1 := nm99 hc hd
  have hP : PT t.data.toList (B.length + 1) [B.length + 1, B.length + 3] := by
    rw [ht]
    have gl : ∀ p, (B ++ [43, a, b, c, d])[B.length + p]? = ([43, a, b, c, d] : List UInt8)[p]? := get_app B _
    have sl : ∀ p, sub (B ++ [43, a, b, c, d]) (B.length + p) 2 = sub ([43, a, b, c, d] : List UInt8) p 2 := fun p => sub_app B _ p 2
    have ll : (B ++ [43, a, b, c, d]).length = B.length + 5 := by simp
    refine ⟨by omega, by rw [gl 1]; simp [na], by omega, by rw [sl]; simp [sub, ha, hb, hc, hd], ?_⟩
    refine ⟨by omega, by rw [show B.length + 1 + 2 = B.length + 3 from rfl, gl 3]; simp [nc], by omega, by rw [sl]; simp [sub, ha, hb, hc, hd], ?_⟩
    show B.length + 3 + 2 = _
    omega
  have k0 : n2 t (B.length + 1) = nm [a, b] := n2_app ht 1
  have k1 : n2 t (B.length + 3) = nm [c, d] := n2_app ht 3
  have hK := fun w => zone_2 t h64 B.length hl 43 hb0 (by decide) (B.length + 1) (B.length + 3) hP (nm [a, b]) (nm [c, d]) k0 k1 b0 b1 w
  unfold zoA at hK
  have s1 : sel3 1 3 3 0 ≠ zeta.size := by show (1 : Nat) ≠ zeta.size; omega
  by_cases hA : 23 < nm [a, b]
  · have er : rg zeta.size (sel3 1 3 3) (znB zeta 1 3) 2 0 = ((1 : Int), 1) := by
      rw [rg_no (k := 0) s1 (show decide (n2 zeta 1 ≤ 23) = false from decide_eq_false (by rw [t0]; omega))]
      rfl
    have e9 : znP zeta 1 3 = (0, 33, 1) := by
      unfold znP
      rw [er]
      rfl
    rw [e9] at hR
    simp only [if_pos hA] at hK
    exact ⟨0, false, 1, by omega, by omega, hR, hK⟩
  simp only [if_neg hA] at hK
  have s2 : sel3 1 3 3 1 ≠ zeta.size := by show (3 : Nat) ≠ zeta.size; omega
  by_cases hB : 59 < nm [c, d]
  · have er : rg zeta.size (sel3 1 3 3) (znB zeta 1 3) 2 0 = ((3 : Int), 2) := by
      rw [rg_yes (k := 0) s1 (show decide (n2 zeta 1 ≤ 23) = true from decide_eq_true (by rw [t0]; omega)), rg_no (k := 1) s2 (show decide (n2 zeta 3 ≤ 59) = false from decide_eq_false (by rw [t1]; omega))]
      rfl
    have e9 : znP zeta 1 3 = (0, 33, 3) := by
      unfold znP
      rw [er]
      rfl
    rw [e9] at hR
    simp only [if_pos hB] at hK
    exact ⟨0, false, 3, by omega, by omega, hR, hK⟩
  simp only [if_neg hB] at hK
  have er : rg zeta.size (sel3 1 3 3) (znB zeta 1 3) 2 0 = (-1, 2) := by
    rw [rg_yes (k := 0) s1 (show decide (n2 zeta 1 ≤ 23) = true from decide_eq_true (by rw [t0]; omega)), rg_yes (k := 1) s2 (show decide (n2 zeta 3 ≤ 59) = true from decide_eq_true (by rw [t1]; omega))]
    rfl
  have eN : znN zeta 1 3 2 = 60 * (nm [a, b] : Int) + (nm [c, d] : Int) := by
    show 60 * (n2 zeta 1 : Int) + (n2 zeta 3 : Int) = _
    rw [t0, t1]
  have e9 : znP zeta 1 3 = (60 * (nm [a, b] : Int) + (nm [c, d] : Int), 0, 0) := by
    unfold znP
    rw [er, g0]
    show (if (some (43 : UInt8)) ≠ some 45 then (znN zeta 1 3 2, (0 : Int), (0 : Int)) else if znN zeta 1 3 2 = 0 then (0, 33, 0) else (-(znN zeta 1 3 2), 0, 0)) = _
    rw [if_pos (by decide), eN]
  rw [e9] at hR
  simp only [if_neg (show ¬ ((43 : UInt8) = 45) by decide)] at hK
  refine ⟨60 * (nm [a, b] : Int) + (nm [c, d] : Int), true, 0, ⟨by omega, by omega⟩, by omega, hR, ?_⟩
  rw [show 3600 * (nm [a, b] : Int) + 60 * (nm [c, d] : Int) = 60 * (60 * (nm [a, b] : Int) + (nm [c, d] : Int)) by omega] at hK
  exact hK
set_option maxHeartbeats 1000000 in
theorem zag_Pm1 (a b : UInt8) (ha : isDB a = true) (hb : isDB b = true) (zeta t : ByteArray) (B : List UInt8) (hz : zeta.data.toList = [45, a, b]) (ht : t.data.toList = B ++ [45, a, b]) (h64 : t.size ≤ 64) : Zag false zeta t B.length := by
  obtain ⟨hR, zs, g0, t0⟩ := znPm1 a b ha hb zeta hz
  have lt : t.data.toList.length = t.size := Array.length_toList
  have hl : B.length < t.size := by rw [← lt, ht]; simp
  have hb0 : t[B.length]'hl = 45 := by
    rw [← byte_at t B.length hl]
    simp [ht]
  have z58 : isDB 58 = false := by decide
  have na : ¬ a = 58 := fun e => by rw [e, z58] at ha; cases ha
  have nb : ¬ b = 58 := fun e => by rw [e, z58] at hb; cases hb
  have b0 := nm99 ha hb
  have hP : PT t.data.toList (B.length + 1) [B.length + 1] := by
    rw [ht]
    have gl : ∀ p, (B ++ [45, a, b])[B.length + p]? = ([45, a, b] : List UInt8)[p]? := get_app B _
    have sl : ∀ p, sub (B ++ [45, a, b]) (B.length + p) 2 = sub ([45, a, b] : List UInt8) p 2 := fun p => sub_app B _ p 2
    have ll : (B ++ [45, a, b]).length = B.length + 3 := by simp
    refine ⟨by omega, by rw [gl 1]; simp [na], by omega, by rw [sl]; simp [sub, ha, hb], ?_⟩
    show B.length + 1 + 2 = _
    omega
  have k0 : n2 t (B.length + 1) = nm [a, b] := n2_app ht 1
  have hK := fun w => zone_1 t h64 B.length hl 45 hb0 (by decide) (B.length + 1) hP (nm [a, b]) k0 b0 w
  unfold zoA at hK
  have s1 : sel3 1 3 3 0 ≠ zeta.size := by show (1 : Nat) ≠ zeta.size; omega
  by_cases hA : 23 < nm [a, b]
  · have er : rg zeta.size (sel3 1 3 3) (znB zeta 1 3) 2 0 = ((1 : Int), 1) := by
      rw [rg_no (k := 0) s1 (show decide (n2 zeta 1 ≤ 23) = false from decide_eq_false (by rw [t0]; omega))]
      rfl
    have e9 : znP zeta 1 3 = (0, 33, 1) := by
      unfold znP
      rw [er]
      rfl
    rw [e9] at hR
    simp only [if_pos hA] at hK
    exact ⟨0, false, 1, by omega, by omega, hR, hK⟩
  simp only [if_neg hA] at hK
  try simp only [if_neg (show ¬ 59 < 0 by decide)] at hK
  have er : rg zeta.size (sel3 1 3 3) (znB zeta 1 3) 2 0 = (-1, 1) := by
    rw [rg_yes (k := 0) s1 (show decide (n2 zeta 1 ≤ 23) = true from decide_eq_true (by rw [t0]; omega)), rg_end (k := 1) (show sel3 1 3 3 1 = zeta.size from zs.symm)]
  have eN : znN zeta 1 3 1 = 60 * (nm [a, b] : Int) := by
    show 60 * (n2 zeta 1 : Int) = _
    rw [t0]
  try simp only [if_true] at hK
  by_cases hn : 60 * (nm [a, b] : Int) = 0
  · have e9 : znP zeta 1 3 = (0, 33, 0) := by
      unfold znP
      rw [er, g0]
      show (if (some (45 : UInt8)) ≠ some 45 then (znN zeta 1 3 1, (0 : Int), (0 : Int)) else if znN zeta 1 3 1 = 0 then (0, 33, 0) else _) = _
      rw [if_neg (by decide), if_pos (by rw [eN]; exact hn)]
    rw [e9] at hR
    simp only [if_pos (show 3600 * (nm [a, b] : Int) + 60 * ((0 : Nat) : Int) = 0 by omega)] at hK
    exact ⟨0, false, 0, by omega, by omega, hR, hK⟩
  · have e9 : znP zeta 1 3 = (-(60 * (nm [a, b] : Int)), 0, 0) := by
      unfold znP
      rw [er, g0]
      show (if (some (45 : UInt8)) ≠ some 45 then (znN zeta 1 3 1, (0 : Int), (0 : Int)) else if znN zeta 1 3 1 = 0 then (0, 33, 0) else (-(znN zeta 1 3 1), 0, 0)) = _
      rw [if_neg (by decide), if_neg (by rw [eN]; exact hn), eN]
    rw [e9] at hR
    simp only [if_neg (show ¬ 3600 * (nm [a, b] : Int) + 60 * ((0 : Nat) : Int) = 0 by omega)] at hK
    refine ⟨-(60 * (nm [a, b] : Int)), true, 0, ⟨by omega, by omega⟩, by omega, hR, ?_⟩
    rw [show -(3600 * (nm [a, b] : Int) + 60 * ((0 : Nat) : Int)) = 60 * (-(60 * (nm [a, b] : Int))) by omega] at hK
    exact hK
set_option maxHeartbeats 1000000 in
theorem zag_Pm2 (a b c d : UInt8) (ha : isDB a = true) (hb : isDB b = true) (hc : isDB c = true) (hd : isDB d = true) (zeta t : ByteArray) (B : List UInt8) (hz : zeta.data.toList = [45, a, b, c, d]) (ht : t.data.toList = B ++ [45, a, b, c, d]) (h64 : t.size ≤ 64) : Zag false zeta t B.length := by
  obtain ⟨hR, zs, g0, t0, t1⟩ := znPm2 a b c d ha hb hc hd zeta hz
  have lt : t.data.toList.length = t.size := Array.length_toList
  have hl : B.length < t.size := by rw [← lt, ht]; simp
  have hb0 : t[B.length]'hl = 45 := by
    rw [← byte_at t B.length hl]
    simp [ht]
  have z58 : isDB 58 = false := by decide
  have na : ¬ a = 58 := fun e => by rw [e, z58] at ha; cases ha
  have nb : ¬ b = 58 := fun e => by rw [e, z58] at hb; cases hb
  have nc : ¬ c = 58 := fun e => by rw [e, z58] at hc; cases hc
  have nd : ¬ d = 58 := fun e => by rw [e, z58] at hd; cases hd
  have b0 := nm99 ha hb
  have b1 := nm99 hc hd
  have hP : PT t.data.toList (B.length + 1) [B.length + 1, B.length + 3] := by
    rw [ht]
    have gl : ∀ p, (B ++ [45, a, b, c, d])[B.length + p]? = ([45, a, b, c, d] : List UInt8)[p]? := get_app B _
    have sl : ∀ p, sub (B ++ [45, a, b, c, d]) (B.length + p) 2 = sub ([45, a, b, c, d] : List UInt8) p 2 := fun p => sub_app B _ p 2
    have ll : (B ++ [45, a, b, c, d]).length = B.length + 5 := by simp
    refine ⟨by omega, by rw [gl 1]; simp [na], by omega, by rw [sl]; simp [sub, ha, hb, hc, hd], ?_⟩
    refine ⟨by omega, by rw [show B.length + 1 + 2 = B.length + 3 from rfl, gl 3]; simp [nc], by omega, by rw [sl]; simp [sub, ha, hb, hc, hd], ?_⟩
    show B.length + 3 + 2 = _
    omega
  have k0 : n2 t (B.length + 1) = nm [a, b] := n2_app ht 1
  have k1 : n2 t (B.length + 3) = nm [c, d] := n2_app ht 3
  have hK := fun w => zone_2 t h64 B.length hl 45 hb0 (by decide) (B.length + 1) (B.length + 3) hP (nm [a, b]) (nm [c, d]) k0 k1 b0 b1 w
  unfold zoA at hK
  have s1 : sel3 1 3 3 0 ≠ zeta.size := by show (1 : Nat) ≠ zeta.size; omega
  by_cases hA : 23 < nm [a, b]
  · have er : rg zeta.size (sel3 1 3 3) (znB zeta 1 3) 2 0 = ((1 : Int), 1) := by
      rw [rg_no (k := 0) s1 (show decide (n2 zeta 1 ≤ 23) = false from decide_eq_false (by rw [t0]; omega))]
      rfl
    have e9 : znP zeta 1 3 = (0, 33, 1) := by
      unfold znP
      rw [er]
      rfl
    rw [e9] at hR
    simp only [if_pos hA] at hK
    exact ⟨0, false, 1, by omega, by omega, hR, hK⟩
  simp only [if_neg hA] at hK
  have s2 : sel3 1 3 3 1 ≠ zeta.size := by show (3 : Nat) ≠ zeta.size; omega
  by_cases hB : 59 < nm [c, d]
  · have er : rg zeta.size (sel3 1 3 3) (znB zeta 1 3) 2 0 = ((3 : Int), 2) := by
      rw [rg_yes (k := 0) s1 (show decide (n2 zeta 1 ≤ 23) = true from decide_eq_true (by rw [t0]; omega)), rg_no (k := 1) s2 (show decide (n2 zeta 3 ≤ 59) = false from decide_eq_false (by rw [t1]; omega))]
      rfl
    have e9 : znP zeta 1 3 = (0, 33, 3) := by
      unfold znP
      rw [er]
      rfl
    rw [e9] at hR
    simp only [if_pos hB] at hK
    exact ⟨0, false, 3, by omega, by omega, hR, hK⟩
  simp only [if_neg hB] at hK
  have er : rg zeta.size (sel3 1 3 3) (znB zeta 1 3) 2 0 = (-1, 2) := by
    rw [rg_yes (k := 0) s1 (show decide (n2 zeta 1 ≤ 23) = true from decide_eq_true (by rw [t0]; omega)), rg_yes (k := 1) s2 (show decide (n2 zeta 3 ≤ 59) = true from decide_eq_true (by rw [t1]; omega))]
    rfl
  have eN : znN zeta 1 3 2 = 60 * (nm [a, b] : Int) + (nm [c, d] : Int) := by
    show 60 * (n2 zeta 1 : Int) + (n2 zeta 3 : Int) = _
    rw [t0, t1]
  try simp only [if_true] at hK
  by_cases hn : 60 * (nm [a, b] : Int) + (nm [c, d] : Int) = 0
  · have e9 : znP zeta 1 3 = (0, 33, 0) := by
      unfold znP
      rw [er, g0]
      show (if (some (45 : UInt8)) ≠ some 45 then (znN zeta 1 3 2, (0 : Int), (0 : Int)) else if znN zeta 1 3 2 = 0 then (0, 33, 0) else _) = _
      rw [if_neg (by decide), if_pos (by rw [eN]; exact hn)]
    rw [e9] at hR
    simp only [if_pos (show 3600 * (nm [a, b] : Int) + 60 * (nm [c, d] : Int) = 0 by omega)] at hK
    exact ⟨0, false, 0, by omega, by omega, hR, hK⟩
  · have e9 : znP zeta 1 3 = (-(60 * (nm [a, b] : Int) + (nm [c, d] : Int)), 0, 0) := by
      unfold znP
      rw [er, g0]
      show (if (some (45 : UInt8)) ≠ some 45 then (znN zeta 1 3 2, (0 : Int), (0 : Int)) else if znN zeta 1 3 2 = 0 then (0, 33, 0) else (-(znN zeta 1 3 2), 0, 0)) = _
      rw [if_neg (by decide), if_neg (by rw [eN]; exact hn), eN]
    rw [e9] at hR
    simp only [if_neg (show ¬ 3600 * (nm [a, b] : Int) + 60 * (nm [c, d] : Int) = 0 by omega)] at hK
    refine ⟨-(60 * (nm [a, b] : Int) + (nm [c, d] : Int)), true, 0, ⟨by omega, by omega⟩, by omega, hR, ?_⟩
    rw [show -(3600 * (nm [a, b] : Int) + 60 * (nm [c, d] : Int)) = 60 * (-(60 * (nm [a, b] : Int) + (nm [c, d] : Int))) by omega] at hK
    exact hK
theorem zoneAE (zeta : ByteArray) (h64 : zeta.size ≤ 64) : (∃ n : Nat, n ≤ 64 ∧ fitL zeta.data.toList (SS ZE) 0 0 = (-1, n) ∧ Reads3 20 #[.string zeta, .bool true] (tup (0, 33, (n : Int)))) ∨ ∃ k q : Nat, fitL zeta.data.toList (SS ZE) 0 0 = ((k : Int), q) ∧ ∀ (t : ByteArray) (B : List UInt8), t.data.toList = B ++ zeta.data.toList → t.size ≤ 64 → Zag true zeta t B.length := by
  have lt : zeta.data.toList.length = zeta.size := Array.length_toList
  rcases fitL_hit zeta.data.toList (SS ZE) 0 0 with h | ⟨k, hk, h, h1, h2⟩
  · refine .inl ⟨(fitL zeta.data.toList (SS ZE) 0 0).2, ?_, Prod.ext h rfl, fun w => readZone_noE zeta h64 _ (Prod.ext h rfl) w⟩
    have := fitL_le zeta.data.toList (SS ZE) 0 0 (by omega)
    omega
  · refine .inr ⟨0 + k, 0, h, fun t B hu hs => ?_⟩
    match k, hk, h1, h2 with
    | 0, _, h1, h2 =>
      have e9 := ex_zE0 zeta.data.toList h1 h2
      exact zag_Z true zeta t B e9 (by rw [hu, e9])
    | 1, _, h1, h2 =>
      obtain ⟨a, b, ha, hb, e9⟩ := ex_zE1 zeta.data.toList h1 h2
      exact zag_Ep1 a b ha hb zeta t B e9 (by rw [hu, e9]) hs
    | 2, _, h1, h2 =>
      obtain ⟨a, b, ha, hb, e9⟩ := ex_zE2 zeta.data.toList h1 h2
      exact zag_Em1 a b ha hb zeta t B e9 (by rw [hu, e9]) hs
    | 3, _, h1, h2 =>
      obtain ⟨a, b, c, d, ha, hb, hc, hd, e9⟩ := ex_zE3 zeta.data.toList h1 h2
      exact zag_Ep2 a b c d ha hb hc hd zeta t B e9 (by rw [hu, e9]) hs
    | 4, _, h1, h2 =>
      obtain ⟨a, b, c, d, ha, hb, hc, hd, e9⟩ := ex_zE4 zeta.data.toList h1 h2
      exact zag_Em2 a b c d ha hb hc hd zeta t B e9 (by rw [hu, e9]) hs
theorem zoneAP (zeta : ByteArray) (h64 : zeta.size ≤ 64) : (∃ n : Nat, n ≤ 64 ∧ fitL zeta.data.toList (SS ZP) 0 0 = (-1, n) ∧ Reads3 20 #[.string zeta, .bool false] (tup (0, 33, (n : Int)))) ∨ ∃ k q : Nat, fitL zeta.data.toList (SS ZP) 0 0 = ((k : Int), q) ∧ ∀ (t : ByteArray) (B : List UInt8), t.data.toList = B ++ zeta.data.toList → t.size ≤ 64 → Zag false zeta t B.length := by
  have lt : zeta.data.toList.length = zeta.size := Array.length_toList
  rcases fitL_hit zeta.data.toList (SS ZP) 0 0 with h | ⟨k, hk, h, h1, h2⟩
  · refine .inl ⟨(fitL zeta.data.toList (SS ZP) 0 0).2, ?_, Prod.ext h rfl, fun w => readZone_noP zeta h64 _ (Prod.ext h rfl) w⟩
    have := fitL_le zeta.data.toList (SS ZP) 0 0 (by omega)
    omega
  · refine .inr ⟨0 + k, 0, h, fun t B hu hs => ?_⟩
    match k, hk, h1, h2 with
    | 0, _, h1, h2 =>
      have e9 := ex_zE0 zeta.data.toList h1 h2
      exact zag_Z false zeta t B e9 (by rw [hu, e9])
    | 1, _, h1, h2 =>
      obtain ⟨a, b, ha, hb, e9⟩ := ex_zE1 zeta.data.toList h1 h2
      exact zag_Pp1 a b ha hb zeta t B e9 (by rw [hu, e9]) hs
    | 2, _, h1, h2 =>
      obtain ⟨a, b, ha, hb, e9⟩ := ex_zE2 zeta.data.toList h1 h2
      exact zag_Pm1 a b ha hb zeta t B e9 (by rw [hu, e9]) hs
    | 3, _, h1, h2 =>
      obtain ⟨a, b, c, d, ha, hb, hc, hd, e9⟩ := ex_zP3 zeta.data.toList h1 h2
      exact zag_Pp2 a b c d ha hb hc hd zeta t B e9 (by rw [hu, e9]) hs
    | 4, _, h1, h2 =>
      obtain ⟨a, b, c, d, ha, hb, hc, hd, e9⟩ := ex_zP4 zeta.data.toList h1 h2
      exact zag_Pm2 a b c d ha hb hc hd zeta t B e9 (by rw [hu, e9]) hs
end Go.Proofs.YtcmllfipaiacfaaGreatDoor
