/-
  Texts of times and of zones by their shapes; an instant's text comes apart. Laid by mktc1.py.
-/
import Derived.Test.YtjpglgemnaknhaaGreatDoorTp2
namespace Go.Proofs.YtjpglgemnaknhaaGreatDoor
open Go.RowKit
set_option maxRecDepth 100000
set_option linter.unusedSimpArgs false
set_option linter.unusedVariables false

theorem ba_eq {t : ByteArray} {l : List UInt8} (h : t.data.toList = l) : t = ⟨l.toArray⟩ := by
  cases t with
  | mk a =>
    cases a with
    | mk x => exact congrArg _ (congrArg _ h)
theorem mk_list (l : List UInt8) : (⟨l.toArray⟩ : ByteArray).data.toList = l := rfl
theorem mk_size' (l : List UInt8) : (⟨l.toArray⟩ : ByteArray).size = l.length := rfl
theorem ext_list (t : ByteArray) (a b : Nat) : (t.extract a b).data.toList = (t.data.toList.drop a).take (b - a) := by
  rw [ByteArray.data_extract, Array.toList_extract, List.extract_eq_take_drop]
theorem ib_app {c : UInt8} : ∀ {A B : List UInt8}, c ∉ A → Lib.indexByte (A ++ c :: B) c = (A.length : Int)
  | [], B, _ => by simp [Lib.indexByte]
  | a :: A, B, h => by
    have h1 : ¬ a = c := fun e => h (by simp [e])
    have ih := ib_app (A := A) (B := B) (fun e => h (List.mem_cons_of_mem _ e))
    show (if a == c then 0 else if Lib.indexByte (A ++ c :: B) c == -1 then -1 else Lib.indexByte (A ++ c :: B) c + 1) = _
    rw [ih, if_neg (by simpa using h1), if_neg (by first | (simp; done) | (simp; omega))]
    simp
theorem ib_none {c : UInt8} : ∀ {A : List UInt8}, c ∉ A → Lib.indexByte A c = -1
  | [], _ => rfl
  | a :: A, h => by
    have h1 : ¬ a = c := fun e => h (by simp [e])
    have ih := ib_none (A := A) (fun e => h (List.mem_cons_of_mem _ e))
    show (if a == c then 0 else if Lib.indexByte A c == -1 then -1 else Lib.indexByte A c + 1) = _
    rw [ih, if_neg (by simpa using h1)]
    rfl
theorem ib_in {c : UInt8} : ∀ {A : List UInt8}, c ∈ A → 0 ≤ Lib.indexByte A c
  | a :: A, h => by
    show 0 ≤ (if a == c then 0 else if Lib.indexByte A c == -1 then -1 else Lib.indexByte A c + 1)
    by_cases h1 : a = c
    · rw [if_pos (by simpa using h1)]
      exact Int.le_refl _
    · have h2 : c ∈ A := by
        rcases List.mem_cons.1 h with e | e
        · exact absurd e.symm h1
        · exact e
      have ih := ib_in h2
      rw [if_neg (by simpa using h1), if_neg (by first | (simp; done) | (simp; omega))]
      omega
theorem ib_ext (A : List UInt8) : decide (0 ≤ Lib.indexByte A 45) = A.contains 45 := by
  by_cases h : 45 ∈ A
  · rw [decide_eq_true (ib_in h)]
    simp [h]
  · rw [ib_none h]
    simp [h]
theorem ia_app {z : UInt8} (hz : [90, 43, 45].contains z = true) : ∀ {A B : List UInt8}, (∀ c ∈ A, [90, 43, 45].contains c = false) → Lib.indexAny (A ++ z :: B) [90, 43, 45] = (A.length : Int)
  | [], B, _ => by
    show (if [90, 43, 45].contains z then 0 else _) = _
    rw [if_pos hz]
    rfl
  | a :: A, B, h => by
    have h1 := h a (by simp)
    have ih := ia_app hz (A := A) (B := B) (fun c hc => h c (List.mem_cons_of_mem _ hc))
    show (if [90, 43, 45].contains a then 0 else if Lib.indexAny (A ++ z :: B) [90, 43, 45] == -1 then -1 else Lib.indexAny (A ++ z :: B) [90, 43, 45] + 1) = _
    rw [ih, if_neg (by rw [h1]; decide), if_neg (by first | (simp; done) | (simp; omega))]
    simp
/-- an instant's text comes apart -/
theorem cuts_of (t : ByteArray) (DL TL ZL : List UInt8) (z0 : UInt8) (ht : t.data.toList = DL ++ 84 :: (TL ++ z0 :: ZL)) (hs : t.size ≤ 64) (h84 : 84 ∉ DL) (hT : ∀ c ∈ TL, [90, 43, 45].contains c = false) (hz0 : [90, 43, 45].contains z0 = true) (hasc : ∀ c ∈ TL ++ z0 :: ZL, c.toNat < 128) :
    Cuts t ⟨DL.toArray⟩ ⟨(TL ++ z0 :: ZL).toArray⟩ (DL.contains 45) TL.length := by
  have hlen : t.size = DL.length + 1 + (TL ++ z0 :: ZL).length := by
    have : t.data.toList.length = t.size := Array.length_toList
    rw [← this, ht]
    simp
    omega
  have e1 : t.extract 0 DL.length = ⟨DL.toArray⟩ := ba_eq (by rw [ext_list, ht]; simp)
  have e2 : t.extract (DL.length + 1) t.size = ⟨(TL ++ z0 :: ZL).toArray⟩ := ba_eq (by
    rw [ext_list, ht, hlen]
    have : (DL ++ 84 :: (TL ++ z0 :: ZL)).drop (DL.length + 1) = TL ++ z0 :: ZL := by
      rw [show DL ++ 84 :: (TL ++ z0 :: ZL) = (DL ++ [84]) ++ (TL ++ z0 :: ZL) by simp]
      exact List.drop_left' (by simp)
    rw [this]
    exact List.take_of_length_le (by omega))
  refine ⟨hs, ?_, fun w => ?_, ib_ext DL, fun w => ?_, ?_⟩
  · show DL.length ≤ 64
    omega
  · have := cut_yes t 84 DL.length (by omega) hs (by rw [ht]; exact ib_app h84) w
    rw [e1, e2] at this
    exact this
  · have := Tryz.strings_IndexAny_laid ⟨(TL ++ z0 :: ZL).toArray⟩ ⟨#[90, 43, 45]⟩ w (by show (TL ++ z0 :: ZL).length < 4294967281; omega) (by decide) (fun j b hb => hasc b (List.mem_of_getElem? hb)) (fun j b hb => by
      match j, hb with
      | 0, hb => cases hb; decide
      | 1, hb => cases hb; decide
      | 2, hb => cases hb; decide)
    have e3 : Lib.indexAny (⟨(TL ++ z0 :: ZL).toArray⟩ : ByteArray).data.toList (⟨#[90, 43, 45]⟩ : ByteArray).data.toList = (TL.length : Int) := ia_app hz0 hT
    rw [e3] at this
    exact this
  · show TL.length ≤ (TL ++ z0 :: ZL).length
    simp
theorem cut_left (A B : List UInt8) : (⟨(A ++ B).toArray⟩ : ByteArray).extract 0 A.length = ⟨A.toArray⟩ := ba_eq (by rw [ext_list]; simp)
theorem cut_right (A B : List UInt8) : (⟨(A ++ B).toArray⟩ : ByteArray).extract A.length (⟨(A ++ B).toArray⟩ : ByteArray).size = ⟨B.toArray⟩ := ba_eq (by
  rw [ext_list]
  show ((A ++ B).drop A.length).take ((A ++ B).length - A.length) = B
  rw [List.drop_left]
  exact List.take_of_length_le (by simp))
theorem tmP_ok3 (t : ByteArray) (p1 p2 : Nat) (h0 : 0 ≠ t.size) (h1 : p1 ≠ t.size) (h2 : p2 ≠ t.size) (b0 : okH t (n2 t 0) = true) (b1 : n2 t p1 ≤ 59) (b2 : n2 t p2 ≤ 59) : tmP t p1 p2 = (3600 * (n2 t 0 : Int) + 60 * (n2 t p1 : Int) + (n2 t p2 : Int), 0, 0) := by
  have e : rg t.size (sel3 0 p1 p2) (tmB t p1 p2) 3 0 = (-1, 3) := by
    rw [rg_yes (k := 0) h0 b0, rg_yes (k := 1) h1 (decide_eq_true b1), rg_yes (k := 2) h2 (decide_eq_true b2)]; rfl
  unfold tmP
  rw [e]
  rfl
theorem tmP_ok2 (t : ByteArray) (p1 p2 : Nat) (h0 : 0 ≠ t.size) (h1 : p1 ≠ t.size) (h2 : p2 = t.size) (b0 : okH t (n2 t 0) = true) (b1 : n2 t p1 ≤ 59) : tmP t p1 p2 = (3600 * (n2 t 0 : Int) + 60 * (n2 t p1 : Int), 0, 0) := by
  have e : rg t.size (sel3 0 p1 p2) (tmB t p1 p2) 3 0 = (-1, 2) := by
    rw [rg_yes (k := 0) h0 b0, rg_yes (k := 1) h1 (decide_eq_true b1), rg_end (k := 2) h2]
  unfold tmP
  rw [e]
  rfl
theorem tmP_ok1 (t : ByteArray) (p1 p2 : Nat) (h0 : 0 ≠ t.size) (h1 : p1 = t.size) (b0 : okH t (n2 t 0) = true) : tmP t p1 p2 = (3600 * (n2 t 0 : Int), 0, 0) := by
  have e : rg t.size (sel3 0 p1 p2) (tmB t p1 p2) 3 0 = (-1, 1) := by
    rw [rg_yes (k := 0) h0 b0, rg_end (k := 1) h1]
  unfold tmP
  rw [e]
  rfl
theorem tmP_no0 (t : ByteArray) (p1 p2 : Nat) (h0 : 0 ≠ t.size) (b0 : okH t (n2 t 0) = false) : tmP t p1 p2 = (0, 32, 0) := by
  have e : rg t.size (sel3 0 p1 p2) (tmB t p1 p2) 3 0 = (0, 1) := rg_no (k := 0) h0 b0
  unfold tmP
  rw [e]
  rfl
theorem tmP_no1 (t : ByteArray) (p1 p2 : Nat) (h0 : 0 ≠ t.size) (h1 : p1 ≠ t.size) (b0 : okH t (n2 t 0) = true) (b1 : ¬ n2 t p1 ≤ 59) : tmP t p1 p2 = (0, 32, (p1 : Int)) := by
  have e : rg t.size (sel3 0 p1 p2) (tmB t p1 p2) 3 0 = ((p1 : Int), 2) := by
    rw [rg_yes (k := 0) h0 b0, rg_no (k := 1) h1 (decide_eq_false b1)]; rfl
  unfold tmP
  rw [e]
  show (if 0 ≤ (p1 : Int) then ((0 : Int), (32 : Int), (p1 : Int)) else _) = _
  rw [if_pos (by omega)]
theorem tmE1 (a b : UInt8) (ha : isDB a = true) (hb : isDB b = true) (t : ByteArray) (hT : t.data.toList = [a, b]) : Reads3 26 #[.string t, .bool true] (tup (tmP t 2 2)) ∧ t.size = 2 ∧ n2 t 0 = nm [a, b] := by
  have hs : t.size = 2 := by have e := congrArg List.length hT; rw [Array.length_toList] at e; exact e
  have z58 : isDB 58 = false := by decide
  have hfit : fitL t.data.toList (SS TE) 0 0 = (((0 : Nat) : Int), 0) := by
    rw [hT]
    have na : ¬ a = 58 := fun e => by rw [e, z58] at ha; cases ha
    have nb : ¬ b = 58 := fun e => by rw [e, z58] at hb; cases hb
    simp [fitL, SS, TE, rl, fitB, ha, hb, z58, na, nb]
  have hF : TmF t 2 2 := by
    refine ⟨by rw [hT]; simp [sk, skA, ha, hb], ⟨by omega, by rw [hT]; simp [sub, ha, hb]⟩, by rw [hT]; simp [sk, skA, ha, hb, z58], ?_, by omega, fun h => absurd hs.symm h, ?_⟩
    · exact .inl (by omega)
    · exact .inl (by omega)
  refine ⟨fun w => readTime_yesE t (by omega) 2 2 hF 0 0 hfit w, hs, by show nm (sub t.data.toList 0 2) = _; rw [hT]; rfl⟩
theorem tmE2 (a b c d : UInt8) (ha : isDB a = true) (hb : isDB b = true) (hc : isDB c = true) (hd : isDB d = true) (t : ByteArray) (hT : t.data.toList = [a, b, 58, c, d]) : Reads3 26 #[.string t, .bool true] (tup (tmP t 3 5)) ∧ t.size = 5 ∧ n2 t 0 = nm [a, b] ∧ n2 t 3 = nm [c, d] := by
  have hs : t.size = 5 := by have e := congrArg List.length hT; rw [Array.length_toList] at e; exact e
  have z58 : isDB 58 = false := by decide
  have hfit : fitL t.data.toList (SS TE) 0 0 = (((1 : Nat) : Int), 0) := by
    rw [hT]
    have na : ¬ a = 58 := fun e => by rw [e, z58] at ha; cases ha
    have nb : ¬ b = 58 := fun e => by rw [e, z58] at hb; cases hb
    have nc : ¬ c = 58 := fun e => by rw [e, z58] at hc; cases hc
    have nd : ¬ d = 58 := fun e => by rw [e, z58] at hd; cases hd
    simp [fitL, SS, TE, rl, fitB, ha, hb, hc, hd, z58, na, nb, nc, nd]
  have hF : TmF t 3 5 := by
    refine ⟨by rw [hT]; simp [sk, skA, ha, hb, hc, hd], ⟨by omega, by rw [hT]; simp [sub, ha, hb, hc, hd]⟩, by rw [hT]; simp [sk, skA, ha, hb, hc, hd, z58], ?_, by omega, fun _ => by rw [hT]; simp [sk, skA, ha, hb, hc, hd, z58], ?_⟩
    · exact .inr ⟨by omega, by rw [hT]; simp [sub, ha, hb, hc, hd]⟩
    · exact .inl (by omega)
  refine ⟨fun w => readTime_yesE t (by omega) 3 5 hF 1 0 hfit w, hs, by show nm (sub t.data.toList 0 2) = _; rw [hT]; rfl, by show nm (sub t.data.toList 3 2) = _; rw [hT]; rfl⟩
theorem tmE3 (a b c d e f : UInt8) (ha : isDB a = true) (hb : isDB b = true) (hc : isDB c = true) (hd : isDB d = true) (he : isDB e = true) (hf : isDB f = true) (t : ByteArray) (hT : t.data.toList = [a, b, 58, c, d, 58, e, f]) : Reads3 26 #[.string t, .bool true] (tup (tmP t 3 6)) ∧ t.size = 8 ∧ n2 t 0 = nm [a, b] ∧ n2 t 3 = nm [c, d] ∧ n2 t 6 = nm [e, f] := by
  have hs : t.size = 8 := by have e := congrArg List.length hT; rw [Array.length_toList] at e; exact e
  have z58 : isDB 58 = false := by decide
  have hfit : fitL t.data.toList (SS TE) 0 0 = (((2 : Nat) : Int), 0) := by
    rw [hT]
    have na : ¬ a = 58 := fun e => by rw [e, z58] at ha; cases ha
    have nb : ¬ b = 58 := fun e => by rw [e, z58] at hb; cases hb
    have nc : ¬ c = 58 := fun e => by rw [e, z58] at hc; cases hc
    have nd : ¬ d = 58 := fun e => by rw [e, z58] at hd; cases hd
    have ne : ¬ e = 58 := fun e => by rw [e, z58] at he; cases he
    have nf : ¬ f = 58 := fun e => by rw [e, z58] at hf; cases hf
    simp [fitL, SS, TE, rl, fitB, ha, hb, hc, hd, he, hf, z58, na, nb, nc, nd, ne, nf]
  have hF : TmF t 3 6 := by
    refine ⟨by rw [hT]; simp [sk, skA, ha, hb, hc, hd, he, hf], ⟨by omega, by rw [hT]; simp [sub, ha, hb, hc, hd, he, hf]⟩, by rw [hT]; simp [sk, skA, ha, hb, hc, hd, he, hf, z58], ?_, by omega, fun _ => by rw [hT]; simp [sk, skA, ha, hb, hc, hd, he, hf, z58], ?_⟩
    · exact .inr ⟨by omega, by rw [hT]; simp [sub, ha, hb, hc, hd, he, hf]⟩
    · exact .inr ⟨by omega, by rw [hT]; simp [sub, ha, hb, hc, hd, he, hf]⟩
  refine ⟨fun w => readTime_yesE t (by omega) 3 6 hF 2 0 hfit w, hs, by show nm (sub t.data.toList 0 2) = _; rw [hT]; rfl, by show nm (sub t.data.toList 3 2) = _; rw [hT]; rfl, by show nm (sub t.data.toList 6 2) = _; rw [hT]; rfl⟩
theorem tmP1 (a b : UInt8) (ha : isDB a = true) (hb : isDB b = true) (t : ByteArray) (hT : t.data.toList = [a, b]) : Reads3 26 #[.string t, .bool false] (tup (tmP t 2 2)) ∧ t.size = 2 ∧ n2 t 0 = nm [a, b] := by
  have hs : t.size = 2 := by have e := congrArg List.length hT; rw [Array.length_toList] at e; exact e
  have z58 : isDB 58 = false := by decide
  have hfit : fitL t.data.toList (SS TP) 0 0 = (((0 : Nat) : Int), 0) := by
    rw [hT]
    have na : ¬ a = 58 := fun e => by rw [e, z58] at ha; cases ha
    have nb : ¬ b = 58 := fun e => by rw [e, z58] at hb; cases hb
    simp [fitL, SS, TP, rl, fitB, ha, hb, z58, na, nb]
  have hF : TmF t 2 2 := by
    refine ⟨by rw [hT]; simp [sk, skA, ha, hb], ⟨by omega, by rw [hT]; simp [sub, ha, hb]⟩, by rw [hT]; simp [sk, skA, ha, hb, z58], ?_, by omega, fun h => absurd hs.symm h, ?_⟩
    · exact .inl (by omega)
    · exact .inl (by omega)
  refine ⟨fun w => readTime_yesP t (by omega) 2 2 hF 0 0 hfit w, hs, by show nm (sub t.data.toList 0 2) = _; rw [hT]; rfl⟩
theorem tmP2 (a b c d : UInt8) (ha : isDB a = true) (hb : isDB b = true) (hc : isDB c = true) (hd : isDB d = true) (t : ByteArray) (hT : t.data.toList = [a, b, c, d]) : Reads3 26 #[.string t, .bool false] (tup (tmP t 2 4)) ∧ t.size = 4 ∧ n2 t 0 = nm [a, b] ∧ n2 t 2 = nm [c, d] := by
  have hs : t.size = 4 := by have e := congrArg List.length hT; rw [Array.length_toList] at e; exact e
  have z58 : isDB 58 = false := by decide
  have hfit : fitL t.data.toList (SS TP) 0 0 = (((1 : Nat) : Int), 0) := by
    rw [hT]
    have na : ¬ a = 58 := fun e => by rw [e, z58] at ha; cases ha
    have nb : ¬ b = 58 := fun e => by rw [e, z58] at hb; cases hb
    have nc : ¬ c = 58 := fun e => by rw [e, z58] at hc; cases hc
    have nd : ¬ d = 58 := fun e => by rw [e, z58] at hd; cases hd
    simp [fitL, SS, TP, rl, fitB, ha, hb, hc, hd, z58, na, nb, nc, nd]
  have hF : TmF t 2 4 := by
    refine ⟨by rw [hT]; simp [sk, skA, ha, hb, hc, hd], ⟨by omega, by rw [hT]; simp [sub, ha, hb, hc, hd]⟩, by rw [hT]; simp [sk, skA, ha, hb, hc, hd, z58], ?_, by omega, fun _ => by rw [hT]; simp [sk, skA, ha, hb, hc, hd, z58], ?_⟩
    · exact .inr ⟨by omega, by rw [hT]; simp [sub, ha, hb, hc, hd]⟩
    · exact .inl (by omega)
  refine ⟨fun w => readTime_yesP t (by omega) 2 4 hF 1 0 hfit w, hs, by show nm (sub t.data.toList 0 2) = _; rw [hT]; rfl, by show nm (sub t.data.toList 2 2) = _; rw [hT]; rfl⟩
theorem tmP3 (a b c d e f : UInt8) (ha : isDB a = true) (hb : isDB b = true) (hc : isDB c = true) (hd : isDB d = true) (he : isDB e = true) (hf : isDB f = true) (t : ByteArray) (hT : t.data.toList = [a, b, c, d, e, f]) : Reads3 26 #[.string t, .bool false] (tup (tmP t 2 4)) ∧ t.size = 6 ∧ n2 t 0 = nm [a, b] ∧ n2 t 2 = nm [c, d] ∧ n2 t 4 = nm [e, f] := by
  have hs : t.size = 6 := by have e := congrArg List.length hT; rw [Array.length_toList] at e; exact e
  have z58 : isDB 58 = false := by decide
  have hfit : fitL t.data.toList (SS TP) 0 0 = (((2 : Nat) : Int), 0) := by
    rw [hT]
    have na : ¬ a = 58 := fun e => by rw [e, z58] at ha; cases ha
    have nb : ¬ b = 58 := fun e => by rw [e, z58] at hb; cases hb
    have nc : ¬ c = 58 := fun e => by rw [e, z58] at hc; cases hc
    have nd : ¬ d = 58 := fun e => by rw [e, z58] at hd; cases hd
    have ne : ¬ e = 58 := fun e => by rw [e, z58] at he; cases he
    have nf : ¬ f = 58 := fun e => by rw [e, z58] at hf; cases hf
    simp [fitL, SS, TP, rl, fitB, ha, hb, hc, hd, he, hf, z58, na, nb, nc, nd, ne, nf]
  have hF : TmF t 2 4 := by
    refine ⟨by rw [hT]; simp [sk, skA, ha, hb, hc, hd, he, hf], ⟨by omega, by rw [hT]; simp [sub, ha, hb, hc, hd, he, hf]⟩, by rw [hT]; simp [sk, skA, ha, hb, hc, hd, he, hf, z58], ?_, by omega, fun _ => by rw [hT]; simp [sk, skA, ha, hb, hc, hd, he, hf, z58], ?_⟩
    · exact .inr ⟨by omega, by rw [hT]; simp [sub, ha, hb, hc, hd, he, hf]⟩
    · exact .inr ⟨by omega, by rw [hT]; simp [sub, ha, hb, hc, hd, he, hf]⟩
  refine ⟨fun w => readTime_yesP t (by omega) 2 4 hF 2 0 hfit w, hs, by show nm (sub t.data.toList 0 2) = _; rw [hT]; rfl, by show nm (sub t.data.toList 2 2) = _; rw [hT]; rfl, by show nm (sub t.data.toList 4 2) = _; rw [hT]; rfl⟩
theorem zn_Z (x : Bool) (t : ByteArray) (hT : t.data.toList = [90]) : Reads3 27 #[.string t, .bool x] (tup (0, 0, 0)) := by
  have hs : t.size = 1 := by have e := congrArg List.length hT; rw [Array.length_toList] at e; exact e
  have hF : ZnF t 1 1 := by
    refine ⟨by rw [hT]; decide, .inl (by omega), fun _ => by omega, fun h => absurd hs.symm h, .inl (by omega)⟩
  have e : znP t 1 1 = (0, 0, 0) := by
    have er : rg t.size (sel3 1 1 1) (znB t 1 1) 2 0 = (-1, 0) := rg_end (k := 0) hs.symm
    unfold znP
    rw [er, hT]
    rfl
  cases x
  · have := fun w => readZone_yesP t (by omega) (by omega) 1 1 hF 0 0 (by rw [hT]; decide) w
    rw [e] at this
    exact this
  · have := fun w => readZone_yesE t (by omega) (by omega) 1 1 hF 0 0 (by rw [hT]; decide) w
    rw [e] at this
    exact this
theorem znP_ok2 (t : ByteArray) (q0 q1 : Nat) (h0 : q0 ≠ t.size) (h1 : q1 ≠ t.size) (b0 : n2 t q0 ≤ 23) (b1 : n2 t q1 ≤ 59) (hc : t.data.toList[0]? = some 43) : znP t q0 q1 = (60 * (n2 t q0 : Int) + (n2 t q1 : Int), 0, 0) := by
  have e : rg t.size (sel3 q0 q1 q1) (znB t q0 q1) 2 0 = (-1, 2) := by
    rw [rg_yes (k := 0) h0 (decide_eq_true b0), rg_yes (k := 1) h1 (decide_eq_true b1)]; rfl
  unfold znP
  rw [e, hc]
  rfl
theorem znP_ok1 (t : ByteArray) (q0 q1 : Nat) (h0 : q0 ≠ t.size) (h1 : q1 = t.size) (b0 : n2 t q0 ≤ 23) (hc : t.data.toList[0]? = some 43) : znP t q0 q1 = (60 * (n2 t q0 : Int), 0, 0) := by
  have e : rg t.size (sel3 q0 q1 q1) (znB t q0 q1) 2 0 = (-1, 1) := by
    rw [rg_yes (k := 0) h0 (decide_eq_true b0), rg_end (k := 1) h1]
  unfold znP
  rw [e, hc]
  rfl
theorem znP_neg2 (t : ByteArray) (q0 q1 : Nat) (h0 : q0 ≠ t.size) (h1 : q1 ≠ t.size) (b0 : n2 t q0 ≤ 23) (b1 : n2 t q1 ≤ 59) (hc : t.data.toList[0]? = some 45) (hn : 60 * (n2 t q0 : Int) + (n2 t q1 : Int) ≠ 0) : znP t q0 q1 = (-(60 * (n2 t q0 : Int) + (n2 t q1 : Int)), 0, 0) := by
  have e : rg t.size (sel3 q0 q1 q1) (znB t q0 q1) 2 0 = (-1, 2) := by
    rw [rg_yes (k := 0) h0 (decide_eq_true b0), rg_yes (k := 1) h1 (decide_eq_true b1)]; rfl
  unfold znP
  rw [e, hc]
  show (if (60 * (n2 t q0 : Int) + (n2 t q1 : Int)) = 0 then ((0 : Int), (33 : Int), (0 : Int)) else _) = _
  rw [if_neg hn]
  rfl
theorem znEp2 (a b c d : UInt8) (ha : isDB a = true) (hb : isDB b = true) (hc : isDB c = true) (hd : isDB d = true) (t : ByteArray) (hT : t.data.toList = [43, a, b, 58, c, d]) : Reads3 27 #[.string t, .bool true] (tup (znP t 1 4)) ∧ t.size = 6 ∧ t.data.toList[0]? = some 43 ∧ n2 t 1 = nm [a, b] ∧ n2 t 4 = nm [c, d] := by
  have hs : t.size = 6 := by have e := congrArg List.length hT; rw [Array.length_toList] at e; exact e
  have z58 : isDB 58 = false := by decide
  have z43 : isDB 43 = false := by decide
  have z45 : isDB 45 = false := by decide
  have hfit : fitL t.data.toList (SS ZE) 0 0 = (((3 : Nat) : Int), 0) := by
    rw [hT]
    have na : ¬ a = 58 := fun e => by rw [e, z58] at ha; cases ha
    have nb : ¬ b = 58 := fun e => by rw [e, z58] at hb; cases hb
    have nc : ¬ c = 58 := fun e => by rw [e, z58] at hc; cases hc
    have nd : ¬ d = 58 := fun e => by rw [e, z58] at hd; cases hd
    simp [fitL, SS, ZE, rl, fitB, ha, hb, hc, hd, z58, na, nb, nc, nd]
  have hF : ZnF t 1 4 := by
    refine ⟨by rw [hT]; simp [sk, skA, ha, hb, hc, hd, z43, z45], .inr ⟨by omega, by rw [hT]; simp [sub, ha, hb, hc, hd]⟩, by omega, fun _ => by rw [hT]; simp [sk, skA, ha, hb, hc, hd, z58], ?_⟩
    exact .inr ⟨by omega, by rw [hT]; simp [sub, ha, hb, hc, hd]⟩
  refine ⟨fun w => readZone_yesE t (by omega) (by omega) 1 4 hF 3 0 hfit w, hs, by rw [hT]; rfl, by show nm (sub t.data.toList 1 2) = _; rw [hT]; rfl, by show nm (sub t.data.toList 4 2) = _; rw [hT]; rfl⟩
theorem znEm2 (a b c d : UInt8) (ha : isDB a = true) (hb : isDB b = true) (hc : isDB c = true) (hd : isDB d = true) (t : ByteArray) (hT : t.data.toList = [45, a, b, 58, c, d]) : Reads3 27 #[.string t, .bool true] (tup (znP t 1 4)) ∧ t.size = 6 ∧ t.data.toList[0]? = some 45 ∧ n2 t 1 = nm [a, b] ∧ n2 t 4 = nm [c, d] := by
  have hs : t.size = 6 := by have e := congrArg List.length hT; rw [Array.length_toList] at e; exact e
  have z58 : isDB 58 = false := by decide
  have z43 : isDB 43 = false := by decide
  have z45 : isDB 45 = false := by decide
  have hfit : fitL t.data.toList (SS ZE) 0 0 = (((4 : Nat) : Int), 0) := by
    rw [hT]
    have na : ¬ a = 58 := fun e => by rw [e, z58] at ha; cases ha
    have nb : ¬ b = 58 := fun e => by rw [e, z58] at hb; cases hb
    have nc : ¬ c = 58 := fun e => by rw [e, z58] at hc; cases hc
    have nd : ¬ d = 58 := fun e => by rw [e, z58] at hd; cases hd
    simp [fitL, SS, ZE, rl, fitB, ha, hb, hc, hd, z58, na, nb, nc, nd]
  have hF : ZnF t 1 4 := by
    refine ⟨by rw [hT]; simp [sk, skA, ha, hb, hc, hd, z43, z45], .inr ⟨by omega, by rw [hT]; simp [sub, ha, hb, hc, hd]⟩, by omega, fun _ => by rw [hT]; simp [sk, skA, ha, hb, hc, hd, z58], ?_⟩
    exact .inr ⟨by omega, by rw [hT]; simp [sub, ha, hb, hc, hd]⟩
  refine ⟨fun w => readZone_yesE t (by omega) (by omega) 1 4 hF 4 0 hfit w, hs, by rw [hT]; rfl, by show nm (sub t.data.toList 1 2) = _; rw [hT]; rfl, by show nm (sub t.data.toList 4 2) = _; rw [hT]; rfl⟩
theorem znPp2 (a b c d : UInt8) (ha : isDB a = true) (hb : isDB b = true) (hc : isDB c = true) (hd : isDB d = true) (t : ByteArray) (hT : t.data.toList = [43, a, b, c, d]) : Reads3 27 #[.string t, .bool false] (tup (znP t 1 3)) ∧ t.size = 5 ∧ t.data.toList[0]? = some 43 ∧ n2 t 1 = nm [a, b] ∧ n2 t 3 = nm [c, d] := by
  have hs : t.size = 5 := by have e := congrArg List.length hT; rw [Array.length_toList] at e; exact e
  have z58 : isDB 58 = false := by decide
  have z43 : isDB 43 = false := by decide
  have z45 : isDB 45 = false := by decide
  have hfit : fitL t.data.toList (SS ZP) 0 0 = (((3 : Nat) : Int), 0) := by
    rw [hT]
    have na : ¬ a = 58 := fun e => by rw [e, z58] at ha; cases ha
    have nb : ¬ b = 58 := fun e => by rw [e, z58] at hb; cases hb
    have nc : ¬ c = 58 := fun e => by rw [e, z58] at hc; cases hc
    have nd : ¬ d = 58 := fun e => by rw [e, z58] at hd; cases hd
    simp [fitL, SS, ZP, rl, fitB, ha, hb, hc, hd, z58, na, nb, nc, nd]
  have hF : ZnF t 1 3 := by
    refine ⟨by rw [hT]; simp [sk, skA, ha, hb, hc, hd, z43, z45], .inr ⟨by omega, by rw [hT]; simp [sub, ha, hb, hc, hd]⟩, by omega, fun _ => by rw [hT]; simp [sk, skA, ha, hb, hc, hd, z58], ?_⟩
    exact .inr ⟨by omega, by rw [hT]; simp [sub, ha, hb, hc, hd]⟩
  refine ⟨fun w => readZone_yesP t (by omega) (by omega) 1 3 hF 3 0 hfit w, hs, by rw [hT]; rfl, by show nm (sub t.data.toList 1 2) = _; rw [hT]; rfl, by show nm (sub t.data.toList 3 2) = _; rw [hT]; rfl⟩
theorem znPm2 (a b c d : UInt8) (ha : isDB a = true) (hb : isDB b = true) (hc : isDB c = true) (hd : isDB d = true) (t : ByteArray) (hT : t.data.toList = [45, a, b, c, d]) : Reads3 27 #[.string t, .bool false] (tup (znP t 1 3)) ∧ t.size = 5 ∧ t.data.toList[0]? = some 45 ∧ n2 t 1 = nm [a, b] ∧ n2 t 3 = nm [c, d] := by
  have hs : t.size = 5 := by have e := congrArg List.length hT; rw [Array.length_toList] at e; exact e
  have z58 : isDB 58 = false := by decide
  have z43 : isDB 43 = false := by decide
  have z45 : isDB 45 = false := by decide
  have hfit : fitL t.data.toList (SS ZP) 0 0 = (((4 : Nat) : Int), 0) := by
    rw [hT]
    have na : ¬ a = 58 := fun e => by rw [e, z58] at ha; cases ha
    have nb : ¬ b = 58 := fun e => by rw [e, z58] at hb; cases hb
    have nc : ¬ c = 58 := fun e => by rw [e, z58] at hc; cases hc
    have nd : ¬ d = 58 := fun e => by rw [e, z58] at hd; cases hd
    simp [fitL, SS, ZP, rl, fitB, ha, hb, hc, hd, z58, na, nb, nc, nd]
  have hF : ZnF t 1 3 := by
    refine ⟨by rw [hT]; simp [sk, skA, ha, hb, hc, hd, z43, z45], .inr ⟨by omega, by rw [hT]; simp [sub, ha, hb, hc, hd]⟩, by omega, fun _ => by rw [hT]; simp [sk, skA, ha, hb, hc, hd, z58], ?_⟩
    exact .inr ⟨by omega, by rw [hT]; simp [sub, ha, hb, hc, hd]⟩
  refine ⟨fun w => readZone_yesP t (by omega) (by omega) 1 3 hF 4 0 hfit w, hs, by rw [hT]; rfl, by show nm (sub t.data.toList 1 2) = _; rw [hT]; rfl, by show nm (sub t.data.toList 3 2) = _; rw [hT]; rfl⟩
theorem znPp1 (a b : UInt8) (ha : isDB a = true) (hb : isDB b = true) (t : ByteArray) (hT : t.data.toList = [43, a, b]) : Reads3 27 #[.string t, .bool false] (tup (znP t 1 3)) ∧ t.size = 3 ∧ t.data.toList[0]? = some 43 ∧ n2 t 1 = nm [a, b] := by
  have hs : t.size = 3 := by have e := congrArg List.length hT; rw [Array.length_toList] at e; exact e
  have z58 : isDB 58 = false := by decide
  have z43 : isDB 43 = false := by decide
  have z45 : isDB 45 = false := by decide
  have hfit : fitL t.data.toList (SS ZP) 0 0 = (((1 : Nat) : Int), 0) := by
    rw [hT]
    have na : ¬ a = 58 := fun e => by rw [e, z58] at ha; cases ha
    have nb : ¬ b = 58 := fun e => by rw [e, z58] at hb; cases hb
    simp [fitL, SS, ZP, rl, fitB, ha, hb, z58, na, nb]
  have hF : ZnF t 1 3 := by
    refine ⟨by rw [hT]; simp [sk, skA, ha, hb, z43, z45], .inr ⟨by omega, by rw [hT]; simp [sub, ha, hb]⟩, by omega, fun _ => by rw [hT]; simp [sk, skA, ha, hb, z58], ?_⟩
    exact .inl (by omega)
  refine ⟨fun w => readZone_yesP t (by omega) (by omega) 1 3 hF 1 0 hfit w, hs, by rw [hT]; rfl, by show nm (sub t.data.toList 1 2) = _; rw [hT]; rfl⟩
end Go.Proofs.YtjpglgemnaknhaaGreatDoor
