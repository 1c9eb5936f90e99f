/-
  A span's numbers with their letters: marked, and the document's part.
-/
import Derived.Test.YtjmainmidacmfaaDoorRpad
import Derived.Test.YtjmainmidacmfaaDoorShelf
import Derived.Test.YtjmainmidacmfaaDoorShelf3
import Derived.Lib.AppendIntMem
namespace Go.Proofs.YtjmainmidacmfaaDoor
open Go.RowKit
set_option maxRecDepth 100000

/-- the table of tens lies there -/
def HasPw (w : World) : Prop := Lib.TabIs Tryd.prog w "internal/strconv.uint64pow10" .u64 Lib.pow10Tab
theorem HasPw.below {w w' : World} (h : HasPw w) (hb : Below w.heap.size w w') : HasPw w' := by
  have hg : Tryd.prog.globalNamed "internal/strconv.uint64pow10" = some 4 := by kernel_rfl
  unfold HasPw Lib.TabIs World.var? at h ⊢
  rw [hg] at h ⊢
  simp only [Option.bind_some] at h ⊢
  cases e : w.heap[(4 : Nat)]? with
  | none => rw [e] at h; simp at h
  | some b =>
    have hlt := (Array.getElem?_eq_some_iff.1 e).1
    rw [hb.block _ hlt]
    exact h
theorem HasPw.alloc {w : World} (h : HasPw w) (c : _) : HasPw (w.alloc c) := h.below ((Below.refl _ _).alloc (Nat.le_refl _) _)

theorem pw_datum : (Rows.laid_internal_strconv_uint64pow10 : DataW Unit) = Lib.tabData .u64 Lib.pow10Tab := by kernel_rfl

theorem hasPw_of {rest : List (String × DataW Unit)} {w : World} (h : laidMet Tryd.prog (("internal/strconv.uint64pow10", Rows.laid_internal_strconv_uint64pow10) :: rest) w) : HasPw w := by
  rw [pw_datum] at h
  exact Lib.tabIs_of_head (show Tryd.prog.globalNamed "internal/strconv.uint64pow10" = some 4 by kernel_rfl) (show (Tryd.prog.globals[(4 : Nat)]?).map (·.type) = some 101 by kernel_rfl) Tryd.underlying101 Tryd.underlying86 (by kernel_rfl) (by kernel_rfl) h

/-- a number's digits and its letter; nothing, if it is 0 -/
def mkL (n : Int) (c : UInt8) : List UInt8 := if n = 0 then [] else Lib.decDigits n.toNat ++ [c]

theorem nDig_le (n : Nat) (h : n ≤ 999999999) : Lib.nDigits n ≤ 9 := by
  rcases Nat.lt_or_ge 9 (Lib.nDigits n) with h9 | h9
  · exfalso
    have key : ∀ u : Nat, 10 ^ (Lib.nDigits u - 1) ≤ u ∨ u = 0 := by
      intro u
      induction u using Nat.strongRecOn with
      | _ u ih =>
        by_cases hu : u < 10
        · rw [Lib.nDigits_small hu]
          simp
          omega
        · rw [Lib.nDigits_big hu]
          have := ih (u / 10) (by omega)
          have hp := Lib.nDigits_pos (u / 10)
          rcases this with h1 | h1
          · refine .inl ?_
            have e : Lib.nDigits (u / 10) + 1 - 1 = (Lib.nDigits (u / 10) - 1) + 1 := by omega
            rw [e, Nat.pow_succ]
            omega
          · omega
    have hk := key n
    have hm : 10 ^ 9 ≤ 10 ^ (Lib.nDigits n - 1) := Nat.pow_le_pow_right (by omega) (by omega)
    have h0 : Lib.nDigits 0 = 1 := Lib.nDigits_small (by omega)
    rcases hk with hk | hk
    · have : (10 : Nat) ^ 9 = 1000000000 := by decide
      omega
    · rw [hk, h0] at h9
      omega
  · exact h9

theorem mkL_ok {n : Int} {c : UInt8} (h : n ≠ 0) : (⟨(Lib.decDigits n.toNat).toArray⟩ ++ (⟨#[c]⟩ : ByteArray) : ByteArray) = ⟨(mkL n c).toArray⟩ := by
  apply ba_ext
  rw [ByteArray.data_append, Array.toList_append]
  unfold mkL
  rw [if_neg h]

theorem marked_any (n : Int) (c : UInt8) (h0 : okN n) (w : World) (hT : HasPw w) :
    Calls Tryd.prog 24 #[.int .i64 n, .string ⟨#[c]⟩] w fun e w' => e = .returned (.string ⟨(mkL n c).toArray⟩) ∧ Below w.heap.size w w' := by
  unfold okN at h0
  by_cases hn : n = 0
  · subst hn
    go_enter Tryd.func24, Tryd.ntmps24
    go_wp2
    go_ret
    exact ⟨rfl, Below.refl _ _⟩
  · have hi : Lib.itoa n = Lib.decDigits n.toNat := by unfold Lib.itoa; rw [if_neg (by omega)]
    have HI := hid (Tryd.strconv_Itoa n (by omega) (by omega) w hT)
    rw [hi] at HI
    have HM := hid (mkL_ok (c := c) hn)
    have hb : (n == 0) = false := by simp [hn]
    have hd := nDig_le n.toNat (by omega)
    have hqs : (⟨(Lib.decDigits n.toNat).toArray⟩ : ByteArray).size ≤ 9 := by
      rw [← len_ba]; show (Lib.decDigits n.toNat).toArray.toList.length ≤ 9; rw [List.toList_toArray, Lib.decDigits_length]; exact hd
    generalize (⟨(Lib.decDigits n.toNat).toArray⟩ : ByteArray) = q at *
    have hsn : (q ++ (⟨#[c]⟩ : ByteArray)).size = q.size + 1 := by rw [ByteArray.size_append]; rfl
    clear hi hT hd
    go_enter Tryd.func24, Tryd.ntmps24
    go_wp2_with fail
    refine Calls.mono HI.out ?_
    rintro e w' ⟨rfl, k, os, rfl⟩
    go_wp2
    go_ret
    exact ⟨congrArg (fun x => Ending.returned (.string x)) HM.out, Lib.below_grow _ w (Nat.le_refl _) k os⟩

theorem part_any (n : Int) (c : UInt8) (h0 : okN n) (w : World) :
    Calls Tryd.prog 28 #[.int .i64 n, .string ⟨#[c]⟩] w fun e w' => e = .returned (.string ⟨(mkL n c).toArray⟩) ∧ Below w.heap.size w w' := by
  unfold okN at h0
  by_cases hn : n = 0
  · subst hn
    go_enter Tryd.func28, Tryd.ntmps28
    go_wp2
    go_ret
    exact ⟨rfl, Below.refl _ _⟩
  · have hd := nDig_le n.toNat (by omega)
    have HI := hid (refPad_any n.toNat 1 (by omega) (by omega) (.inr (by omega)) (by rw [padD_one, Lib.decDigits_length]; omega) w)
    rw [padD_one, show ((n.toNat : Nat) : Int) = n by omega] at HI
    have HM := hid (mkL_ok (c := c) hn)
    have hb : (n == 0) = false := by simp [hn]
    have hqs : (⟨(Lib.decDigits n.toNat).toArray⟩ : ByteArray).size ≤ 9 := by
      rw [← len_ba]; show (Lib.decDigits n.toNat).toArray.toList.length ≤ 9; rw [List.toList_toArray, Lib.decDigits_length]; exact hd
    generalize (⟨(Lib.decDigits n.toNat).toArray⟩ : ByteArray) = q at *
    have hsn : (q ++ (⟨#[c]⟩ : ByteArray)).size = q.size + 1 := by rw [ByteArray.size_append]; rfl
    clear hd
    go_enter Tryd.func28, Tryd.ntmps28
    go_wp2_with fail
    refine Calls.mono HI.out ?_
    rintro e w' ⟨rfl, hb1⟩
    go_wp2
    go_ret
    exact ⟨congrArg (fun x => Ending.returned (.string x)) HM.out, hb1⟩
end Go.Proofs.YtjmainmidacmfaaDoor
