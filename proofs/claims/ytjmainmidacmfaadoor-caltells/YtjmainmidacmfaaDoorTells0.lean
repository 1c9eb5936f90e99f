/-
  A span's text: its words.
-/
import Derived.Test.YtjmainmidacmfaaDoorTells
import Derived.Test.YtjmainmidacmfaaDoorRspan
import Derived.Test.YtjmainmidacmfaaDoorSBoxes
namespace Go.Proofs.YtjmainmidacmfaaDoor
open Go.RowKit
set_option maxRecDepth 100000

def LaterT (w w' : World) : Prop := Below w.heap.size w w'

/-- a span's text, out of its days' and its clock's -/
def psL (D C : List UInt8) : List UInt8 := if C ≠ [] then 80 :: (D ++ 84 :: C) else if D ≠ [] then 80 :: D else [80, 84, 48, 83]
def dayL (y m v d : Int) : List UInt8 := mkL y 89 ++ mkL m 77 ++ mkL v 87 ++ mkL d 68
def clkL (h i s : Int) : List UInt8 := mkL h 72 ++ mkL i 77 ++ mkL s 83

theorem mkL_len (n : Int) (c : UInt8) (h : okN n) : (mkL n c).length ≤ 10 := by
  unfold mkL
  unfold okN at h
  split
  · exact Nat.zero_le _
  · have := nDig_le n.toNat (by omega)
    rw [List.length_append, Lib.decDigits_length]
    show _ + 1 ≤ 10
    omega

/-- a number's text -/
theorem mkT (n : Int) (c : UInt8) (h : okN n) : ∃ T : ByteArray, T.data.toList = mkL n c ∧ T.size ≤ 10 ∧ (⟨(mkL n c).toArray⟩ : ByteArray) = T := by
  refine ⟨⟨(mkL n c).toArray⟩, by show (mkL n c).toArray.toList = _; rw [List.toList_toArray], ?_, rfl⟩
  rw [← len_ba]
  show (mkL n c).toArray.toList.length ≤ 10
  rw [List.toList_toArray]
  exact mkL_len n c h

theorem ba_app (a b : ByteArray) : (a ++ b).data.toList = a.data.toList ++ b.data.toList := by rw [ByteArray.data_append, Array.toList_append]

theorem empty_ba (C : ByteArray) : C.toList.isEmpty = decide (C.data.toList = []) := by
  rw [ByteArray.toList_eq]
  cases h : C.data.toList with
  | nil => rfl
  | cons a l => rfl

end Go.Proofs.YtjmainmidacmfaaDoor
