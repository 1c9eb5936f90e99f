/-
  Packs: the contracts of atLevel and leveled, of Pack on both sides, and of the document's own Check and Normal.
-/
import Derived.Test.YtcenlpfanikdnaaDoorNormal
import Derived.Lib.Strings
namespace Go.Proofs.YtcenlpfanikdnaaDoor
open Go.RowKit
set_option maxRecDepth 100000

theorem bytes_ext {a : ByteArray} {l : List UInt8} (h : a.data.toList = l) : a = ⟨l.toArray⟩ := by
  cases a with | mk x =>
  subst h
  simp

theorem ret_string {a b : ByteArray} (h : a = b) : Ending.returned (.string a) = .returned (.string b) := by rw [h]

def lvB (n : List UInt8) (c : UInt8) : List UInt8 := c :: (n.drop 1).take 12
def lv (n : List UInt8) (c : UInt8) : List UInt8 := lvB n c ++ [ck (lvB n c)]

theorem lvB_len {n : List UInt8} (h : n.length = 14) (c : UInt8) : (lvB n c).length = 13 := by
  unfold lvB
  rw [List.length_cons, List.length_take, List.length_drop]
  omega

set_option maxHeartbeats 800000 in
theorem atLevel_any (s : ByteArray) (v : Int) (c : UInt8) (w : World) (hs : s.size = 14) (h0 : 0 ≤ v) (h9 : v ≤ 9) (hc : 48 + v = (c.toNat : Int)) :
    Calls Tryd.prog 19 #[.string s, .int .i64 v] w fun e w' => e = .returned (.string ⟨(lv s.data.toList c).toArray⟩) ∧ Below w.heap.size w w' := by
  have hl := len_list s
  have kc := run_one_drew w _ c hc
  have hbd : ((⟨#[c]⟩ : ByteArray) ++ s.extract 1 13).data.toList = lvB s.data.toList c := by
    rw [ByteArray.data_append, Array.toList_append, Lib.extract_data]
    rfl
  have hbl : ((⟨#[c]⟩ : ByteArray) ++ s.extract 1 13).size = 13 := by
    rw [← len_list, hbd, lvB_len (by omega)]
  have HX : Hid (_) := And.intro hbd hbl
  have h13 : 13 ≤ s.size := by omega
  clear hbd hbl hc
  go_enter Tryd.func19, Tryd.ntmps19
  go_wp2_with fail
  go_region
  clear kc
  have hb1 : Below w.heap.size w (w.alloc (.cells #[.int .u8 (48 + v)] 5)).drew := ((Below.refl _ _).alloc (Nat.le_refl _) _).drew
  generalize (w.alloc (.cells #[.int .u8 (48 + v)] 5)).drew = w1 at hb1 ⊢
  have hz1 := hb1.size
  go_wp2_with fail
  refine (checkDigit_any _ _ (by rw [HX.out.2]; omega)).mono ?_
  rintro e w2 ⟨rfl, rfl⟩
  rw [HX.out.1]
  have kc := run_one w2 _ (ck (lvB s.data.toList c)) rfl
  go_wp2
  go_ret
  refine ⟨ret_string ?_, hb1.alloc hz1 _⟩
  refine bytes_ext ?_
  rw [ByteArray.data_append, Array.toList_append, HX.out.1]
  rfl

end Go.Proofs.YtcenlpfanikdnaaDoor
