/-
  Numbers padded with zeros: the program's padded.
-/
import Derived.Test.YtjpglgemnaknhaaGreatDoorRpadp
import Derived.Test.YtjpglgemnaknhaaGreatDoorCweek
import Derived.Test.YtjpglgemnaknhaaGreatDoorShelf
import Derived.Lib.AppendIntMem
namespace Go.Proofs.YtjpglgemnaknhaaGreatDoor
open Go.RowKit
set_option maxRecDepth 100000

/-- the table of tens lies there -/
def HasPw (w : World) : Prop := Lib.TabIs Tryz.prog w "internal/strconv.uint64pow10" .u64 Lib.pow10Tab
theorem HasPw.below {w w' : World} (h : HasPw w) (hb : Below w.heap.size w w') : HasPw w' := by
  have hg : Tryz.prog.globalNamed "internal/strconv.uint64pow10" = some 6 := by kernel_rfl
  unfold HasPw Lib.TabIs World.var? at h ⊢
  rw [hg] at h ⊢
  simp only [Option.bind_some] at h ⊢
  cases e : w.heap[(6 : Nat)]? with
  | none => rw [e] at h; simp at h
  | some b =>
    have hlt := (Array.getElem?_eq_some_iff.1 e).1
    rw [hb.block _ hlt]
    exact h
theorem HasPw.alloc {w : World} (h : HasPw w) (c : _) : HasPw (w.alloc c) := h.below ((Below.refl _ _).alloc (Nat.le_refl _) _)

theorem pw_datum : (Rows.laid_internal_strconv_uint64pow10 : DataW Unit) = Lib.tabData .u64 Lib.pow10Tab := by kernel_rfl

theorem hasPw_of {rest : List (String × DataW Unit)} {w : World} (h : laidMet Tryz.prog (("internal/strconv.uint64pow10", Rows.laid_internal_strconv_uint64pow10) :: rest) w) : HasPw w := by
  rw [pw_datum] at h
  exact Lib.tabIs_of_head (show Tryz.prog.globalNamed "internal/strconv.uint64pow10" = some 6 by kernel_rfl) (show (Tryz.prog.globals[(6 : Nat)]?).map (·.type) = some 144 by kernel_rfl) Tryz.underlying144 Tryz.underlying120 (by kernel_rfl) (by kernel_rfl) h

theorem nDig_lt (k n : Nat) (hk : 1 ≤ k) (h : n < 10 ^ k) : Lib.nDigits n ≤ k := by
  induction k generalizing n with
  | zero => omega
  | succ k ih =>
    by_cases hn : n < 10
    · rw [Lib.nDigits_small hn]; omega
    · rw [Lib.nDigits_big hn]
      by_cases hk0 : k = 0
      · subst hk0; simp at h; omega
      · have := ih (n / 10) (by omega) (by rw [Nat.pow_succ] at h; omega)
        omega

theorem rep_zero (c : Nat) : Lib.repeatL [48] c = List.replicate c 48 := by
  induction c with
  | zero => rfl
  | succ c ih => unfold Lib.repeatL; rw [ih]; rfl

theorem padD_len (n k : Nat) (h : Lib.nDigits n ≤ k) : (padD n k).length = k := by
  unfold padD
  rw [List.length_append, List.length_replicate, Lib.decDigits_length]
  omega

/-- a padded number's text -/
def pT (n : Int) (k : Nat) : ByteArray := ⟨(padD n.toNat k).toArray⟩
theorem pT_list (n : Int) (k : Nat) : (pT n k).data.toList = padD n.toNat k := by unfold pT; show (padD n.toNat k).toArray.toList = _; rw [List.toList_toArray]
theorem pT_size (n : Int) (k : Nat) (h : Lib.nDigits n.toNat ≤ k) : (pT n k).size = k := by rw [← len_ba, pT_list, padD_len _ _ h]

set_option maxHeartbeats 1000000 in
theorem padded_any (n : Int) (k : Nat) (h0 : 0 ≤ n) (hk1 : 1 ≤ k) (hk : k ≤ 9) (hn : n.toNat < 10 ^ k) (w : World) (hT : HasPw w) :
    Calls Tryz.prog 33 #[.int .i64 n, .int .i64 (k : Int)] w fun e w' => e = .returned (.string (pT n k)) ∧ Below w.heap.size w w' := by
  have hd := nDig_lt k n.toNat hk1 hn
  have hbig : n.toNat < 10 ^ 9 := Nat.lt_of_lt_of_le hn (Nat.pow_le_pow_right (by omega) hk)
  have hbig2 : n ≤ 1000000000 := by have : (10 : Nat) ^ 9 = 1000000000 := by decide
                                    omega
  have hi : Lib.itoa n = Lib.decDigits n.toNat := by unfold Lib.itoa; rw [if_neg (by omega)]
  have HI := hid (Tryz.strconv_Itoa n (by omega) (by omega) w hT)
  rw [hi] at HI
  have hqs : (⟨(Lib.decDigits n.toNat).toArray⟩ : ByteArray).size = Lib.nDigits n.toNat := by
    rw [← len_ba]; show (Lib.decDigits n.toNat).toArray.toList.length = _; rw [List.toList_toArray, Lib.decDigits_length]
  have HR := hid (fun w => Tryz.strings_Repeat ⟨#[48]⟩ (k - Lib.nDigits n.toNat) w (by omega) (by show 1 * (k - Lib.nDigits n.toNat) ≤ _; omega))
  have hrl : (⟨(Lib.repeatL (⟨#[48]⟩ : ByteArray).data.toList (k - Lib.nDigits n.toNat)).toArray⟩ : ByteArray) = ⟨(List.replicate (k - Lib.nDigits n.toNat) 48).toArray⟩ := by
    show (⟨(Lib.repeatL [48] _).toArray⟩ : ByteArray) = _
    rw [rep_zero]
  rw [hrl] at HR
  have hrs : (⟨(List.replicate (k - Lib.nDigits n.toNat) (48 : UInt8)).toArray⟩ : ByteArray).size ≤ 9 := by
    rw [← len_ba]; show (List.replicate (k - Lib.nDigits n.toNat) (48 : UInt8)).toArray.toList.length ≤ 9; rw [List.toList_toArray, List.length_replicate]; omega
  have HE := hid (show (⟨(List.replicate (k - Lib.nDigits n.toNat) (48 : UInt8)).toArray⟩ : ByteArray) ++ (⟨(Lib.decDigits n.toNat).toArray⟩ : ByteArray) = pT n k from ba_ext (by
    rw [ByteArray.data_append, Array.toList_append, pT_list]; unfold padD; rfl))
  generalize hc : k - Lib.nDigits n.toNat = c at *
  have hsub : (k : Int) - ((⟨(Lib.decDigits n.toNat).toArray⟩ : ByteArray).size : Int) = (c : Int) := by rw [hqs]; omega
  have hq9 : (⟨(Lib.decDigits n.toNat).toArray⟩ : ByteArray).size ≤ 9 := by omega
  generalize pT n k = R at *
  generalize (⟨(Lib.decDigits n.toNat).toArray⟩ : ByteArray) = q at *
  generalize (⟨(List.replicate c (48 : UInt8)).toArray⟩ : ByteArray) = z at *
  have hsz : (z ++ q).size ≤ 20 := by rw [ByteArray.size_append]; omega
  have HT := hid hT
  clear hi hrl hd hbig hqs hn hc hT
  go_enter Tryz.func33, Tryz.ntmps33
  go_wp2_with fail
  refine Calls.mono HI.out ?_
  rintro e w1 ⟨rfl, k1, os, rfl⟩
  have hb1 := Lib.below_grow w.heap.size w (Nat.le_refl _) k1 os
  generalize Go.Sort.grow (w.drewN k1) os = w1 at *
  go_wp2_with fail
  refine (HR.out _).mono ?_
  rintro e w2 ⟨rfl, hb2⟩
  go_wp2
  go_ret
  exact ⟨congrArg (fun x => Ending.returned (.string x)) HE.out, hb1.trans (hb2.mono hb1.size)⟩

/-- both tables still lie there, and nothing older than w0 has turned -/
def Su (w0 w : World) : Prop := HasAh w ∧ HasPw w ∧ Below w0.heap.size w0 w
theorem Su.alloc {w0 w : World} (h : Su w0 w) (o : _) : Su w0 (w.alloc o) := ⟨h.1.alloc o, h.2.1.alloc o, h.2.2.alloc h.2.2.size o⟩
theorem Su.call {w0 w w' : World} (h : Su w0 w) (hb : Below w.heap.size w w') : Su w0 w' := ⟨h.1.below hb, h.2.1.below hb, h.2.2.trans (hb.mono h.2.2.size)⟩
def LaterP (w w' : World) : Prop := Below w.heap.size w w'

theorem padded_since (n : Int) (k : Nat) (z : Int) (hz : z = (k : Int)) (h0 : 0 ≤ n) (hk1 : 1 ≤ k) (hk : k ≤ 9) (hn : n.toNat < 10 ^ k) (w1 w : World) (hT : HasPw w1) (hx : LaterP w1 w) :
    Calls Tryz.prog 33 #[.int .i64 n, .int .i64 z] w fun e w' => e = .returned (.string (pT n k)) ∧ LaterP w1 w' := by
  subst hz
  exact (padded_any n k h0 hk1 hk hn w (hT.below hx)).mono (by rintro e w' ⟨rfl, hb⟩; exact ⟨rfl, Below.trans hx (hb.mono (Below.size hx))⟩)
end Go.Proofs.YtjpglgemnaknhaaGreatDoor
