/-
  Sdg: Sheets: a number's digits; the text of an error and of a Fault.
-/
import Derived.Test.YtmgfdnccmeahjaaGreatDoorZJ
import Derived.Test.YtmgfdnccmeahjaaGreatDoorShelf
import Derived.Test.YtmgfdnccmeahjaaGreatDoorRows
import Derived.Lib.ItoaNum
import Derived.Lib.ItoaMem
import Derived.Lib.ItoaLen
import Derived.Lib.LaidTab
import Derived.Lib.AppendIntMem
import Derived.Laws.BytesString
import Derived.Laws.IdiomStrings
import Derived.Deep.RegionHeld3
import Derived.Deep.DeepCutAuto
namespace Go.Proofs.YtmgfdnccmeahjaaGreatDoor
open Go.RowKit
set_option maxRecDepth 100000
set_option linter.unusedVariables false
set_option linter.unusedSimpArgs false

/-- nothing older than w has turned -/
def LtB (w w' : World) : Prop := Below w.heap.size w w'
theorem LtB.step {a b c : World} (h : LtB a b) (h2 : Below b.heap.size b c) : LtB a c := Below.trans h (Below.mono h2 (Below.size h))
/-- the table of tens lies there -/
def HasPw (w : World) : Prop := Lib.TabIs Tryz.prog w "internal/strconv.uint64pow10" .u64 Lib.pow10Tab
theorem HasPw.below {w w' : World} (h : HasPw w) (hb : Below w.heap.size w w') : HasPw w' := by
  have hg : Tryz.prog.globalNamed "internal/strconv.uint64pow10" = some 21 := by kernel_rfl
  unfold HasPw Lib.TabIs World.var? at h ⊢
  rw [hg] at h ⊢
  simp only [Option.bind_some] at h ⊢
  cases e : w.heap[(21 : Nat)]? with
  | none => rw [e] at h; simp at h
  | some b =>
    have hlt := (Array.getElem?_eq_some_iff.1 e).1
    rw [hb.block _ hlt]
    exact h
theorem pw_datum : (Rows.laid_internal_strconv_uint64pow10 : DataW Unit) = Lib.tabData .u64 Lib.pow10Tab := by kernel_rfl
theorem hasPw_of {rest : List (String × DataW Unit)} {w : World} (h : laidMet Tryz.prog (("internal/strconv.uint64pow10", Rows.laid_internal_strconv_uint64pow10) :: rest) w) : HasPw w := by
  rw [pw_datum] at h
  exact Lib.tabIs_of_head (show Tryz.prog.globalNamed "internal/strconv.uint64pow10" = some 21 by kernel_rfl) (show (Tryz.prog.globals[(21 : Nat)]?).map (·.type) = some 273 by kernel_rfl) Tryz.underlying273 Tryz.underlying182 (by kernel_rfl) (by kernel_rfl) h

/-- a number's digits as a text -/
def dcT (n : Nat) : ByteArray := ⟨(Lib.decDigits n).toArray⟩
/-- a digit -/
def dgt (n : Nat) : UInt8 := UInt8.ofNat (48 + n % 10)
theorem dgt_toNat (n : Nat) : (dgt n).toNat = 48 + n % 10 := by
  unfold dgt
  rw [UInt8.toNat_ofNat']
  omega
theorem dcT_big (n : Nat) (h : ¬ n < 10) : dcT n = dcT (n / 10) ++ ⟨#[dgt n]⟩ := by
  unfold dcT
  rw [Lib.decDigits, dif_neg h]
  rw [show (UInt8.ofNat (48 + n % 10)) = dgt n from rfl]
  apply ByteArray.ext
  rw [ByteArray.data_append]
  simp
theorem dcT_small (n : Nat) (h : n < 10) : dcT n = ⟨#[dgt n]⟩ := by
  unfold dcT
  rw [Lib.decDigits, dif_pos h]
  unfold dgt
  rw [Nat.mod_eq_of_lt h]
theorem dcT_size (n : Nat) (h : n ≤ 9223372036854775807) : (dcT n).size ≤ 21 := by
  have := Lib.itoa_length_le (n : Int) (by omega) (by omega)
  rw [Lib.itoa_nonneg] at this
  unfold dcT
  simpa [ByteArray.size] using this
theorem conv_one (w : World) (b : UInt8) : (convert 92 9 (.slice (some ⟨w.heap.size, 0, none⟩) 1 1)).run Tryz.prog (w.alloc (.cells #[.int .u8 (b.toNat : Int)] 5)) = .ok (.string ⟨#[b]⟩) (w.alloc (.cells #[.int .u8 (b.toNat : Int)] 5)) :=
  run_convert_bytes_back (w.alloc (.cells #[.int .u8 (b.toNat : Int)] 5)) 92 9 5 _ 1 [b] Tryz.underlying92 Tryz.underlying5 Tryz.underlying9 (fun j hj => by
    match j, hj with
    | 0, _ => simp [Addr.add])
set_option maxHeartbeats 2000000 in
theorem size_any : ∀ (n : Nat) (w : World), n ≤ 9223372036854775807 → Calls Tryz.prog 104 #[.int .u64 (n : Int)] w fun e w' => e = .returned (.string (dcT n)) ∧ Below w.heap.size w w' := by
  intro n
  induction n using Nat.strongRecOn with
  | ind n ih =>
    intro w hn
    have kc := conv_one w (dgt n)
    rw [dgt_toNat] at kc
    have hw : ((48 + n % 10 : Nat) : Int) = 48 + (n : Int) % 10 := by omega
    rw [hw] at kc
    have HB := hid (show Below w.heap.size w (w.alloc (.cells #[.int .u8 (48 + (n : Int) % 10)] 5)) from (Below.refl _ _).alloc (Nat.le_refl _) _)
    clear hw
    by_cases h10 : n < 10
    · have HV := hid (dcT_small n h10)
      have hI : (n : Int) < 10 := by omega
      generalize dgt n = d at *
      go_enter Tryz.func104, Tryz.ntmps104
      go_wp2
      go_ret
      exact ⟨congrArg (fun x => Ending.returned (.string x)) HV.out.symm, HB.out⟩
    · have HV := hid (dcT_big n h10)
      have hI : ¬ (n : Int) < 10 := by omega
      have hz := dcT_size (n / 10) (by omega)
      have hi := fun w' => ih (n / 10) (by omega) w' (by omega)
      rw [show ((n / 10 : Nat) : Int) = (n : Int) / 10 by omega] at hi
      have HI := hid hi
      clear hi h10 ih
      generalize dgt n = d at *
      generalize dcT (n / 10) = q at *
      have hs : (q ++ (⟨#[d]⟩ : ByteArray)).size = q.size + 1 := by rw [ByteArray.size_append]; rfl
      go_enter Tryz.func104, Tryz.ntmps104
      go_wp2_with fail
      refine Calls.mono (HI.out _) ?_
      rintro e w' ⟨rfl, hb⟩
      have HB2 := hid (HB.out.trans (hb.mono HB.out.size))
      clear hb
      go_wp2
      go_ret
      exact ⟨congrArg (fun x => Ending.returned (.string x)) HV.out.symm, HB2.out⟩
set_option maxHeartbeats 1000000 in
theorem digits_any (n : Nat) (w : World) (hn : n ≤ 9223372036854775807) : Calls Tryz.prog 60 #[.int .i64 (n : Int)] w fun e w' => e = .returned (.string (dcT n)) ∧ Below w.heap.size w w' := by
  have HS := hid (fun w => size_any n w hn)
  have hI : ¬ (n : Int) < 0 := by omega
  go_enter Tryz.func60, Tryz.ntmps60
  go_wp2_with fail
  refine Calls.mono (HS.out _) ?_
  rintro e w' ⟨rfl, hb⟩
  go_wp2
  go_ret
  exact ⟨rfl, hb⟩
theorem itoa_any (n : Nat) (w : World) (hn : n ≤ 9223372036854775807) (hP : HasPw w) : Calls Tryz.prog 102 #[.int .i64 (n : Int)] w fun e w' => e = .returned (.string (dcT n)) ∧ Below w.heap.size w w' := by
  refine (Tryz.strconv_Itoa (n : Int) (by omega) (by omega) w hP).mono ?_
  rintro e w' ⟨rfl, k, os, rfl⟩
  rw [Lib.itoa_nonneg]
  exact ⟨rfl, Lib.below_grow _ w (Nat.le_refl _) k os⟩
/-- an error's text -/
def erT (c : Nat) : ByteArray := ⟨(tV c).toArray⟩
theorem Sn.text {A : Nat → Addr} {w : World} (h : Sn A w) {c : Nat} (hc : 1 ≤ c ∧ c ≤ 20) : w.cell? (A c) = some (.string (erT c)) := by
  obtain ⟨_, ⟨s, h2, h3⟩, _⟩ := h c hc.1 hc.2
  rw [h2]
  unfold erT
  rw [← h3]
theorem erT_size : ∀ c : Fin 21, (erT c.1).size ≤ 60 := by decide +kernel
set_option maxHeartbeats 1000000 in
theorem errText (a : Addr) (s : ByteArray) (w : World) (h : w.cell? a = some (.string s)) : Calls Tryz.prog 325 #[.pointer (some a)] w fun e w' => e = .returned (.string s) ∧ w' = w := by
  go_enter Tryz.func325, Tryz.ntmps325
  go_wp2
  go_ret
  exact ⟨rfl, rfl⟩
set_option maxHeartbeats 1000000 in
theorem textOf_any (a : Addr) (s : ByteArray) (w : World) (h : w.cell? a = some (.string s)) : Calls Tryz.prog 103 #[.iface 312 (.pointer (some a))] w fun e w' => e = .returned (.string s) ∧ w' = w := by
  have HE := hid (errText a s w h)
  clear h
  go_enter Tryz.func103, Tryz.ntmps103
  go_wp2_with fail
  refine Calls.mono HE.out ?_
  rintro e w' ⟨rfl, hw⟩
  replace hw := hw.symm
  subst hw
  go_wp2
  go_ret
  exact ⟨rfl, rfl⟩
/-- a Fault's text -/
def fTx (x y : Nat) (s : ByteArray) : ByteArray := ((((⟨#[108, 105, 110, 101, 32]⟩ ++ dcT x) ++ ⟨#[32, 99, 111, 108, 117, 109, 110, 32]⟩) ++ dcT y) ++ ⟨#[58, 32]⟩) ++ s
set_option maxHeartbeats 4000000 in
theorem ferror_any (A : Nat → Addr) (f c x y : Nat) (w : World) (hx : x ≤ 9223372036854775807) (hy : y ≤ 9223372036854775807) (hP : HasPw w) (h : w.heap[f]? = some (.cells #[.int .i64 (x : Int), .int .i64 (y : Int), erV A c] 42 (0, 0))) (hA : Sn A w) (hc : 1 ≤ c ∧ c ≤ 20) :
    Calls Tryz.prog 59 #[.pointer (some ⟨f, 0, none⟩)] w fun e w' => e = .returned (.string (fTx x y (erT c))) ∧ Below w.heap.size w w' := by
  have hfl : f < w.heap.size := (Array.getElem?_eq_some_iff.1 h).1
  rw [erV_pos A (by omega)] at h
  have KK := hid (fun wx (hx : LtB w wx) => show wx.cell? ⟨f, 0, none⟩ = some (.int .i64 (x : Int)) ∧ wx.cell? ⟨f, 1, none⟩ = some (.int .i64 (y : Int)) ∧ wx.cell? ⟨f, 2, none⟩ = some (.iface 312 (.pointer (some (A c)))) from by
    have h' := (Below.block hx f hfl).trans h
    exact ⟨Lib.cell_of_heap h' 0, Lib.cell_of_heap h' 1, Lib.cell_of_heap h' 2⟩)
  have CX := hid (fun wx (hb : LtB w wx) => itoa_any x wx hx (hP.below hb))
  have CY := hid (fun wx (hb : LtB w wx) => itoa_any y wx hy (hP.below hb))
  have CT := hid (fun wx (hb : LtB w wx) => textOf_any (A c) (erT c) wx ((hA.below hb).text hc))
  have z1 := dcT_size x hx
  have z2 := dcT_size y hy
  have z3 := erT_size ⟨c, by omega⟩
  simp only at z3
  unfold fTx
  obtain ⟨c0, c1, c2⟩ := KK.out w (Below.refl _ _)
  obtain ⟨d0, d1, d2⟩ := KK.out w.drew (Below.refl _ _).drew
  have K0 : LtB w w := Below.refl _ _
  have K1 : LtB w w.drew := (Below.refl _ _).drew
  generalize dcT x = q1 at *
  generalize dcT y = q2 at *
  generalize erT c = q3 at *
  generalize A c = a at *
  have j1 : ¬ 9223372036854775807 < 5 + q1.size := by omega
  have j2 : ¬ 9223372036854775807 < 5 + q1.size + 8 := by omega
  have j3 : ¬ 9223372036854775807 < 5 + q1.size + 8 + q2.size := by omega
  have j4 : ¬ 9223372036854775807 < 5 + q1.size + 8 + q2.size + 2 := by omega
  have j5 : ¬ 9223372036854775807 < 5 + q1.size + 8 + q2.size + 2 + q3.size := by omega
  clear h hA hP z1 z2 z3
  go_enter Tryz.func59, Tryz.ntmps59
  go_wp2_with fail
  go_region_held3 (fun wx => wx.cell? ⟨f, 0, none⟩ = some (.int .i64 (x : Int)) ∧ wx.cell? ⟨f, 1, none⟩ = some (.int .i64 (y : Int)) ∧ wx.cell? ⟨f, 2, none⟩ = some (.iface 312 (.pointer (some a)))) (exact KK.out _ (by assumption)) (first
    | (go_at_call_of 102 (Value.int .i64 (x : Int)); refine (CX.out _ (by assumption)).mono ?_; rintro e w3 ⟨rfl, s3⟩; have K3 := LtB.step (by assumption) s3; clear s3)
    | (go_at_call_of 102 (Value.int .i64 (y : Int)); refine (CY.out _ (by assumption)).mono ?_; rintro e w4 ⟨rfl, s4⟩; have K4 := LtB.step (by assumption) s4; clear s4)
    | (go_at_call 103; refine (CT.out _ (by assumption)).mono ?_; rintro e w5 ⟨rfl, s5⟩; replace s5 := s5.symm; subst s5))
  all_goals
    go_wp2
    go_ret
    exact ⟨rfl, by assumption⟩
end Go.Proofs.YtmgfdnccmeahjaaGreatDoor
