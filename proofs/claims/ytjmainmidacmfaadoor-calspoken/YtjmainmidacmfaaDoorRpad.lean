/-
  The document's pad and part.
-/
import Derived.Test.YtjmainmidacmfaaDoorDec
import Derived.Test.YtjmainmidacmfaaDoorBytes
namespace Go.Proofs.YtjmainmidacmfaaDoor
open Go.RowKit
set_option maxRecDepth 100000

/-- a text of one byte -/
theorem run_one (w : World) (z : Int) (c : UInt8) (h : z = (c.toNat : Int)) :
    (convert 75 9 (.slice (some ⟨w.heap.size, 0, none⟩) 1 1)).run Tryd.prog (w.alloc (.cells #[.int .u8 z] 5)) = .ok (.string ⟨#[c]⟩) (w.alloc (.cells #[.int .u8 z] 5)) :=
  run_text (l := [c]) 75 9 Tryd.underlying75 Tryd.underlying5 Tryd.underlying9 (reads_one w c z h)

theorem ba_ext {a b : ByteArray} (h : a.data.toList = b.data.toList) : a = b := by
  cases a with | mk x =>
  cases b with | mk y =>
  congr 1
  exact Array.toList_inj.1 h

theorem len_ba (s : ByteArray) : s.data.toList.length = s.size := Array.length_toList

set_option maxHeartbeats 1000000 in
theorem refPad_any (n k : Nat) (hn : n ≤ 1000000000000) (hk : k ≤ 20) (hp : 0 < n ∨ 0 < k) (hR : (padD n k).length ≤ 100) (w : World) :
    Calls Tryd.prog 45 #[.int .i64 (n : Int), .int .i64 (k : Int)] w fun e w' => e = .returned (.string ⟨(padD n k).toArray⟩) ∧ Below w.heap.size w w' := by
  have hpad := pad_is n k [] hp
  rw [List.append_nil] at hpad
  generalize padD n k = R at *
  have HP := hid hpad
  clear hpad hp
  go_enter Tryd.func45, Tryd.ntmps45
  go_wp2_with fail
  go_loopw [0, 1, 5] (fun a b s wr => ∃ (N : Nat) (z : Int) (t : ByteArray), a = .int .i64 (N : Int) ∧ b = .int .i64 z ∧ s = .string t ∧ N ≤ 1000000000000 ∧ z = (k : Int) - t.size ∧ t.size ≤ 100 ∧ Pad N z.toNat t.data.toList R ∧ Below w.heap.size w wr) (fun a b _ _ => (intOf a).toNat + (intOf b).toNat)
  case atStart => exact ⟨n, (k : Int), ⟨#[]⟩, rfl, rfl, rfl, hn, by show (k : Int) = (k : Int) - ((0 : Nat) : Int); omega, by show 0 ≤ 100; omega, by rw [Int.toNat_natCast]; exact HP.out, Below.refl _ _⟩
  case round =>
    obtain ⟨N, z, t, rfl, rfl, rfl, hN, hz, ht, hpd, hbl⟩ := hrel
    have hzz := hbl.size
    have hlen := Pad.length hpd
    rw [len_ba] at hlen
    have HPD := hid hpd
    have HZ := hid hz
    have hzb : -100 ≤ z ∧ z ≤ 20 := by omega
    clear HP hpd hz
    have hgo : (0 < N ∨ 0 < z) ∨ (N = 0 ∧ z ≤ 0) := by omega
    rcases hgo with hgo | ⟨rfl, hz0⟩
    · have hstep := HPD.out.step (by omega)
      have hl2 := Pad.length hstep
      simp only [List.length_cons, len_ba] at hl2
      have hcb : (dgt N).toNat = 48 + N % 10 := dgt_toNat N
      have hi : IntKind.i64.wrap (48 + (N : Int) % 10) = ((dgt N).toNat : Int) := by rw [IntKind.wrap_i64]; omega
      have hub : IntKind.u8.wrap ((dgt N).toNat : Int) = ((dgt N).toNat : Int) := by rw [IntKind.wrap_u8]; omega
      have hsn : ((⟨#[dgt N]⟩ : ByteArray) ++ t).size = t.size + 1 := by rw [ByteArray.size_append]; show 1 + t.size = _; omega
      have hda : ((⟨#[dgt N]⟩ : ByteArray) ++ t).data.toList = dgt N :: t.data.toList := by rw [ByteArray.data_append, Array.toList_append]; rfl
      have HX := hid (And.intro hsn (And.intro hda hstep))
      have HM := hid hbl
      have hcr : 48 ≤ (dgt N).toNat ∧ (dgt N).toNat ≤ 57 := by omega
      clear hstep hsn hda hbl HPD hcb
      have hq10 : (N : Int).tdiv 10 = (N : Int) / 10 := Int.tdiv_eq_ediv_of_nonneg (by omega)
      generalize dgt N = c at *
      have kc := run_one wr _ c rfl
      have hsum : (48 : Int) + (N : Int) % 10 = (c.toNat : Int) := by rw [← hi, IntKind.wrap_i64]; omega
      by_cases hn0 : 0 < N
      · have b1 : decide (0 < (N : Int)) = true := decide_eq_true (by omega)
        go_wp2
        go_roundw
        case rel => exact ⟨N / 10, z - 1, _, by go_num, by go_num, rfl, by omega, by rw [HX.out.1, HZ.out]; omega, by rw [HX.out.1]; omega, by rw [HX.out.2.1, show (z - 1).toNat = z.toNat - 1 by omega]; exact HX.out.2.2, HM.out.alloc hzz _⟩
        case measure => simp [intOf]; omega
      · have b1 : decide (0 < (N : Int)) = false := decide_eq_false (by omega)
        have b1' : ¬ 0 < (N : Int) := by omega
        have hz1 : 0 < z := by omega
        have b2 : decide (0 < z) = true := decide_eq_true hz1
        go_wp2
        go_roundw
        case rel => exact ⟨N / 10, z - 1, _, by go_num, by go_num, rfl, by omega, by rw [HX.out.1, HZ.out]; omega, by rw [HX.out.1]; omega, by rw [HX.out.2.1, show (z - 1).toNat = z.toNat - 1 by omega]; exact HX.out.2.2, HM.out.alloc hzz _⟩
        case measure => simp [intOf]; omega
    · have hfin : R = t.data.toList := by
        have h := HPD.out
        rw [show z.toNat = 0 by omega] at h
        exact h.done
      have b2 : decide (0 < z) = false := decide_eq_false (by omega)
      have HF := hid (show t = ⟨R.toArray⟩ from ba_ext (by show t.data.toList = R.toArray.toList; rw [List.toList_toArray]; exact hfin.symm))
      clear HPD hfin
      go_wp2
      go_ret
      exact ⟨congrArg (fun x => Ending.returned (.string x)) HF.out, hbl⟩
end Go.Proofs.YtjmainmidacmfaaDoor
