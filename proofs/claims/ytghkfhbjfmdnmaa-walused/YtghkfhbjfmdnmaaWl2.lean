/-
  wal: a log sector: the program's and the document's.
-/
import Derived.Test.YtghkfhbjfmdnmaaWl1
import Derived.Laws.CopyOwn
import Derived.Deep.OwnRows
import Derived.Deep.RegionWith
namespace Go.Proofs.Ytghkfhbjfmdnmaa
open Go.RowKit
set_option maxRecDepth 100000

/-- the bytes of a log sector -/
def scB (st : Nat) (l : List UInt8) : List UInt8 := lows 8 st ++ (lb l.length :: (l ++ (List.replicate (111 - l.length) 0 ++ lows 8 st)))
theorem scB_len (st : Nat) (l : List UInt8) (h : l.length ≤ 111) : (scB st l).length = 128 := by
  simp [scB, lows_length]
  omega
/-- a slice's length -/
def lnv : Value → Nat
  | .slice _ n _ => n
  | _ => 0
/-- the error of Sector -/
def scE (life n : Int) (l : List UInt8) : Int := if sp life n = 0 then 2 else if 111 < l.length then 102 else 0
/-- what Sector answers -/
def scL (life n : Int) (l : List UInt8) : List UInt8 := if sp life n = 0 then [] else if 111 < l.length then [] else scB (sp life n) l

set_option maxHeartbeats 1000000 in
theorem rsector_any (life n : Int) (v : Value) (l : List UInt8) (w : World) (hr : Reads w v l) :
    Calls Try.prog 11 #[.int .i64 life, .int .i64 n, v] w fun e w' => ∃ v', e = .returned (.tuple #[v', .int .i64 (scE life n l)]) ∧ Owns w' w.heap.size v' (scL life n l) ∧ Below w.heap.size w w' := by
  obtain ⟨ao, cap, rfl⟩ := hr.form
  have HS := hidw (rstamp_any life n w)
  have hlt := sp_lt life n
  unfold scE scL
  generalize sp life n = st at *
  have HLt := hidw hlt
  clear hlt
  by_cases h0 : st = 0
  · subst h0
    simp only [if_pos]
    go_enter Try.func11, Try.ntmps11
    go_wp2_with fail
    refine Calls.mono HS.out ?_
    rintro e w1 ⟨rfl, rfl⟩
    go_wp2
    go_ret2
    exact ⟨_, rfl, Owns.nil _ _, Below.refl _ _⟩
  · rw [if_neg h0, if_neg h0]
    have hI : ((st : Int) == 0) = false := by simp; omega
    by_cases h1 : 111 < l.length
    · rw [if_pos h1, if_pos h1]
      go_enter Try.func11, Try.ntmps11
      go_wp2_with fail
      refine Calls.mono HS.out ?_
      rintro e w1 ⟨rfl, rfl⟩
      go_wp2
      go_ret2
      exact ⟨_, rfl, Owns.nil _ _, Below.refl _ _⟩
    · rw [if_neg h1, if_neg h1]
      have hl : l.length ≤ 111 := by omega
      have HP := hidw (refPutWord_any (.slice none 0 0) [] st w (Reads.nil _) HLt.out (by simp))
      have HR := hidw hr
      clear hr h1
      go_enter Try.func11, Try.ntmps11
      go_wp2_with fail
      refine Calls.mono HS.out ?_
      rintro e w1 ⟨rfl, rfl⟩
      go_wp2_with fail
      refine Calls.mono HP.out ?_
      rintro e w2 ⟨v2, rfl, ho2, hb2⟩
      rw [List.nil_append] at ho2
      have hz2 := hb2.size
      have HB2 := hidw hb2
      clear HS HP hb2
      go_wp2_with (at_builtin; refine wpList_app rfl _ _ 22 rfl Try.underlying22 u8info w1.heap.size _ (lows 8 st) rfl (ho2.alloc _) _ [lb l.length] rfl (reads_one _ _ _ ?hx) ?hlen ?hbase ?hnext)
      case hx => rw [lb_toNat]; omega
      case hlen => simp [lows_length]
      case hbase => simp; omega
      case hnext =>
      intro v3 w3 ho3 hg3
      have hb3 : Below w1.heap.size w1 w3 := (HB2.out.alloc (by omega) _).grown hg3 (by simp; omega) ho2.block_ge
      have hz3 := hb3.size
      have hr3 := HR.out.below hb3
      clear ho2 hg3 HB2
      go_wp2_with (at_builtin; refine wpList_app rfl _ _ 22 rfl Try.underlying22 u8info w1.heap.size _ _ rfl ho3 _ l rfl hr3 ?hlen4 hz3 ?hnext4)
      case hlen4 => simp [lows_length]; omega
      case hnext4 =>
      intro v4 w4 ho4 hg4
      have hb4 : Below w1.heap.size w1 w4 := hb3.grown hg4 (by omega) ho3.block_ge
      have HO4 := hidw ho4
      have HB4 := hidw hb4
      clear ho3 hg4 hb3 hr3 ho4 hb4
      go_wp2_with fail
      go_loopw [9] (fun v wx => ∃ (k : Nat) (L : List UInt8), k ≤ 111 - l.length ∧ Hid (L = lows 8 st ++ [lb l.length] ++ l ++ List.replicate k 0) ∧ Hid (L.length = 9 + l.length + k) ∧ Owns wx w1.heap.size v L ∧ Below w1.heap.size w1 wx) (fun v _ => 120 - lnv v)
      case atStart => exact ⟨0, _, by omega, rfl, by show _ = _; simp [lows_length]; omega, by simpa using HO4.out, HB4.out⟩
      case round =>
        obtain ⟨k, L, hk, HL, HLn, ho, hb⟩ := hrel
        have hz := hb.size
        have HB := hidw hb
        obtain ⟨ao5, cap5, hv5⟩ := ho.reads.form
        rw [HLn.out] at hv5
        subst hv5
        clear hb
        by_cases hk2 : k < 111 - l.length
        · have hI2 : ((9 + l.length + k : Nat) : Int) < 120 := by omega
          go_wp2_with (at_builtin; refine wpList_app rfl _ _ 22 rfl Try.underlying22 u8info w1.heap.size _ L rfl (ho.alloc _) _ [0] rfl (reads_one _ _ _ ?hx5) ?hlen5 ?hbase5 ?hnext5)
          case hx5 => rfl
          case hlen5 => rw [HLn.out]; simp; omega
          case hbase5 => simp; omega
          case hnext5 =>
          intro v6 w6 ho6 hg6
          have HO6 := hidw ho6
          have HB6 := hidw (show Below w1.heap.size w1 w6 from (HB.out.alloc (by omega) _).grown hg6 (by simp; omega) ho.block_ge)
          have HL6 := hidw (show L ++ [0] = lows 8 st ++ [lb l.length] ++ l ++ List.replicate (k + 1) 0 by rw [List.replicate_succ', HL.out, List.append_assoc (lows 8 st ++ [lb l.length] ++ l)])
          have HM6 := hidw (show (L ++ [0]).length = 9 + l.length + (k + 1) by rw [List.length_append, HLn.out]; simp; omega)
          obtain ⟨ao6, cap6, hv6⟩ := ho6.reads.form
          rw [HM6.out] at hv6
          clear ho6 ho hg6 HB
          subst hv6
          go_wp2_with fail
          go_roundw
          case rel => exact ⟨k + 1, _, by omega, HL6, HM6, HO6.out, HB6.out⟩
          case measure => simp [lnv]; omega
        · have HK3 := hidw (show k = 111 - l.length by omega)
          have hI2 : ¬ ((9 + l.length + k : Nat) : Int) < 120 := by omega
          have HO := hidw ho
          have HPW := hidw (refPutWord_any _ _ st wr ho.reads HLt.out (by rw [HLn.out]; omega))
          clear ho hk2 hk
          go_wp2_with fail
          refine Calls.mono HPW.out ?_
          rintro e w7 ⟨v7, rfl, ho7, hb7⟩
          have HO7 := hidw ho7
          have HB7 := hidw hb7
          clear ho7 hb7 HPW
          go_wp2
          go_ret2
          refine ⟨_, rfl, ?_, HB.out.trans (HB7.out.mono HB.out.size)⟩
          have := HO7.out.mono HB.out.size
          rw [HL.out, HK3.out] at this
          unfold scB
          simp only [List.append_assoc, List.cons_append, List.nil_append] at this ⊢
          exact this
end Go.Proofs.Ytghkfhbjfmdnmaa
