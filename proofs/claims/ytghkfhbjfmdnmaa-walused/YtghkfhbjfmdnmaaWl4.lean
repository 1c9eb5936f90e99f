/-
  wal: Used: the program's and the document's.
-/
import Derived.Test.YtghkfhbjfmdnmaaWl3
namespace Go.Proofs.Ytghkfhbjfmdnmaa
open Go.RowKit
set_option maxRecDepth 100000

theorem equalIn_bytes_nil (w : World) (n : Nat) (ad : Addr) (l c : Nat) : (Op.equalIn (n + 1) 22 (.slice (some ad) l c) (.slice none 0 0)).run Try.prog w = .ok false w := by
  simp [Op.equalIn, run_underlying Try.underlying22]
theorem eql_bytes_nil (w : World) (ad : Addr) (l c : Nat) : (binOp .eql 22 (.slice (some ad) l c) (.slice none 0 0)).run Try.prog w = .ok (.bool false) w := by
  simp only [binOp]
  simp [Op.equal, Op.maxDepth, equalIn_bytes_nil w 9999 ad l c]
set_option maxHeartbeats 400000 in
theorem bclone_some (ad : Addr) (n c : Nat) (l : List UInt8) (w : World) (hr : Reads w (.slice (some ad) n c) l) (hl : l.length ≤ 140737488355328) :
    Calls Try.prog 19 #[.slice (some ad) n c] w fun e w' => ∃ v', e = .returned v' ∧ Owns w' w.heap.size v' l ∧ Below w.heap.size w w' := by
  have hs : ∀ w : World, (binOp .eql 22 (.slice (some ad) n c) (.slice none 0 0)).run Try.prog w = .ok (.bool false) w := fun w => eql_bytes_nil w ad _ _
  have HR := hidw hr
  have HO := hidw (show Owns (w.alloc (.cells #[] 5)) w.heap.size (.slice (some ⟨w.heap.size, 0, none⟩) 0 0) [] from World.ownsRow_lit w #[] 0 (Nat.le_refl _) (by unfold maxLen; omega) rfl)
  have B1 := hidw ((Below.refl w.heap.size w).alloc (Nat.le_refl _) (.cells #[] 5))
  clear hr
  go_enter Try.func19, Try.ntmps19
  go_wp2_with (at_builtin; refine wpList_app rfl _ _ 22 rfl Try.underlying22 u8info w.heap.size _ [] rfl HO.out _ l rfl (HR.out.alloc _) (by simpa using hl) (by simp) ?hnext)
  case hnext =>
    intro v1 w1 ho1 hg1
    have H1 := hidw ho1
    have B2 := hidw (B1.out.grown hg1 (by simp) (fun k hk => HO.out.block_ge k hk))
    clear ho1 hg1
    go_wp2
    go_ret
    exact ⟨_, rfl, H1.out, B2.out⟩

/-- is it a log sector with this stamp -/
def usO (st : Nat) (l : List UInt8) : Bool := decide (st ≠ 0) && (decide (l.length = 128) && (decide (le (l.take 8) = st) && (decide (le ((l.drop 120).take 8) = st) && decide ((l.getD 8 0).toNat ≤ 111))))
/-- its used bytes -/
def usL (st : Nat) (l : List UInt8) : List UInt8 := if usO st l = true then (l.drop 9).take (l.getD 8 0).toNat else []
/-- what Used answers -/
def Usd (st : Nat) (l : List UInt8) (w : World) (e : Ending) (w' : World) : Prop := ∃ v', e = .returned (.tuple #[v', .bool (usO st l)]) ∧ Owns w' w.heap.size v' (usL st l) ∧ Below w.heap.size w w'
theorem Usd.no {st : Nat} {l : List UInt8} {w : World} (h : usO st l = false) : Usd st l w (.returned (.tuple #[.slice none 0 0, .bool false])) w :=
  ⟨_, by rw [h], by unfold usL; rw [h]; exact Owns.nil _ _, Below.refl _ _⟩
theorem Usd.yes {st : Nat} {l R : List UInt8} {w w' : World} {v : Value} (h : usO st l = true) (hR : (l.drop 9).take (l.getD 8 0).toNat = R) (ho : Owns w' w.heap.size v R) (hb : Below w.heap.size w w') : Usd st l w (.returned (.tuple #[v, .bool true])) w' :=
  ⟨v, by rw [h], by unfold usL; rw [h, if_pos rfl, hR]; exact ho, hb⟩
theorem wordV_long {l : List UInt8} (h : ¬ l.length < 8) : wordV l = .tuple #[.int .u64 (le (l.take 8)), .int .i64 0] := if_neg h
set_option maxHeartbeats 2000000 in
theorem used_any (life n : Int) (v : Value) (l : List UInt8) (w : World) (hr : Reads w v l) :
    Calls Try.prog 13 #[.int .i64 life, .int .i64 n, v] w fun e w' => Usd (sp life n) l w e w' := by
  have HS := hidw (stamp_any life n w)
  generalize sp life n = st at *
  by_cases h0 : st = 0
  · subst h0
    have HN := hidw (Usd.no (w := w) (show usO 0 l = false by simp [usO]))
    obtain ⟨ao, cap, rfl⟩ := hr.form
    clear hr
    go_enter Try.func13, Try.ntmps13
    go_wp2_with fail
    refine Calls.mono HS.out ?_
    rintro e w1 ⟨rfl, rfl⟩
    go_wp2
    go_ret2
    exact HN.out
  have hI : ((st : Int) == 0) = false := by simp; omega
  by_cases h1 : l.length = 128
  case neg =>
    have HN := hidw (Usd.no (w := w) (show usO st l = false by simp [usO, h1]))
    have hI1 : ((l.length : Int) == 128) = false := by simp; omega
    obtain ⟨ao, cap, rfl⟩ := hr.form
    clear hr h1
    go_enter Try.func13, Try.ntmps13
    go_wp2_with fail
    refine Calls.mono HS.out ?_
    rintro e w1 ⟨rfl, rfl⟩
    go_wp2
    go_ret2
    exact HN.out
  have hr0 := hr
  rcases hr with ⟨rfl, _⟩ | ⟨b, off, cap, rfl, hcap, hcell⟩
  · simp at h1
  have h8 : 8 < l.length := by omega
  have c8 := hcell 8 h8
  have HW1 := hidw (word_any _ l w hr0)
  have hr2 : Reads w (.slice (some ⟨b, off + 120, none⟩) 8 (cap - 120)) (l.drop 120) := by
    have e : (l.drop 120).length = 8 := by rw [List.length_drop, h1]
    refine .inr ⟨b, off + 120, cap - 120, by rw [e], by omega, fun j hj => ?_⟩
    rw [List.getElem_drop, show off + 120 + j = off + (120 + j) by omega]
    exact hcell (120 + j) (by omega)
  have HW2 := hidw (word_any _ (l.drop 120) w hr2)
  rw [wordV_long (by omega)] at HW1
  rw [wordV_long (by rw [List.length_drop]; omega)] at HW2
  have eg : l.getD 8 0 = l[8] := by simp [h8]
  obtain ⟨k, hk⟩ : ∃ k, l[8].toNat = k := ⟨_, rfl⟩
  have HR3 := hidw (show k ≤ 111 → Reads w (.slice (some ⟨b, off + 9, none⟩) k (cap - 9)) ((l.drop 9).take k) from fun hk2 => by
    have e : ((l.drop 9).take k).length = k := by rw [List.length_take, List.length_drop]; omega
    by_cases hk0 : k = 0
    · subst hk0
      exact .inl ⟨by simp, _, _, rfl, fun h => by cases h⟩
    refine .inr ⟨b, off + 9, cap - 9, by rw [e], by omega, fun j hj => ?_⟩
    rw [List.getElem_take, List.getElem_drop, show off + 9 + j = off + (9 + j) by omega]
    exact hcell (9 + j) (by omega))
  have hO : usO st l = (decide (le (l.take 8) = st) && (decide (le ((l.drop 120).take 8) = st) && decide (k ≤ 111))) := by
    unfold usO
    rw [eg, hk]
    simp [h0, h1]
  rw [hk] at c8
  have HE := hidw (show (l.drop 9).take (l.getD 8 0).toNat = (l.drop 9).take k by rw [eg, hk])
  have HLn := hidw (show ((l.drop 9).take k).length ≤ 140737488355328 by rw [List.length_take, List.length_drop]; omega)
  generalize le (l.take 8) = x1 at *
  generalize le ((l.drop 120).take 8) = x2 at *
  have HO := hidw hO
  have hkb : k < 256 := by have := UInt8.toNat_lt l[8]; omega
  rw [h1] at HW1 hcap
  rw [h1]
  have H1 := hidw h1
  clear hr2 hr0 hcell hk h1 h8 eg hO
  go_enter Try.func13, Try.ntmps13
  go_wp2_with fail
  refine Calls.mono HS.out ?_
  rintro e w1 ⟨rfl, rfl⟩
  go_wp2_with fail
  refine Calls.mono HW1.out ?_
  rintro e w1 ⟨rfl, rfl⟩
  go_wp2_with fail
  refine Calls.mono HW2.out ?_
  rintro e w1 ⟨rfl, rfl⟩
  clear HW1 HW2 HS
  by_cases e1 : x1 = st
  case neg =>
    have HN := hidw (Usd.no (w := w1) (show usO st l = false by rw [HO.out]; simp [e1]))
    have hI1 : ((x1 : Int) == (st : Int)) = false := by simp; omega
    have hI2 : ¬ (x1 : Int) = (st : Int) := by omega
    go_wp2
    go_ret2
    exact HN.out
  subst e1
  by_cases e2 : x2 = x1
  case neg =>
    have HN := hidw (Usd.no (w := w1) (show usO x1 l = false by rw [HO.out]; simp [e2]))
    have hI1 : ((x2 : Int) == (x1 : Int)) = false := by simp; omega
    have hI2 : ¬ (x2 : Int) = (x1 : Int) := by omega
    go_wp2
    go_ret2
    exact HN.out
  subst e2
  by_cases e3 : k ≤ 111
  case neg =>
    have HN := hidw (Usd.no (w := w1) (show usO x2 l = false by rw [HO.out]; simp; omega))
    have hI1 : ¬ (k : Int) ≤ 111 := by omega
    go_wp2
    go_ret2
    exact HN.out
  have HT := hidw (show usO x2 l = true by rw [HO.out]; simp [e3])
  have HC := hidw (bclone_some _ _ _ _ w1 (HR3.out e3) HLn.out)
  clear HO HLn
  go_wp2_with fail
  refine Calls.mono HC.out ?_
  rintro e w2 ⟨v2, rfl, ho2, hb2⟩
  have HY := hidw (Usd.yes HT.out HE.out ho2 hb2)
  clear ho2 hb2
  go_wp2
  go_ret2
  exact HY.out
end Go.Proofs.Ytghkfhbjfmdnmaa
