/-
  wal: the document's Used.
-/
import Derived.Test.YtghkfhbjfmdnmaaWl4
namespace Go.Proofs.Ytghkfhbjfmdnmaa
open Go.RowKit
set_option maxRecDepth 100000

set_option maxHeartbeats 2000000 in
theorem rused_any (life n : Int) (v : Value) (l : List UInt8) (w : World) (hr : Reads w v l) :
    Calls Try.prog 14 #[.int .i64 life, .int .i64 n, v] w fun e w' => Usd (sp life n) l w e w' := by
  have HS := hidw (rstamp_any life n w)
  generalize sp life n = st at *
  by_cases h0 : st = 0
  · subst h0
    have HN := hidw (Usd.no (w := w) (show usO 0 l = false by simp [usO]))
    obtain ⟨ao, cap, rfl⟩ := hr.form
    clear hr
    go_enter Try.func14, Try.ntmps14
    go_wp2_with fail
    refine Calls.mono HS.out ?_
    rintro e w1 ⟨rfl, rfl⟩
    go_wp2
    go_ret2
    exact HN.out
  have hI : ((st : Int) == 0) = false := by simp; omega
  by_cases h1 : l.length = 128
  case neg =>
    have HN := hidw (Usd.no (w := w) (show usO st l = false by simp [usO, h1]))
    have hI1 : ((l.length : Int) == 128) = false := by simp; omega
    obtain ⟨ao, cap, rfl⟩ := hr.form
    clear hr h1
    go_enter Try.func14, Try.ntmps14
    go_wp2_with fail
    refine Calls.mono HS.out ?_
    rintro e w1 ⟨rfl, rfl⟩
    go_wp2
    go_ret2
    exact HN.out
  have hr0 := hr
  rcases hr with ⟨rfl, _⟩ | ⟨b, off, cap, rfl, hcap, hcell⟩
  · simp at h1
  have h8 : 8 < l.length := by omega
  have c8 := hcell 8 h8
  have HW1 := hidw (refWord_any _ l w hr0)
  have hr2 : Reads w (.slice (some ⟨b, off + 120, none⟩) 8 (cap - 120)) (l.drop 120) := by
    have e : (l.drop 120).length = 8 := by rw [List.length_drop, h1]
    refine .inr ⟨b, off + 120, cap - 120, by rw [e], by omega, fun j hj => ?_⟩
    rw [List.getElem_drop, show off + 120 + j = off + (120 + j) by omega]
    exact hcell (120 + j) (by omega)
  have HW2 := hidw (refWord_any _ (l.drop 120) w hr2)
  rw [wordV_long (by omega)] at HW1
  rw [wordV_long (by rw [List.length_drop]; omega)] at HW2
  have eg : l.getD 8 0 = l[8] := by simp [h8]
  obtain ⟨k, hk⟩ : ∃ k, l[8].toNat = k := ⟨_, rfl⟩
  have HR3 := hidw (show k ≤ 111 → Reads w (.slice (some ⟨b, off + 9, none⟩) k (cap - 9)) ((l.drop 9).take k) from fun hk2 => by
    have e : ((l.drop 9).take k).length = k := by rw [List.length_take, List.length_drop]; omega
    by_cases hk0 : k = 0
    · subst hk0
      exact .inl ⟨by simp, _, _, rfl, fun h => by cases h⟩
    refine .inr ⟨b, off + 9, cap - 9, by rw [e], by omega, fun j hj => ?_⟩
    rw [List.getElem_take, List.getElem_drop, show off + 9 + j = off + (9 + j) by omega]
    exact hcell (9 + j) (by omega))
  have hO : usO st l = (decide (le (l.take 8) = st) && (decide (le ((l.drop 120).take 8) = st) && decide (k ≤ 111))) := by
    unfold usO
    rw [eg, hk]
    simp [h0, h1]
  rw [hk] at c8
  have HE := hidw (show (l.drop 9).take (l.getD 8 0).toNat = (l.drop 9).take k by rw [eg, hk])
  have HLn := hidw (show ((l.drop 9).take k).length ≤ 140737488355328 by rw [List.length_take, List.length_drop]; omega)
  generalize le (l.take 8) = x1 at *
  generalize le ((l.drop 120).take 8) = x2 at *
  have HO := hidw hO
  have hkb : k < 256 := by have := UInt8.toNat_lt l[8]; omega
  rw [h1] at HW1 hcap
  rw [h1]
  have H1 := hidw h1
  clear hr2 hr0 hcell hk h1 h8 eg hO
  go_enter Try.func14, Try.ntmps14
  go_wp2_with fail
  refine Calls.mono HS.out ?_
  rintro e w1 ⟨rfl, rfl⟩
  go_wp2_with fail
  refine Calls.mono HW1.out ?_
  rintro e w1 ⟨rfl, rfl⟩
  go_wp2_with fail
  refine Calls.mono HW2.out ?_
  rintro e w1 ⟨rfl, rfl⟩
  clear HW1 HW2 HS
  by_cases e1 : x1 = st
  case neg =>
    have HN := hidw (Usd.no (w := w1) (show usO st l = false by rw [HO.out]; simp [e1]))
    have hI1 : ((x1 : Int) == (st : Int)) = false := by simp; omega
    have hI2 : ¬ (x1 : Int) = (st : Int) := by omega
    go_wp2
    go_ret2
    exact HN.out
  subst e1
  by_cases e2 : x2 = x1
  case neg =>
    have HN := hidw (Usd.no (w := w1) (show usO x1 l = false by rw [HO.out]; simp [e2]))
    have hI1 : ((x2 : Int) == (x1 : Int)) = false := by simp; omega
    have hI2 : ¬ (x2 : Int) = (x1 : Int) := by omega
    go_wp2
    go_ret2
    exact HN.out
  subst e2
  by_cases e3 : k ≤ 111
  case neg =>
    have HN := hidw (Usd.no (w := w1) (show usO x2 l = false by rw [HO.out]; simp; omega))
    have hI1 : ¬ (k : Int) ≤ 111 := by omega
    go_wp2
    go_ret2
    exact HN.out
  have HT := hidw (show usO x2 l = true by rw [HO.out]; simp [e3])
  have HR4 := hidw (HR3.out e3)
  clear HO
  go_wp2_with (at_builtin; go_loud (refine wpList_app rfl (.tmp 52) (.tmp 56) 22 rfl Try.underlying22 u8info w1.heap.size _ [] rfl (Owns.nil _ _) (.slice (some ⟨b, off + 9, none⟩) k (cap - 9)) ((l.drop 9).take k) (by go_simp) HR4.out (by simpa using HLn.out) (Nat.le_refl _) ?hnext))
  case hnext =>
  intro v2 w2 ho2 hg2
  have HY := hidw (Usd.yes HT.out HE.out ho2 ((Below.refl w1.heap.size w1).grown hg2 (Nat.le_refl _) (by intro k hk; cases hk)))
  clear ho2 hg2
  go_wp2
  go_ret2
  exact HY.out
end Go.Proofs.Ytghkfhbjfmdnmaa
