/-
  merged: two lists laid into one.
-/
import Derived.Test.YtipgmiblphfboaaDoorSh4
namespace Go.Proofs.YtipgmiblphfboaaDoor
open Go.RowKit
set_option maxRecDepth 100000

/-- what merged answers, so many steps on -/
def mrgF : Nat → List Int → List Int → Option (List (Int × Bool))
  | 0, _, _ => some []
  | _ + 1, [], [] => some []
  | n + 1, s :: S, [] => (mrgF n S []).map ((s, false) :: ·)
  | n + 1, [], e :: E => (mrgF n [] E).map ((e, true) :: ·)
  | n + 1, s :: S, e :: E => if s < e then (mrgF n S (e :: E)).map ((s, false) :: ·) else if e < s then (mrgF n (s :: S) E).map ((e, true) :: ·) else none
/-- what merged answers -/
def mrg (S E : List Int) : Option (List (Int × Bool)) := mrgF (S.length + E.length) S E
theorem mrg_00 : mrg [] [] = some [] := rfl
theorem mrg_s0 (s : Int) (S : List Int) : mrg (s :: S) [] = (mrg S []).map ((s, false) :: ·) := rfl
theorem mrg_0e (e : Int) (E : List Int) : mrg [] (e :: E) = (mrg [] E).map ((e, true) :: ·) := rfl
theorem mrg_step (s : Int) (S : List Int) (e : Int) (E : List Int) : mrg (s :: S) (e :: E) = if s < e then (mrg S (e :: E)).map ((s, false) :: ·) else if e < s then (mrg (s :: S) E).map ((e, true) :: ·) else none := by
  have h : (s :: S).length + (e :: E).length = (S.length + (e :: E).length) + 1 := by simp only [List.length_cons]; omega
  have h2 : S.length + (e :: E).length = (s :: S).length + E.length := by simp only [List.length_cons]; omega
  unfold mrg
  rw [h, ← h2]
  rfl
theorem mrg_lt {s e : Int} {S E : List Int} (h : s < e) : mrg (s :: S) (e :: E) = (mrg S (e :: E)).map ((s, false) :: ·) := by rw [mrg_step, if_pos h]
theorem mrg_gt {s e : Int} {S E : List Int} (h : e < s) : mrg (s :: S) (e :: E) = (mrg (s :: S) E).map ((e, true) :: ·) := by rw [mrg_step, if_neg (by omega), if_pos h]
theorem mrg_eq {s : Int} {S E : List Int} : mrg (s :: S) (s :: E) = none := by rw [mrg_step, if_neg (by omega), if_neg (by omega)]
/-- by the steps of mrg -/
theorem mrg_ind {motive : List Int → List Int → Prop} (case1 : motive [] []) (case2 : ∀ s S, motive S [] → motive (s :: S) []) (case3 : ∀ e E, motive [] E → motive [] (e :: E))
    (case4 : ∀ s S e E, s < e → motive S (e :: E) → motive (s :: S) (e :: E)) (case5 : ∀ s S e E, ¬ s < e → e < s → motive (s :: S) E → motive (s :: S) (e :: E)) (case6 : ∀ s S e E, ¬ s < e → ¬ e < s → motive (s :: S) (e :: E)) (S E : List Int) : motive S E := by
  have key : ∀ (n : Nat) (S E : List Int), S.length + E.length = n → motive S E := by
    intro n
    induction n with
    | zero =>
      intro S E h
      have hS : S = [] := List.eq_nil_of_length_eq_zero (by omega)
      have hE : E = [] := List.eq_nil_of_length_eq_zero (by omega)
      subst hS hE
      exact case1
    | succ n ih =>
      intro S E h
      match S, E, h with
      | [], [], _ => exact case1
      | s :: S, [], h => exact case2 s S (ih S [] (by simp at h ⊢; omega))
      | [], e :: E, h => exact case3 e E (ih [] E (by simp at h ⊢; omega))
      | s :: S, e :: E, h =>
        by_cases h1 : s < e
        · exact case4 s S e E h1 (ih S (e :: E) (by simp at h ⊢; omega))
        · by_cases h2 : e < s
          · exact case5 s S e E h1 h2 (ih (s :: S) E (by simp at h ⊢; omega))
          · exact case6 s S e E h1 h2
  exact key _ S E rfl
theorem map_snoc {A : List (Int × Bool)} {x : Int × Bool} (o : Option (List (Int × Bool))) : (o.map (x :: ·)).map (A ++ ·) = o.map ((A ++ [x]) ++ ·) := by cases o <;> simp
set_option maxHeartbeats 4000000 in
theorem merged_any (S E : List Int) (v1 v2 : Value) (w : World) (h1 : RL eI 1 w v1 S) (h2 : RL eI 1 w v2 E) (hl : S.length + E.length ≤ 2000) :
    Calls Tryd.prog 25 #[v1, v2] w fun e w' => ((∃ v' A, e = .returned (.tuple #[v', .bool true]) ∧ mrg S E = some A ∧ A.length ≤ 2000 ∧ (∃ g c, v' = .slice (some ⟨g, 0, none⟩) A.length c) ∧ OL eS 2 66 w' w.heap.size v' A) ∨
      (e = .returned (.tuple #[.slice none 0 0, .bool false]) ∧ mrg S E = none)) ∧ Below w.heap.size w w' := by
  have H1 := hid h1
  have H2 := hid h2
  obtain ⟨a1, c1, rfl⟩ := h1.len0
  obtain ⟨a2, c2, rfl⟩ := h2.len0
  clear h1 h2
  obtain ⟨row, hrs, hmk⟩ := run_mkL (k := 2) spcinfo Tryd.underlying44 (by omega) (S.length + E.length) (by omega) w
  have hmk' : (Instr.makeSlice 44 (.int .i64 0) (.int .i64 ((S.length : Int) + (E.length : Int)))).run Tryd.prog w = .ok (.slice (some ⟨w.heap.size, 0, none⟩) 0 (S.length + E.length)) (w.alloc (.cells row 66)) := by
    rw [show ((S.length : Int) + (E.length : Int)) = ((S.length + E.length : Nat) : Int) by omega]; exact hmk
  have HO := hid (OL.made (enc := eS) (k := 2) (t := 66) (w := w) hrs (by unfold maxLen; omega))
  have B0 := hid (alloc_below w (.cells row 66))
  clear hrs hmk
  go_enter Tryd.func25, Tryd.ntmps25
  go_wp2
  generalize w.alloc (.cells row 66) = w0 at *
  go_loopg [0, 1, 6] (S.length + E.length) (fun m s0 s1 s6 wr => ∃ S' E' A, Hid (RL eI 1 w s0 S') ∧ Hid (RL eI 1 w s1 E') ∧ Hid (OL eS 2 66 wr w.heap.size s6 A) ∧ Hid (∃ g c, s6 = .slice (some ⟨g, 0, none⟩) A.length c) ∧ Hid (mrg S E = (mrg S' E').map (A ++ ·)) ∧ Hid (Below w.heap.size w wr) ∧ A.length + S'.length + E'.length = S.length + E.length ∧ S'.length + E'.length ≤ m)
  case atStart => exact ⟨S, E, [], H1, H2, HO, hid ⟨_, _, rfl⟩, hid (by simp), B0, by simp, Nat.le_refl _⟩
  case round =>
    obtain ⟨S', E', A, Q1, Q2, Q6, Q7, QM, HB, hsum, hm⟩ := hrel
    clear hmk' HO B0 H1 H2
    have MK := hid (show ∀ (x : Int) (b : Bool) (w1 : World) (v : Value), OL eS 2 66 w1 w.heap.size v (A ++ [(x, b)]) → ∃ g c, v = .slice (some ⟨g, 0, none⟩) (A ++ [(x, b)]).length c from fun x b w1 v h => by
      rcases h.2 with ⟨_, h0⟩ | ⟨g, cap, _, rfl, _⟩
      · simp at h0
      · exact ⟨g, cap, rfl⟩)
    match S', E' with
    | [], [] =>
      obtain ⟨b1, d1, rfl⟩ := Q1.out.len0
      obtain ⟨b2, d2, rfl⟩ := Q2.out.len0
      go_wp2
      go_ret2
      exact ⟨.inl ⟨_, A, rfl, by rw [QM.out, mrg_00]; simp, by simp at hsum; omega, Q7.out, Q6.out⟩, HB.out⟩
    | s :: S', [] =>
      obtain ⟨b2, d2, rfl⟩ := Q2.out.len0
      obtain ⟨g, off, c, rfl, hc, hq⟩ := Q1.out.form (by simp)
      have q0 : wr.cell? ⟨g, off, none⟩ = some (.int .i64 s) := below_cells HB.out _ _ (by simpa using hq 0 (by simp) 0 (.int .i64 s) (by simp [eI]))
      have T1 := hid (RL.tail1 (enc := eI) (k := 1) (t := S') (by simpa using Q1.out))
      have T2 := hid (RL.tail2 (enc := eI) (k := 1) (t := S') (by simpa using Q1.out))
      clear hq
      simp only [List.length_cons, List.length_nil] at *
      go_wp2_with fail
      go_quiet (fail)
      replace Q6 := hid (Q6.out.below (below_drewN (Below.refl _ _) nq))
      replace HB := hid (below_drewN HB.out nq)
      replace q0 : (wr.drewN nq).cell? ⟨g, off, none⟩ = some (.int .i64 s) := q0
      generalize wr.drewN nq = w1 at *
      have HOx := hid (OL.alloc Q6.out (.cells #[.int .i64 s, .bool false] 66))
      have HBx := hid (HB.out.alloc HB.out.size (.cells #[.int .i64 s, .bool false] 66))
      go_wp2_with (at_builtin; refine wpList_appL (enc := eS) spcinfo Tryd.underlying44 rfl (by omega) eS_len eS_one rfl _ _ rfl w.heap.size _ _ rfl HOx.out _ [(s, false)] rfl (rl_oneS _ _ _) ?hlen ?hl2 HBx.out.size ?hnext)
      case hlen => simp; omega
      case hl2 => simp [maxLen]; omega
      case hnext =>
        intro v2 w2 ho2 hg2
        have HO2 := hid ho2
        have HB2 := hid (HBx.out.grown hg2 HBx.out.size (fun b hb => (HOx.out.block_ge b hb).1))
        clear ho2 hg2
        go_wp2
        all_goals (go_roundg (gk - 1); (case measure => omega); (case rel => exact ⟨S', [], A ++ [(s, false)], (by first | exact hid (T1.out ‹_›) | exact hid (T2.out ‹_›)), Q2, HO2, hid (MK.out _ _ _ _ HO2.out), hid (by rw [QM.out, mrg_s0, map_snoc]), HB2, by simp; omega, by simp; omega⟩))
    | [], e :: E' =>
      obtain ⟨b1, d1, rfl⟩ := Q1.out.len0
      obtain ⟨g', off', c', rfl, hc', hq'⟩ := Q2.out.form (by simp)
      have q0' : wr.cell? ⟨g', off', none⟩ = some (.int .i64 e) := below_cells HB.out _ _ (by simpa using hq' 0 (by simp) 0 (.int .i64 e) (by simp [eI]))
      have T1' := hid (RL.tail1 (enc := eI) (k := 1) (t := E') (by simpa using Q2.out))
      have T2' := hid (RL.tail2 (enc := eI) (k := 1) (t := E') (by simpa using Q2.out))
      clear hq'
      simp only [List.length_cons, List.length_nil] at *
      go_wp2_with fail
      go_quiet (fail)
      replace Q6 := hid (Q6.out.below (below_drewN (Below.refl _ _) nq))
      replace HB := hid (below_drewN HB.out nq)
      replace q0' : (wr.drewN nq).cell? ⟨g', off', none⟩ = some (.int .i64 e) := q0'
      generalize wr.drewN nq = w1 at *
      clear nq
      go_wp2_with fail
      go_quiet (fail)
      replace Q6 := hid (Q6.out.below (below_drewN (Below.refl _ _) nq))
      replace HB := hid (below_drewN HB.out nq)
      replace q0' : (w1.drewN nq).cell? ⟨g', off', none⟩ = some (.int .i64 e) := q0'
      generalize w1.drewN nq = w1 at *
      have HOx := hid (OL.alloc Q6.out (.cells #[.int .i64 e, .bool true] 66))
      have HBx := hid (HB.out.alloc HB.out.size (.cells #[.int .i64 e, .bool true] 66))
      go_wp2_with (at_builtin; refine wpList_appL (enc := eS) spcinfo Tryd.underlying44 rfl (by omega) eS_len eS_one rfl _ _ rfl w.heap.size _ _ rfl HOx.out _ [(e, true)] rfl (rl_oneS _ _ _) ?hlen ?hl2 HBx.out.size ?hnext)
      case hlen => simp; omega
      case hl2 => simp [maxLen]; omega
      case hnext =>
        intro v2 w2 ho2 hg2
        have HO2 := hid ho2
        have HB2 := hid (HBx.out.grown hg2 HBx.out.size (fun b hb => (HOx.out.block_ge b hb).1))
        clear ho2 hg2
        go_wp2
        all_goals (go_roundg (gk - 1); (case measure => omega); (case rel => exact ⟨[], E', A ++ [(e, true)], Q1, (by first | exact hid (T1'.out ‹_›) | exact hid (T2'.out ‹_›)), HO2, hid (MK.out _ _ _ _ HO2.out), hid (by rw [QM.out, mrg_0e, map_snoc]), HB2, by simp; omega, by simp; omega⟩))
    | s :: S', e :: E' =>
      obtain ⟨g, off, c, rfl, hc, hq⟩ := Q1.out.form (by simp)
      have q0 : wr.cell? ⟨g, off, none⟩ = some (.int .i64 s) := below_cells HB.out _ _ (by simpa using hq 0 (by simp) 0 (.int .i64 s) (by simp [eI]))
      have T1 := hid (RL.tail1 (enc := eI) (k := 1) (t := S') (by simpa using Q1.out))
      have T2 := hid (RL.tail2 (enc := eI) (k := 1) (t := S') (by simpa using Q1.out))
      clear hq
      obtain ⟨g', off', c', rfl, hc', hq'⟩ := Q2.out.form (by simp)
      have q0' : wr.cell? ⟨g', off', none⟩ = some (.int .i64 e) := below_cells HB.out _ _ (by simpa using hq' 0 (by simp) 0 (.int .i64 e) (by simp [eI]))
      have T1' := hid (RL.tail1 (enc := eI) (k := 1) (t := E') (by simpa using Q2.out))
      have T2' := hid (RL.tail2 (enc := eI) (k := 1) (t := E') (by simpa using Q2.out))
      clear hq'
      simp only [List.length_cons] at *
      by_cases hse : s < e
      · have hd : decide (s < e) = true := decide_eq_true hse
        go_wp2_with fail
        go_quiet (fail)
        replace Q6 := hid (Q6.out.below (below_drewN (Below.refl _ _) nq))
        replace HB := hid (below_drewN HB.out nq)
        replace q0 : (wr.drewN nq).cell? ⟨g, off, none⟩ = some (.int .i64 s) := q0
        replace q0' : (wr.drewN nq).cell? ⟨g', off', none⟩ = some (.int .i64 e) := q0'
        generalize wr.drewN nq = w1 at *
        have HOx := hid (OL.alloc Q6.out (.cells #[.int .i64 s, .bool false] 66))
        have HBx := hid (HB.out.alloc HB.out.size (.cells #[.int .i64 s, .bool false] 66))
        go_wp2_with (at_builtin; refine wpList_appL (enc := eS) spcinfo Tryd.underlying44 rfl (by omega) eS_len eS_one rfl _ _ rfl w.heap.size _ _ rfl HOx.out _ [(s, false)] rfl (rl_oneS _ _ _) ?hlen ?hl2 HBx.out.size ?hnext)
        case hlen => simp; omega
        case hl2 => simp [maxLen]; omega
        case hnext =>
          intro v2 w2 ho2 hg2
          have HO2 := hid ho2
          have HB2 := hid (HBx.out.grown hg2 HBx.out.size (fun b hb => (HOx.out.block_ge b hb).1))
          clear ho2 hg2
          go_wp2
          all_goals (go_roundg (gk - 1); (case measure => omega); (case rel => exact ⟨S', (e :: E'), A ++ [(s, false)], (by first | exact hid (T1.out ‹_›) | exact hid (T2.out ‹_›)), Q2, HO2, hid (MK.out _ _ _ _ HO2.out), hid (by rw [QM.out, mrg_lt hse, map_snoc]), HB2, by simp; omega, by simp; omega⟩))
      · have hd : decide (s < e) = false := decide_eq_false hse
        by_cases h2 : e < s
        · have hd2 : decide (e < s) = true := decide_eq_true h2
          go_wp2_with fail
          go_quiet (fail)
          replace Q6 := hid (Q6.out.below (below_drewN (Below.refl _ _) nq))
          replace HB := hid (below_drewN HB.out nq)
          replace q0 : (wr.drewN nq).cell? ⟨g, off, none⟩ = some (.int .i64 s) := q0
          replace q0' : (wr.drewN nq).cell? ⟨g', off', none⟩ = some (.int .i64 e) := q0'
          generalize wr.drewN nq = w1 at *
          clear nq
          go_wp2_with fail
          go_quiet (fail)
          replace Q6 := hid (Q6.out.below (below_drewN (Below.refl _ _) nq))
          replace HB := hid (below_drewN HB.out nq)
          replace q0 : (w1.drewN nq).cell? ⟨g, off, none⟩ = some (.int .i64 s) := q0
          replace q0' : (w1.drewN nq).cell? ⟨g', off', none⟩ = some (.int .i64 e) := q0'
          generalize w1.drewN nq = w1 at *
          have HOx := hid (OL.alloc Q6.out (.cells #[.int .i64 e, .bool true] 66))
          have HBx := hid (HB.out.alloc HB.out.size (.cells #[.int .i64 e, .bool true] 66))
          go_wp2_with (at_builtin; refine wpList_appL (enc := eS) spcinfo Tryd.underlying44 rfl (by omega) eS_len eS_one rfl _ _ rfl w.heap.size _ _ rfl HOx.out _ [(e, true)] rfl (rl_oneS _ _ _) ?hlen ?hl2 HBx.out.size ?hnext)
          case hlen => simp; omega
          case hl2 => simp [maxLen]; omega
          case hnext =>
            intro v2 w2 ho2 hg2
            have HO2 := hid ho2
            have HB2 := hid (HBx.out.grown hg2 HBx.out.size (fun b hb => (HOx.out.block_ge b hb).1))
            clear ho2 hg2
            go_wp2
            all_goals (go_roundg (gk - 1); (case measure => omega); (case rel => exact ⟨(s :: S'), E', A ++ [(e, true)], Q1, (by first | exact hid (T1'.out ‹_›) | exact hid (T2'.out ‹_›)), HO2, hid (MK.out _ _ _ _ HO2.out), hid (by rw [QM.out, mrg_gt h2, map_snoc]), HB2, by simp; omega, by simp; omega⟩))
        · have hd2 : decide (e < s) = false := decide_eq_false h2
          go_wp2_with fail
          go_quiet (fail)
          replace Q6 := hid (Q6.out.below (below_drewN (Below.refl _ _) nq))
          replace HB := hid (below_drewN HB.out nq)
          replace q0 : (wr.drewN nq).cell? ⟨g, off, none⟩ = some (.int .i64 s) := q0
          replace q0' : (wr.drewN nq).cell? ⟨g', off', none⟩ = some (.int .i64 e) := q0'
          generalize wr.drewN nq = w1 at *
          clear nq
          go_wp2_with fail
          go_quiet (fail)
          replace Q6 := hid (Q6.out.below (below_drewN (Below.refl _ _) nq))
          replace HB := hid (below_drewN HB.out nq)
          replace q0 : (w1.drewN nq).cell? ⟨g, off, none⟩ = some (.int .i64 s) := q0
          replace q0' : (w1.drewN nq).cell? ⟨g', off', none⟩ = some (.int .i64 e) := q0'
          generalize w1.drewN nq = w1 at *
          go_wp2
          go_ret2
          obtain rfl : s = e := by omega
          exact ⟨.inr ⟨rfl, by rw [QM.out, mrg_eq]; rfl⟩, HB.out⟩
end Go.Proofs.YtipgmiblphfboaaDoor
