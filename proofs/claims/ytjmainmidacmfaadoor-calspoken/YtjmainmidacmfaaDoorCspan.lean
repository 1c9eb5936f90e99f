/-
  Spans that may be: isSpan, isInstant.
-/
import Derived.Test.YtjmainmidacmfaaDoorCof
namespace Go.Proofs.YtjmainmidacmfaaDoor
open Go.RowKit
set_option maxRecDepth 100000

/-- a span as a value -/
def sV (y m v d h i s : Int) : Value := .agg #[.int .i64 y, .int .i64 m, .int .i64 v, .int .i64 d, .int .i64 h, .int .i64 i, .int .i64 s]
abbrev okN (n : Int) : Prop := 0 ≤ n ∧ n ≤ 999999999
/-- a span that may be -/
abbrev FSx (y m v d h i s : Int) : Prop := (okN y ∧ okN m ∧ okN v ∧ okN d ∧ okN h ∧ okN i ∧ okN s) ∧ (v = 0 ∨ y = 0 ∧ m = 0 ∧ d = 0 ∧ h = 0 ∧ i = 0 ∧ s = 0)

theorem isInstant_any (t : Int) (w : World) :
    Calls Tryd.prog 29 #[.int .i64 t] w fun e w' => e = .returned (.bool (decide (0 ≤ t ∧ t ≤ 315569519999))) ∧ w' = w := by
  by_cases h0 : 0 ≤ t <;> by_cases h1 : t ≤ 315569519999
  all_goals
    go_enter Tryd.func29, Tryd.ntmps29
    go_wp2
    all_goals go_ret
    all_goals exact ⟨ret_bool (by simp [h0, h1]), rfl⟩

/-- an element of an array of seven ints -/
theorem span_index (y m v d h i s : Int) (w : World) :
    (Instr.index 59 (.agg #[.int .i64 y, .int .i64 m, .int .i64 v, .int .i64 d, .int .i64 h, .int .i64 i, .int .i64 s]) (.int .i64 0)).run Tryd.prog w = .ok (.int .i64 y) w ∧
    (Instr.index 59 (.agg #[.int .i64 y, .int .i64 m, .int .i64 v, .int .i64 d, .int .i64 h, .int .i64 i, .int .i64 s]) (.int .i64 1)).run Tryd.prog w = .ok (.int .i64 m) w ∧
    (Instr.index 59 (.agg #[.int .i64 y, .int .i64 m, .int .i64 v, .int .i64 d, .int .i64 h, .int .i64 i, .int .i64 s]) (.int .i64 2)).run Tryd.prog w = .ok (.int .i64 v) w ∧
    (Instr.index 59 (.agg #[.int .i64 y, .int .i64 m, .int .i64 v, .int .i64 d, .int .i64 h, .int .i64 i, .int .i64 s]) (.int .i64 3)).run Tryd.prog w = .ok (.int .i64 d) w ∧
    (Instr.index 59 (.agg #[.int .i64 y, .int .i64 m, .int .i64 v, .int .i64 d, .int .i64 h, .int .i64 i, .int .i64 s]) (.int .i64 4)).run Tryd.prog w = .ok (.int .i64 h) w ∧
    (Instr.index 59 (.agg #[.int .i64 y, .int .i64 m, .int .i64 v, .int .i64 d, .int .i64 h, .int .i64 i, .int .i64 s]) (.int .i64 5)).run Tryd.prog w = .ok (.int .i64 i) w ∧
    (Instr.index 59 (.agg #[.int .i64 y, .int .i64 m, .int .i64 v, .int .i64 d, .int .i64 h, .int .i64 i, .int .i64 s]) (.int .i64 6)).run Tryd.prog w = .ok (.int .i64 s) w := by
  refine ⟨?_, ?_, ?_, ?_, ?_, ?_, ?_⟩
  all_goals
    simp only [Instr.index, asIntOf, Sem.run_bind, Sem.run_pure, Result.andThen_ok, run_underlying Tryd.underlying59]
    rw [if_pos (by omega)]
    simp only [Sem.run_bind, Result.andThen_ok, Tryd.sizeOf3, part, Tryd.isAgg3]
    rfl

set_option maxHeartbeats 4000000 in
theorem isSpan_any (y m v d h i s : Int) (w : World) :
    Calls Tryd.prog 23 #[sV y m v d h i s] w fun e w' => e = .returned (.bool (decide (FSx y m v d h i s))) ∧ Below w.heap.size w w' := by
  obtain ⟨r, hr⟩ : ∃ r, r = decide (FSx y m v d h i s) := ⟨_, rfl⟩
  rw [← hr]
  have HR : Hid (_) := hr
  have HI : Hid (_) := fun w => span_index y m v d h i s w
  clear hr
  unfold sV
  have hb : Below w.heap.size w (w.alloc (.cells #[.int .i64 y, .int .i64 m, .int .i64 v, .int .i64 d, .int .i64 h, .int .i64 i, .int .i64 s] 23)) := (Below.refl _ _).alloc (Nat.le_refl _) _
  go_enter Tryd.func23, Tryd.ntmps23
  go_wp2_with fail
  go_loop [4, 20] (fun _ j => ∃ k : Nat, k ≤ 7 ∧ j = .int .i64 (k : Int) ∧ (1 ≤ k → okN y) ∧ (2 ≤ k → okN m) ∧ (3 ≤ k → okN v) ∧ (4 ≤ k → okN d) ∧ (5 ≤ k → okN h) ∧ (6 ≤ k → okN i) ∧ (7 ≤ k → okN s)) (fun _ j => 7 - (intOf j).toNat)
  case atStart => exact ⟨0, by omega, rfl, by omega, by omega, by omega, by omega, by omega, by omega, by omega⟩
  case round =>
    obtain ⟨k, hk, rfl, o1, o2, o3, o4, o5, o6, o7⟩ := hrel
    have HO := hid (And.intro o1 (And.intro o2 (And.intro o3 (And.intro o4 (And.intro o5 (And.intro o6 o7))))))
    clear o1 o2 o3 o4 o5 o6 o7
    by_cases h7 : k = 7
    · subst h7
      obtain ⟨o1, o2, o3, o4, o5, o6, o7⟩ := HO.out
      have hall := And.intro (o1 (by omega)) (And.intro (o2 (by omega)) (And.intro (o3 (by omega)) (And.intro (o4 (by omega)) (And.intro (o5 (by omega)) (And.intro (o6 (by omega)) (o7 (by omega)))))))
      have HALL := hid hall
      clear o1 o2 o3 o4 o5 o6 o7 hall HO hb
      by_cases hv : v = 0
      · have hrt : r = true := by rw [HR.out]; exact decide_eq_true ⟨HALL.out, .inl hv⟩
        subst hrt
        go_wp2
        go_ret
        exact ⟨rfl, (Below.refl _ _).alloc (Nat.le_refl _) _⟩
      · have hfs : FSx y m v d h i s ↔ (y = 0 ∧ m = 0 ∧ d = 0 ∧ h = 0 ∧ i = 0 ∧ s = 0) := ⟨fun x => x.2.resolve_left hv, fun x => ⟨HALL.out, .inr x⟩⟩
        have hrv : r = decide (y = 0 ∧ m = 0 ∧ d = 0 ∧ h = 0 ∧ i = 0 ∧ s = 0) := by rw [HR.out]; exact decide_eq_decide.2 hfs
        have HRV := hid hrv
        have hv' : (v == 0) = false := by simp [hv]
        clear hfs hrv HR HALL
        go_wp2
        all_goals go_ret
        all_goals refine ⟨ret_bool ?_, (Below.refl _ _).alloc (Nat.le_refl _) _⟩
        all_goals rw [HRV.out]
        all_goals simp_all
    · have hcases : k = 0 ∨ k = 1 ∨ k = 2 ∨ k = 3 ∨ k = 4 ∨ k = 5 ∨ k = 6 := by omega
      rcases hcases with rfl | rfl | rfl | rfl | rfl | rfl | rfl
      · have hi := (fun w => (HI.out w).1)
        by_cases ho : okN y
        · have HK := hid ho
          have h1 := ho.1
          have h2 := ho.2
          clear ho
          go_wp2
          go_round
          case rel => exact ⟨1, by omega, rfl, (fun _ => HK.out), (by omega), (by omega), (by omega), (by omega), (by omega), (by omega)⟩
          case measure => simp [intOf]
        · have hrf : r = false := by rw [HR.out]; exact decide_eq_false (fun x => ho x.1.1)
          subst hrf
          by_cases h1 : y < 0
          · go_wp2
            go_ret
            exact ⟨rfl, hb⟩
          · have h2 : 999999999 < y := by unfold okN at ho; omega
            clear ho
            go_wp2
            go_ret
            exact ⟨rfl, hb⟩
      · have hi := (fun w => (HI.out w).2.1)
        by_cases ho : okN m
        · have HK := hid ho
          have h1 := ho.1
          have h2 := ho.2
          clear ho
          go_wp2
          go_round
          case rel => exact ⟨2, by omega, rfl, (fun _ => HO.out.1 (by omega)), (fun _ => HK.out), (by omega), (by omega), (by omega), (by omega), (by omega)⟩
          case measure => simp [intOf]
        · have hrf : r = false := by rw [HR.out]; exact decide_eq_false (fun x => ho x.1.2.1)
          subst hrf
          by_cases h1 : m < 0
          · go_wp2
            go_ret
            exact ⟨rfl, hb⟩
          · have h2 : 999999999 < m := by unfold okN at ho; omega
            clear ho
            go_wp2
            go_ret
            exact ⟨rfl, hb⟩
      · have hi := (fun w => (HI.out w).2.2.1)
        by_cases ho : okN v
        · have HK := hid ho
          have h1 := ho.1
          have h2 := ho.2
          clear ho
          go_wp2
          go_round
          case rel => exact ⟨3, by omega, rfl, (fun _ => HO.out.1 (by omega)), (fun _ => HO.out.2.1 (by omega)), (fun _ => HK.out), (by omega), (by omega), (by omega), (by omega)⟩
          case measure => simp [intOf]
        · have hrf : r = false := by rw [HR.out]; exact decide_eq_false (fun x => ho x.1.2.2.1)
          subst hrf
          by_cases h1 : v < 0
          · go_wp2
            go_ret
            exact ⟨rfl, hb⟩
          · have h2 : 999999999 < v := by unfold okN at ho; omega
            clear ho
            go_wp2
            go_ret
            exact ⟨rfl, hb⟩
      · have hi := (fun w => (HI.out w).2.2.2.1)
        by_cases ho : okN d
        · have HK := hid ho
          have h1 := ho.1
          have h2 := ho.2
          clear ho
          go_wp2
          go_round
          case rel => exact ⟨4, by omega, rfl, (fun _ => HO.out.1 (by omega)), (fun _ => HO.out.2.1 (by omega)), (fun _ => HO.out.2.2.1 (by omega)), (fun _ => HK.out), (by omega), (by omega), (by omega)⟩
          case measure => simp [intOf]
        · have hrf : r = false := by rw [HR.out]; exact decide_eq_false (fun x => ho x.1.2.2.2.1)
          subst hrf
          by_cases h1 : d < 0
          · go_wp2
            go_ret
            exact ⟨rfl, hb⟩
          · have h2 : 999999999 < d := by unfold okN at ho; omega
            clear ho
            go_wp2
            go_ret
            exact ⟨rfl, hb⟩
      · have hi := (fun w => (HI.out w).2.2.2.2.1)
        by_cases ho : okN h
        · have HK := hid ho
          have h1 := ho.1
          have h2 := ho.2
          clear ho
          go_wp2
          go_round
          case rel => exact ⟨5, by omega, rfl, (fun _ => HO.out.1 (by omega)), (fun _ => HO.out.2.1 (by omega)), (fun _ => HO.out.2.2.1 (by omega)), (fun _ => HO.out.2.2.2.1 (by omega)), (fun _ => HK.out), (by omega), (by omega)⟩
          case measure => simp [intOf]
        · have hrf : r = false := by rw [HR.out]; exact decide_eq_false (fun x => ho x.1.2.2.2.2.1)
          subst hrf
          by_cases h1 : h < 0
          · go_wp2
            go_ret
            exact ⟨rfl, hb⟩
          · have h2 : 999999999 < h := by unfold okN at ho; omega
            clear ho
            go_wp2
            go_ret
            exact ⟨rfl, hb⟩
      · have hi := (fun w => (HI.out w).2.2.2.2.2.1)
        by_cases ho : okN i
        · have HK := hid ho
          have h1 := ho.1
          have h2 := ho.2
          clear ho
          go_wp2
          go_round
          case rel => exact ⟨6, by omega, rfl, (fun _ => HO.out.1 (by omega)), (fun _ => HO.out.2.1 (by omega)), (fun _ => HO.out.2.2.1 (by omega)), (fun _ => HO.out.2.2.2.1 (by omega)), (fun _ => HO.out.2.2.2.2.1 (by omega)), (fun _ => HK.out), (by omega)⟩
          case measure => simp [intOf]
        · have hrf : r = false := by rw [HR.out]; exact decide_eq_false (fun x => ho x.1.2.2.2.2.2.1)
          subst hrf
          by_cases h1 : i < 0
          · go_wp2
            go_ret
            exact ⟨rfl, hb⟩
          · have h2 : 999999999 < i := by unfold okN at ho; omega
            clear ho
            go_wp2
            go_ret
            exact ⟨rfl, hb⟩
      · have hi := (fun w => (HI.out w).2.2.2.2.2.2)
        by_cases ho : okN s
        · have HK := hid ho
          have h1 := ho.1
          have h2 := ho.2
          clear ho
          go_wp2
          go_round
          case rel => exact ⟨7, by omega, rfl, (fun _ => HO.out.1 (by omega)), (fun _ => HO.out.2.1 (by omega)), (fun _ => HO.out.2.2.1 (by omega)), (fun _ => HO.out.2.2.2.1 (by omega)), (fun _ => HO.out.2.2.2.2.1 (by omega)), (fun _ => HO.out.2.2.2.2.2.1 (by omega)), (fun _ => HK.out)⟩
          case measure => simp [intOf]
        · have hrf : r = false := by rw [HR.out]; exact decide_eq_false (fun x => ho x.1.2.2.2.2.2.2)
          subst hrf
          by_cases h1 : s < 0
          · go_wp2
            go_ret
            exact ⟨rfl, hb⟩
          · have h2 : 999999999 < s := by unfold okN at ho; omega
            clear ho
            go_wp2
            go_ret
            exact ⟨rfl, hb⟩
end Go.Proofs.YtjmainmidacmfaaDoor
