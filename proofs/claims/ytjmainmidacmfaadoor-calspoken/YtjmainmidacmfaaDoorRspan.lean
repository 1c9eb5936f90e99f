/-
  The document's own: may a span be?
-/
import Derived.Test.YtjmainmidacmfaaDoorCspan
namespace Go.Proofs.YtjmainmidacmfaaDoor
open Go.RowKit
set_option maxRecDepth 100000

set_option maxHeartbeats 4000000 in
theorem refFits_any (y m v d h i s : Int) (w : World) :
    Calls Tryd.prog 27 #[sV y m v d h i s] w fun e w' => e = .returned (.bool (decide (FSx y m v d h i s))) ∧ Below w.heap.size w w' := by
  obtain ⟨r, hr⟩ : ∃ r, r = decide (FSx y m v d h i s) := ⟨_, rfl⟩
  rw [← hr]
  have HR : Hid (_) := hr
  clear hr
  unfold sV
  go_enter Tryd.func27, Tryd.ntmps27
  go_wp2_with fail
  go_loop [4, 5] (fun o j => ∃ (k : Nat) (c : Int), k ≤ 7 ∧ j = .int .i64 (k : Int) ∧ o = .int .i64 c ∧ 0 ≤ c ∧ c ≤ k ∧ ((1 ≤ k → okN y) ∧ (2 ≤ k → okN m) ∧ (3 ≤ k → okN v) ∧ (4 ≤ k → okN d) ∧ (5 ≤ k → okN h) ∧ (6 ≤ k → okN i) ∧ (7 ≤ k → okN s)) ∧ (c = 0 ↔ ((1 ≤ k → y = 0) ∧ (2 ≤ k → m = 0) ∧ (4 ≤ k → d = 0) ∧ (5 ≤ k → h = 0) ∧ (6 ≤ k → i = 0) ∧ (7 ≤ k → s = 0)))) (fun _ j => 7 - (intOf j).toNat)
  case atStart => exact ⟨0, 0, by omega, rfl, rfl, by omega, by omega, ⟨by omega, by omega, by omega, by omega, by omega, by omega, by omega⟩, ⟨fun _ => ⟨by omega, by omega, by omega, by omega, by omega, by omega⟩, fun _ => rfl⟩⟩
  case round =>
    obtain ⟨k, c, hk, rfl, rfl, hc0, hc1, ho, hz⟩ := hrel
    have HO := hid ho
    have HZ := hid hz
    clear ho hz
    by_cases h7 : k = 7
    · subst h7
      obtain ⟨o1, o2, o3, o4, o5, o6, o7⟩ := HO.out
      have HALL := hid (And.intro (o1 (by omega)) (And.intro (o2 (by omega)) (And.intro (o3 (by omega)) (And.intro (o4 (by omega)) (And.intro (o5 (by omega)) (And.intro (o6 (by omega)) (o7 (by omega))))))))
      clear o1 o2 o3 o4 o5 o6 o7 HO
      by_cases hv : v = 0
      · have hrt : r = true := by rw [HR.out]; exact decide_eq_true ⟨HALL.out, .inl hv⟩
        subst hrt
        subst hv
        go_wp2
        go_ret
        exact ⟨rfl, ((Below.refl _ _).alloc (Nat.le_refl _) _).alloc (by simp) _⟩
      · have hv' : (v == 0) = false := by simp [hv]
        by_cases hcz : c = 0
        · have hrt : r = true := by
            rw [HR.out]
            have z := HZ.out.1 hcz
            exact decide_eq_true ⟨HALL.out, .inr ⟨z.1 (by omega), z.2.1 (by omega), z.2.2.1 (by omega), z.2.2.2.1 (by omega), z.2.2.2.2.1 (by omega), z.2.2.2.2.2 (by omega)⟩⟩
          subst hrt
          subst hcz
          go_wp2
          go_ret
          exact ⟨rfl, ((Below.refl _ _).alloc (Nat.le_refl _) _).alloc (by simp) _⟩
        · have hrf : r = false := by
            rw [HR.out]
            refine decide_eq_false (fun x => ?_)
            have z := x.2.resolve_left hv
            exact hcz (HZ.out.2 ⟨fun _ => z.1, fun _ => z.2.1, fun _ => z.2.2.1, fun _ => z.2.2.2.1, fun _ => z.2.2.2.2.1, fun _ => z.2.2.2.2.2⟩)
          have hcz' : (c == 0) = false := by simp [hcz]
          subst hrf
          go_wp2
          go_ret
          exact ⟨rfl, ((Below.refl _ _).alloc (Nat.le_refl _) _).alloc (by simp) _⟩
    · have hcases : k = 0 ∨ k = 1 ∨ k = 2 ∨ k = 3 ∨ k = 4 ∨ k = 5 ∨ k = 6 := by omega
      rcases hcases with rfl | rfl | rfl | rfl | rfl | rfl | rfl
      · by_cases ho : okN y
        · have HK := hid ho
          have h1 := ho.1
          have h2 := ho.2
          clear ho
          by_cases hz0 : y = 0
          · have hz1 : decide (0 < y) = false := by simp [hz0]
            have hz2 : ¬ 0 < y := by omega
            have HZ0 := hid hz0
            clear hz0
            go_wp2
            go_round
            case rel => exact ⟨1, c, by omega, rfl, rfl, hc0, by omega, ⟨fun _ => HK.out, by omega, by omega, by omega, by omega, by omega, by omega⟩, ⟨fun hq => ⟨fun _ => HZ0.out, by omega, by omega, by omega, by omega, by omega⟩, fun q => HZ.out.2 ⟨by omega, by omega, by omega, by omega, by omega, by omega⟩⟩⟩
            case measure => simp [intOf]
          · have hz2 : 0 < y := by omega
            have hz1 : decide (0 < y) = true := decide_eq_true hz2
            go_wp2
            go_round
            case rel => exact ⟨1, c + 1, by omega, rfl, by go_num, by omega, by omega, ⟨fun _ => HK.out, by omega, by omega, by omega, by omega, by omega, by omega⟩, ⟨fun hq => by omega, fun q => absurd (q.1 (by omega)) hz0⟩⟩
            case measure => simp [intOf]
        · have hrf : r = false := by rw [HR.out]; exact decide_eq_false (fun x => ho x.1.1)
          subst hrf
          by_cases h1 : y < 0
          · go_wp2
            go_ret
            exact ⟨rfl, ((Below.refl _ _).alloc (Nat.le_refl _) _).alloc (by simp) _⟩
          · have h2 : 999999999 < y := by unfold okN at ho; omega
            clear ho
            go_wp2
            go_ret
            exact ⟨rfl, ((Below.refl _ _).alloc (Nat.le_refl _) _).alloc (by simp) _⟩
      · by_cases ho : okN m
        · have HK := hid ho
          have h1 := ho.1
          have h2 := ho.2
          clear ho
          by_cases hz0 : m = 0
          · have hz1 : decide (0 < m) = false := by simp [hz0]
            have hz2 : ¬ 0 < m := by omega
            have HZ0 := hid hz0
            clear hz0
            go_wp2
            go_round
            case rel => exact ⟨2, c, by omega, rfl, rfl, hc0, by omega, ⟨fun _ => HO.out.1 (by omega), fun _ => HK.out, by omega, by omega, by omega, by omega, by omega⟩, ⟨fun hq => ⟨fun _ => (HZ.out.1 hq).1 (by omega), fun _ => HZ0.out, by omega, by omega, by omega, by omega⟩, fun q => HZ.out.2 ⟨fun _ => q.1 (by omega), by omega, by omega, by omega, by omega, by omega⟩⟩⟩
            case measure => simp [intOf]
          · have hz2 : 0 < m := by omega
            have hz1 : decide (0 < m) = true := decide_eq_true hz2
            go_wp2
            go_round
            case rel => exact ⟨2, c + 1, by omega, rfl, by go_num, by omega, by omega, ⟨fun _ => HO.out.1 (by omega), fun _ => HK.out, by omega, by omega, by omega, by omega, by omega⟩, ⟨fun hq => by omega, fun q => absurd (q.2.1 (by omega)) hz0⟩⟩
            case measure => simp [intOf]
        · have hrf : r = false := by rw [HR.out]; exact decide_eq_false (fun x => ho x.1.2.1)
          subst hrf
          by_cases h1 : m < 0
          · go_wp2
            go_ret
            exact ⟨rfl, ((Below.refl _ _).alloc (Nat.le_refl _) _).alloc (by simp) _⟩
          · have h2 : 999999999 < m := by unfold okN at ho; omega
            clear ho
            go_wp2
            go_ret
            exact ⟨rfl, ((Below.refl _ _).alloc (Nat.le_refl _) _).alloc (by simp) _⟩
      · by_cases ho : okN v
        · have HK := hid ho
          have h1 := ho.1
          have h2 := ho.2
          clear ho
          go_wp2
          go_round
          case rel => exact ⟨3, c, by omega, rfl, rfl, hc0, by omega, ⟨fun _ => HO.out.1 (by omega), fun _ => HO.out.2.1 (by omega), fun _ => HK.out, by omega, by omega, by omega, by omega⟩, ⟨fun hq => ⟨fun _ => (HZ.out.1 hq).1 (by omega), fun _ => (HZ.out.1 hq).2.1 (by omega), by omega, by omega, by omega, by omega⟩, fun q => HZ.out.2 ⟨fun _ => q.1 (by omega), fun _ => q.2.1 (by omega), by omega, by omega, by omega, by omega⟩⟩⟩
          case measure => simp [intOf]
        · have hrf : r = false := by rw [HR.out]; exact decide_eq_false (fun x => ho x.1.2.2.1)
          subst hrf
          by_cases h1 : v < 0
          · go_wp2
            go_ret
            exact ⟨rfl, ((Below.refl _ _).alloc (Nat.le_refl _) _).alloc (by simp) _⟩
          · have h2 : 999999999 < v := by unfold okN at ho; omega
            clear ho
            go_wp2
            go_ret
            exact ⟨rfl, ((Below.refl _ _).alloc (Nat.le_refl _) _).alloc (by simp) _⟩
      · by_cases ho : okN d
        · have HK := hid ho
          have h1 := ho.1
          have h2 := ho.2
          clear ho
          by_cases hz0 : d = 0
          · have hz1 : decide (0 < d) = false := by simp [hz0]
            have hz2 : ¬ 0 < d := by omega
            have HZ0 := hid hz0
            clear hz0
            go_wp2
            go_round
            case rel => exact ⟨4, c, by omega, rfl, rfl, hc0, by omega, ⟨fun _ => HO.out.1 (by omega), fun _ => HO.out.2.1 (by omega), fun _ => HO.out.2.2.1 (by omega), fun _ => HK.out, by omega, by omega, by omega⟩, ⟨fun hq => ⟨fun _ => (HZ.out.1 hq).1 (by omega), fun _ => (HZ.out.1 hq).2.1 (by omega), fun _ => HZ0.out, by omega, by omega, by omega⟩, fun q => HZ.out.2 ⟨fun _ => q.1 (by omega), fun _ => q.2.1 (by omega), by omega, by omega, by omega, by omega⟩⟩⟩
            case measure => simp [intOf]
          · have hz2 : 0 < d := by omega
            have hz1 : decide (0 < d) = true := decide_eq_true hz2
            go_wp2
            go_round
            case rel => exact ⟨4, c + 1, by omega, rfl, by go_num, by omega, by omega, ⟨fun _ => HO.out.1 (by omega), fun _ => HO.out.2.1 (by omega), fun _ => HO.out.2.2.1 (by omega), fun _ => HK.out, by omega, by omega, by omega⟩, ⟨fun hq => by omega, fun q => absurd (q.2.2.1 (by omega)) hz0⟩⟩
            case measure => simp [intOf]
        · have hrf : r = false := by rw [HR.out]; exact decide_eq_false (fun x => ho x.1.2.2.2.1)
          subst hrf
          by_cases h1 : d < 0
          · go_wp2
            go_ret
            exact ⟨rfl, ((Below.refl _ _).alloc (Nat.le_refl _) _).alloc (by simp) _⟩
          · have h2 : 999999999 < d := by unfold okN at ho; omega
            clear ho
            go_wp2
            go_ret
            exact ⟨rfl, ((Below.refl _ _).alloc (Nat.le_refl _) _).alloc (by simp) _⟩
      · by_cases ho : okN h
        · have HK := hid ho
          have h1 := ho.1
          have h2 := ho.2
          clear ho
          by_cases hz0 : h = 0
          · have hz1 : decide (0 < h) = false := by simp [hz0]
            have hz2 : ¬ 0 < h := by omega
            have HZ0 := hid hz0
            clear hz0
            go_wp2
            go_round
            case rel => exact ⟨5, c, by omega, rfl, rfl, hc0, by omega, ⟨fun _ => HO.out.1 (by omega), fun _ => HO.out.2.1 (by omega), fun _ => HO.out.2.2.1 (by omega), fun _ => HO.out.2.2.2.1 (by omega), fun _ => HK.out, by omega, by omega⟩, ⟨fun hq => ⟨fun _ => (HZ.out.1 hq).1 (by omega), fun _ => (HZ.out.1 hq).2.1 (by omega), fun _ => (HZ.out.1 hq).2.2.1 (by omega), fun _ => HZ0.out, by omega, by omega⟩, fun q => HZ.out.2 ⟨fun _ => q.1 (by omega), fun _ => q.2.1 (by omega), fun _ => q.2.2.1 (by omega), by omega, by omega, by omega⟩⟩⟩
            case measure => simp [intOf]
          · have hz2 : 0 < h := by omega
            have hz1 : decide (0 < h) = true := decide_eq_true hz2
            go_wp2
            go_round
            case rel => exact ⟨5, c + 1, by omega, rfl, by go_num, by omega, by omega, ⟨fun _ => HO.out.1 (by omega), fun _ => HO.out.2.1 (by omega), fun _ => HO.out.2.2.1 (by omega), fun _ => HO.out.2.2.2.1 (by omega), fun _ => HK.out, by omega, by omega⟩, ⟨fun hq => by omega, fun q => absurd (q.2.2.2.1 (by omega)) hz0⟩⟩
            case measure => simp [intOf]
        · have hrf : r = false := by rw [HR.out]; exact decide_eq_false (fun x => ho x.1.2.2.2.2.1)
          subst hrf
          by_cases h1 : h < 0
          · go_wp2
            go_ret
            exact ⟨rfl, ((Below.refl _ _).alloc (Nat.le_refl _) _).alloc (by simp) _⟩
          · have h2 : 999999999 < h := by unfold okN at ho; omega
            clear ho
            go_wp2
            go_ret
            exact ⟨rfl, ((Below.refl _ _).alloc (Nat.le_refl _) _).alloc (by simp) _⟩
      · by_cases ho : okN i
        · have HK := hid ho
          have h1 := ho.1
          have h2 := ho.2
          clear ho
          by_cases hz0 : i = 0
          · have hz1 : decide (0 < i) = false := by simp [hz0]
            have hz2 : ¬ 0 < i := by omega
            have HZ0 := hid hz0
            clear hz0
            go_wp2
            go_round
            case rel => exact ⟨6, c, by omega, rfl, rfl, hc0, by omega, ⟨fun _ => HO.out.1 (by omega), fun _ => HO.out.2.1 (by omega), fun _ => HO.out.2.2.1 (by omega), fun _ => HO.out.2.2.2.1 (by omega), fun _ => HO.out.2.2.2.2.1 (by omega), fun _ => HK.out, by omega⟩, ⟨fun hq => ⟨fun _ => (HZ.out.1 hq).1 (by omega), fun _ => (HZ.out.1 hq).2.1 (by omega), fun _ => (HZ.out.1 hq).2.2.1 (by omega), fun _ => (HZ.out.1 hq).2.2.2.1 (by omega), fun _ => HZ0.out, by omega⟩, fun q => HZ.out.2 ⟨fun _ => q.1 (by omega), fun _ => q.2.1 (by omega), fun _ => q.2.2.1 (by omega), fun _ => q.2.2.2.1 (by omega), by omega, by omega⟩⟩⟩
            case measure => simp [intOf]
          · have hz2 : 0 < i := by omega
            have hz1 : decide (0 < i) = true := decide_eq_true hz2
            go_wp2
            go_round
            case rel => exact ⟨6, c + 1, by omega, rfl, by go_num, by omega, by omega, ⟨fun _ => HO.out.1 (by omega), fun _ => HO.out.2.1 (by omega), fun _ => HO.out.2.2.1 (by omega), fun _ => HO.out.2.2.2.1 (by omega), fun _ => HO.out.2.2.2.2.1 (by omega), fun _ => HK.out, by omega⟩, ⟨fun hq => by omega, fun q => absurd (q.2.2.2.2.1 (by omega)) hz0⟩⟩
            case measure => simp [intOf]
        · have hrf : r = false := by rw [HR.out]; exact decide_eq_false (fun x => ho x.1.2.2.2.2.2.1)
          subst hrf
          by_cases h1 : i < 0
          · go_wp2
            go_ret
            exact ⟨rfl, ((Below.refl _ _).alloc (Nat.le_refl _) _).alloc (by simp) _⟩
          · have h2 : 999999999 < i := by unfold okN at ho; omega
            clear ho
            go_wp2
            go_ret
            exact ⟨rfl, ((Below.refl _ _).alloc (Nat.le_refl _) _).alloc (by simp) _⟩
      · by_cases ho : okN s
        · have HK := hid ho
          have h1 := ho.1
          have h2 := ho.2
          clear ho
          by_cases hz0 : s = 0
          · have hz1 : decide (0 < s) = false := by simp [hz0]
            have hz2 : ¬ 0 < s := by omega
            have HZ0 := hid hz0
            clear hz0
            go_wp2
            go_round
            case rel => exact ⟨7, c, by omega, rfl, rfl, hc0, by omega, ⟨fun _ => HO.out.1 (by omega), fun _ => HO.out.2.1 (by omega), fun _ => HO.out.2.2.1 (by omega), fun _ => HO.out.2.2.2.1 (by omega), fun _ => HO.out.2.2.2.2.1 (by omega), fun _ => HO.out.2.2.2.2.2.1 (by omega), fun _ => HK.out⟩, ⟨fun hq => ⟨fun _ => (HZ.out.1 hq).1 (by omega), fun _ => (HZ.out.1 hq).2.1 (by omega), fun _ => (HZ.out.1 hq).2.2.1 (by omega), fun _ => (HZ.out.1 hq).2.2.2.1 (by omega), fun _ => (HZ.out.1 hq).2.2.2.2.1 (by omega), fun _ => HZ0.out⟩, fun q => HZ.out.2 ⟨fun _ => q.1 (by omega), fun _ => q.2.1 (by omega), fun _ => q.2.2.1 (by omega), fun _ => q.2.2.2.1 (by omega), fun _ => q.2.2.2.2.1 (by omega), by omega⟩⟩⟩
            case measure => simp [intOf]
          · have hz2 : 0 < s := by omega
            have hz1 : decide (0 < s) = true := decide_eq_true hz2
            go_wp2
            go_round
            case rel => exact ⟨7, c + 1, by omega, rfl, by go_num, by omega, by omega, ⟨fun _ => HO.out.1 (by omega), fun _ => HO.out.2.1 (by omega), fun _ => HO.out.2.2.1 (by omega), fun _ => HO.out.2.2.2.1 (by omega), fun _ => HO.out.2.2.2.2.1 (by omega), fun _ => HO.out.2.2.2.2.2.1 (by omega), fun _ => HK.out⟩, ⟨fun hq => by omega, fun q => absurd (q.2.2.2.2.2 (by omega)) hz0⟩⟩
            case measure => simp [intOf]
        · have hrf : r = false := by rw [HR.out]; exact decide_eq_false (fun x => ho x.1.2.2.2.2.2.2)
          subst hrf
          by_cases h1 : s < 0
          · go_wp2
            go_ret
            exact ⟨rfl, ((Below.refl _ _).alloc (Nat.le_refl _) _).alloc (by simp) _⟩
          · have h2 : 999999999 < s := by unfold okN at ho; omega
            clear ho
            go_wp2
            go_ret
            exact ⟨rfl, ((Below.refl _ _).alloc (Nat.le_refl _) _).alloc (by simp) _⟩
end Go.Proofs.YtjmainmidacmfaaDoor
