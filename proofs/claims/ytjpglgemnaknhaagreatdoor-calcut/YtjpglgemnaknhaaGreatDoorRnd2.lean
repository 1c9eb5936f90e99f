/-
  Texts of days stand in the order of the days.
-/
import Derived.Test.YtjpglgemnaknhaaGreatDoorRnd1
namespace Go.Proofs.YtjpglgemnaknhaaGreatDoor
open Go.RowKit
set_option maxRecDepth 100000

def val : List UInt8 → Nat
  | [] => 0
  | c :: r => c.toNat * 10 ^ r.length + val r
/-- alike but for digits -/
def Cl : List UInt8 → List UInt8 → Prop
  | [], [] => True
  | a :: x, b :: y => (a = b ∨ (isDB a = true ∧ isDB b = true)) ∧ Cl x y
  | _, _ => False

theorem Cl_near : ∀ (x y : List UInt8), Cl x y → x.length = y.length ∧ val x < val y + 10 ^ x.length ∧ val y < val x + 10 ^ x.length
  | [], [], _ => by simp [val]
  | [], b :: y, h => by simp [Cl] at h
  | a :: x, [], h => by simp [Cl] at h
  | a :: x, b :: y, h => by
    obtain ⟨h1, h2⟩ := h
    obtain ⟨hl, i1, i2⟩ := Cl_near x y h2
    have e1 : val (a :: x) = a.toNat * 10 ^ x.length + val x := rfl
    have e2 : val (b :: y) = b.toNat * 10 ^ y.length + val y := rfl
    have e3 : 10 ^ (a :: x).length = 10 * 10 ^ x.length := by rw [List.length_cons, Nat.pow_succ]; omega
    rw [e1, e2, e3, ← hl]
    generalize 10 ^ x.length = P at *
    refine ⟨by simp [hl], ?_⟩
    rcases h1 with rfl | ⟨ha, hb⟩
    · omega
    · have ha := isDB_in ha
      have hb := isDB_in hb
      have m1 : a.toNat * P ≤ 57 * P := Nat.mul_le_mul_right P ha.2
      have m2 : b.toNat * P ≤ 57 * P := Nat.mul_le_mul_right P hb.2
      have m3 : 48 * P ≤ a.toNat * P := Nat.mul_le_mul_right P ha.1
      have m4 : 48 * P ≤ b.toNat * P := Nat.mul_le_mul_right P hb.1
      omega

theorem less_val : ∀ (x y : List UInt8), Cl x y → Op.bytesLess x y = decide (val x < val y)
  | [], [], _ => rfl
  | [], b :: y, h => by simp [Cl] at h
  | a :: x, [], h => by simp [Cl] at h
  | a :: x, b :: y, h => by
    obtain ⟨h1, h2⟩ := h
    obtain ⟨hl, i1, i2⟩ := Cl_near x y h2
    have ih := less_val x y h2
    show (decide (a < b) || (a == b && Op.bytesLess x y)) = _
    have e1 : val (a :: x) = a.toNat * 10 ^ x.length + val x := rfl
    have e2 : val (b :: y) = b.toNat * 10 ^ y.length + val y := rfl
    rw [e1, e2, ← hl, ih]
    generalize 10 ^ x.length = P at *
    rcases Nat.lt_trichotomy a.toNat b.toNat with h | h | h
    · have m : (a.toNat + 1) * P ≤ b.toNat * P := Nat.mul_le_mul_right P h
      rw [Nat.add_mul] at m
      have hd : decide (a < b) = true := decide_eq_true (UInt8.lt_iff_toNat_lt.2 h)
      rw [hd, Bool.true_or, decide_eq_true (by omega)]
    · have hab : a = b := UInt8.toNat_inj.mp h
      subst hab
      have hd : decide (a < a) = false := decide_eq_false (by rw [UInt8.lt_iff_toNat_lt]; omega)
      rw [hd, Bool.false_or, beq_self_eq_true, Bool.true_and]
      by_cases q : val x < val y
      · rw [decide_eq_true q, decide_eq_true (by omega)]
      · rw [decide_eq_false q, decide_eq_false (by omega)]
    · have m : (b.toNat + 1) * P ≤ a.toNat * P := Nat.mul_le_mul_right P h
      rw [Nat.add_mul] at m
      have hd : decide (a < b) = false := decide_eq_false (by rw [UInt8.lt_iff_toNat_lt]; omega)
      have he : (a == b) = false := by rw [beq_eq_false_iff_ne]; intro e; subst e; omega
      rw [hd, he, Bool.false_or, Bool.false_and, decide_eq_false (by omega)]

/-- days stand in the order of year, month, day -/
theorem nb_order (y m d y' m' d' : Int) (h : VD y m d) (h' : VD y' m' d') (hl : y < y' ∨ (y = y' ∧ (m < m' ∨ (m = m' ∧ d < d')))) : nb y m d < nb y' m' d' := by
  have a := nb_year y m d h
  have b := nb_year y' m' d' h'
  rcases hl with hl | ⟨rfl, hl | ⟨rfl, hl⟩⟩
  · have := ys_le (y + 1) y' (by omega)
    omega
  · obtain ⟨_, _, h1, h2, h3, h4⟩ := h
    obtain ⟨_, _, k1, k2, k3, k4⟩ := h'
    have s1 := ms_step y m h1 h2
    have s2 := ms_le y (m + 1) m' (by omega) (by omega) (by omega)
    unfold nb
    omega
  · unfold nb
    omega
theorem ymd_lt (y m d y' m' d' : Int) (h : VD y m d) (h' : VD y' m' d') : (y * 1000000 + m * 1000 + d < y' * 1000000 + m' * 1000 + d') ↔ nb y m d < nb y' m' d' := by
  have l := lg_le y m
  have l' := lg_le y' m'
  have f := nb_order y m d y' m' d' h h'
  have g := nb_order y' m' d' y m d h' h
  have e : y = y' ∧ m = m' ∧ d = d' → nb y m d = nb y' m' d' := fun ⟨a, b, c⟩ => by rw [a, b, c]
  obtain ⟨h0, h1, h2, h3, h4, h5⟩ := h
  obtain ⟨k0, k1, k2, k3, k4, k5⟩ := h'
  constructor
  · intro q; exact f (by omega)
  · intro q
    by_cases x : y < y' ∨ (y = y' ∧ (m < m' ∨ (m = m' ∧ d < d')))
    · omega
    · by_cases z : y = y' ∧ m = m' ∧ d = d'
      · have := e z; omega
      · have := g (by omega); omega
theorem yd_lt (y m d y' m' d' : Int) (h : VD y m d) (h' : VD y' m' d') : (y * 10000 + yd y m d < y' * 10000 + yd y' m' d') ↔ nb y m d < nb y' m' d' := by
  have a := nb_year y m d h
  have b := nb_year y' m' d' h'
  have c := yd_in y m d h
  have c' := yd_in y' m' d' h'
  have e : nb y m d = ys y + yd y m d - 1 := by unfold nb yd; omega
  have e' : nb y' m' d' = ys y' + yd y' m' d' - 1 := by unfold nb yd; omega
  have l1 := fun q => ys_le (y + 1) y' q
  have l2 := fun q => ys_le (y' + 1) y q
  have l3 : y = y' → ys y = ys y' := fun q => by rw [q]
  rcases Int.lt_trichotomy y y' with q | q | q
  · have := l1 (by omega); omega
  · have := l3 q; omega
  · have := l2 (by omega); omega
theorem wk_lt (y m d y' m' d' : Int) (h : VD y m d) (h' : VD y' m' d') :
    (wkY y (nb y m d) * 1000000 + wkW y (nb y m d) * 1000 + (wd (nb y m d) + 1) < wkY y' (nb y' m' d') * 1000000 + wkW y' (nb y' m' d') * 1000 + (wd (nb y' m' d') + 1)) ↔ nb y m d < nb y' m' d' := by
  obtain ⟨o, e⟩ := week_ok y m d h
  obtain ⟨o', e'⟩ := week_ok y' m' d' h'
  generalize nb y m d = n at *
  generalize nb y' m' d' = n' at *
  generalize wkY y n = a at *
  generalize wkW y n = b at *
  generalize wd n + 1 = c at *
  generalize wkY y' n' = a' at *
  generalize wkW y' n' = b' at *
  generalize wd n' + 1 = c' at *
  unfold wkD at e e'
  obtain ⟨o1, o2, o3, o4, o5, o6⟩ := o
  obtain ⟨p1, p2, p3, p4, p5, p6⟩ := o'
  have w := wkN_is a
  have w' := wkN_is a'
  have mono : ∀ x z : Int, x ≤ z → wkS x ≤ wkS z := by
    intro x z hxz
    have h1 := wkS_near x
    have h2 := wkS_near z
    rcases Int.lt_or_eq_of_le hxz with q | q
    · have h3 := ys_mono x z q
      omega
    · rw [q]; omega
  have m1 := fun q => mono (a + 1) a' q
  have m2 := fun q => mono (a' + 1) a q
  have m3 : a = a' → wkS a = wkS a' := fun q => by rw [q]
  rcases Int.lt_trichotomy a a' with q | q | q
  · have := m1 (by omega); omega
  · have := m3 q; omega
  · have := m2 (by omega); omega
end Go.Proofs.YtjpglgemnaknhaaGreatDoor
