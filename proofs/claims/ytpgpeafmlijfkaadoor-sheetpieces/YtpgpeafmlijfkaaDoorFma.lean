/-
  A number's text over any table of tens.
-/
import Derived.Test.YtpgpeafmlijfkaaDoorNdg
import Derived.Test.YtpgpeafmlijfkaaDoorFb2
import Derived.Test.YtpgpeafmlijfkaaDoorFb3
import Derived.Test.YtpgpeafmlijfkaaDoorFb4
import Derived.Test.YtpgpeafmlijfkaaDoorFb5
import Derived.Test.YtpgpeafmlijfkaaDoorFb6
import Derived.Below
import Derived.Laws.IdiomStrings
import Derived.Lib.ItoaMem
namespace Go.Proofs.YtpgpeafmlijfkaaDoor
open Go.RowKit Go.Sort Go.Lib
set_option maxRecDepth 100000
set_option linter.unusedVariables false
theorem by_lo {w : World} {g k : Nat} {z : Int} (h : By w g k z) (a : Nat) : By (put2 w g k a) g k ((sm (a % 100 * 2)).toNat : Int) := by
  unfold put2
  refine ⟨World.cell?_setCell_same _ _ _ (u := .int .u8 z) ?_, ?_⟩
  · rw [World.cell?_setCell_other _ _ _ _ (by simp)]
    exact h.1
  · rw [World.frozen?_setCell, World.frozen?_setCell]
    exact h.2
theorem by_hi {w : World} {g k : Nat} {z : Int} (h : By w g (k + 1) z) (a : Nat) : By (put2 w g k a) g (k + 1) ((sm (a % 100 * 2 + 1)).toNat : Int) := by
  unfold put2
  refine ⟨?_, ?_⟩
  · rw [World.cell?_setCell_other _ _ _ _ (by simp)]
    exact World.cell?_setCell_same _ _ _ (u := .int .u8 z) h.1
  · rw [World.frozen?_setCell, World.frozen?_setCell]
    exact h.2
theorem by_one {w : World} {g : Nat} {z : Int} (h : By w g 1 z) (a : Nat) : By (put1 w g a) g 1 ((UInt8.ofNat (48 + a)).toNat : Int) := by
  unfold put1
  refine ⟨?_, ?_⟩
  · rw [World.cell?_setCell_same _ _ _ (u := .int .u8 z) h.1]
    simp
  · rw [World.frozen?_setCell]
    exact h.2
theorem by_put1 {w : World} {g j : Nat} {z : Int} (h : By w g j z) (a : Nat) (hj : j ≠ 1) : By (put1 w g a) g j z := by
  unfold put1
  refine ⟨?_, ?_⟩
  · rw [World.cell?_setCell_other _ _ _ _ (by simp <;> omega)]
    exact h.1
  · rw [World.frozen?_setCell]
    exact h.2
theorem bel_put2 {B : Nat} {a w : World} {g k x : Nat} (h : Below B a w) (hg : B ≤ g) : Below B a (put2 w g k x) := (h.drew.setCell (p := ⟨g, k + 1, none⟩) hg _).setCell (p := ⟨g, k, none⟩) hg _
theorem bel_put1 {B : Nat} {a w : World} {g x : Nat} (h : Below B a w) (hg : B ≤ g) : Below B a (put1 w g x) := h.setCell (p := ⟨g, 1, none⟩) hg _
/-- formatBase10 of n bytes writes a list that hangs on n and u alone -/
def Fmt (n u : Nat) : Prop := ∃ l : List UInt8, l.length = n ∧ ∀ (g : Nat) (w : World), (∀ j, j < 6 → By w g (1 + j) 0) →
    Calls Tryd.prog 71 #[.slice (some ⟨g, 1, none⟩) n 23, .int .u64 (u : Int)] w fun e w' => e = .returned (.tuple #[]) ∧ Below g w w' ∧ ∀ j (hj : j < l.length), w'.cell? ⟨g, 1 + j, none⟩ = some (.int .u8 (l[j].toNat : Int))
set_option maxHeartbeats 2000000 in
theorem fmt_2 (u : Nat) (hu : u ≤ 262200) : Fmt 2 u := by
  obtain ⟨x1, e1⟩ : ∃ x : UInt8, x = sm ((u) % 100 * 2) := ⟨_, rfl⟩
  obtain ⟨x2, e2⟩ : ∃ x : UInt8, x = sm ((u) % 100 * 2 + 1) := ⟨_, rfl⟩
  refine ⟨[x1, x2], rfl, fun g w hB => ?_⟩
  have b1 : By w g 1 0 := hB 0 (by omega)
  have b2 : By w g 2 0 := hB 1 (by omega)
  refine (fb_2 g u w 0 0 hu b1 b2).mono ?_
  rintro e w' ⟨rfl, hw⟩
  have k1 : By w' g 1 (x1.toNat : Int) := by rw [e1, hw]; exact (by_lo (b1) (u))
  have k2 : By w' g 2 (x2.toNat : Int) := by rw [e2, hw]; exact (by_hi (k := 1) (b2) (u))
  have hb : Below g w w' := by rw [hw]; exact bel_put2 (Below.refl g w) (Nat.le_refl _)
  clear e1 e2 hw
  refine ⟨rfl, hb, fun j hj => ?_⟩
  have hj2 : j < 2 := hj
  have hc : j = 0 ∨ j = 1 := by omega
  rcases hc with rfl | rfl
  · exact k1.1
  · exact k2.1
set_option maxHeartbeats 2000000 in
theorem fmt_3 (u : Nat) (hu : u ≤ 262200) : Fmt 3 u := by
  obtain ⟨x1, e1⟩ : ∃ x : UInt8, x = UInt8.ofNat (48 + u / 100) := ⟨_, rfl⟩
  obtain ⟨x2, e2⟩ : ∃ x : UInt8, x = sm ((u) % 100 * 2) := ⟨_, rfl⟩
  obtain ⟨x3, e3⟩ : ∃ x : UInt8, x = sm ((u) % 100 * 2 + 1) := ⟨_, rfl⟩
  refine ⟨[x1, x2, x3], rfl, fun g w hB => ?_⟩
  have b1 : By w g 1 0 := hB 0 (by omega)
  have b2 : By w g 2 0 := hB 1 (by omega)
  have b3 : By w g 3 0 := hB 2 (by omega)
  refine (fb_3 g u w 0 0 0 hu b1 b2 b3).mono ?_
  rintro e w' ⟨rfl, hw⟩
  have k1 : By w' g 1 (x1.toNat : Int) := by rw [e1, hw]; exact (by_one (((b1).put2 (k := 2) (a := u) (by omega) (by omega))) (u / 100))
  have k2 : By w' g 2 (x2.toNat : Int) := by rw [e2, hw]; exact (by_put1 ((by_lo (b2) (u))) (u / 100) (by omega))
  have k3 : By w' g 3 (x3.toNat : Int) := by rw [e3, hw]; exact (by_put1 ((by_hi (k := 2) (b3) (u))) (u / 100) (by omega))
  have hb : Below g w w' := by rw [hw]; exact bel_put1 (bel_put2 (Below.refl g w) (Nat.le_refl _)) (Nat.le_refl _)
  clear e1 e2 e3 hw
  refine ⟨rfl, hb, fun j hj => ?_⟩
  have hj2 : j < 3 := hj
  have hc : j = 0 ∨ j = 1 ∨ j = 2 := by omega
  rcases hc with rfl | rfl | rfl
  · exact k1.1
  · exact k2.1
  · exact k3.1
set_option maxHeartbeats 2000000 in
theorem fmt_4 (u : Nat) (hu : u ≤ 262200) : Fmt 4 u := by
  obtain ⟨x1, e1⟩ : ∃ x : UInt8, x = sm ((u / 100) % 100 * 2) := ⟨_, rfl⟩
  obtain ⟨x2, e2⟩ : ∃ x : UInt8, x = sm ((u / 100) % 100 * 2 + 1) := ⟨_, rfl⟩
  obtain ⟨x3, e3⟩ : ∃ x : UInt8, x = sm ((u) % 100 * 2) := ⟨_, rfl⟩
  obtain ⟨x4, e4⟩ : ∃ x : UInt8, x = sm ((u) % 100 * 2 + 1) := ⟨_, rfl⟩
  refine ⟨[x1, x2, x3, x4], rfl, fun g w hB => ?_⟩
  have b1 : By w g 1 0 := hB 0 (by omega)
  have b2 : By w g 2 0 := hB 1 (by omega)
  have b3 : By w g 3 0 := hB 2 (by omega)
  have b4 : By w g 4 0 := hB 3 (by omega)
  refine (fb_4 g u w 0 0 0 0 hu b1 b2 b3 b4).mono ?_
  rintro e w' ⟨rfl, hw⟩
  have k1 : By w' g 1 (x1.toNat : Int) := by rw [e1, hw]; exact (by_lo (((b1).put2 (k := 3) (a := u) (by omega) (by omega))) (u / 100))
  have k2 : By w' g 2 (x2.toNat : Int) := by rw [e2, hw]; exact (by_hi (k := 1) (((b2).put2 (k := 3) (a := u) (by omega) (by omega))) (u / 100))
  have k3 : By w' g 3 (x3.toNat : Int) := by rw [e3, hw]; exact (((by_lo (b3) (u))).put2 (k := 1) (a := u / 100) (by omega) (by omega))
  have k4 : By w' g 4 (x4.toNat : Int) := by rw [e4, hw]; exact (((by_hi (k := 3) (b4) (u))).put2 (k := 1) (a := u / 100) (by omega) (by omega))
  have hb : Below g w w' := by rw [hw]; exact bel_put2 (bel_put2 (Below.refl g w) (Nat.le_refl _)) (Nat.le_refl _)
  clear e1 e2 e3 e4 hw
  refine ⟨rfl, hb, fun j hj => ?_⟩
  have hj2 : j < 4 := hj
  have hc : j = 0 ∨ j = 1 ∨ j = 2 ∨ j = 3 := by omega
  rcases hc with rfl | rfl | rfl | rfl
  · exact k1.1
  · exact k2.1
  · exact k3.1
  · exact k4.1
set_option maxHeartbeats 2000000 in
theorem fmt_5 (u : Nat) (hu : u ≤ 262200) : Fmt 5 u := by
  obtain ⟨x1, e1⟩ : ∃ x : UInt8, x = UInt8.ofNat (48 + u / 10000) := ⟨_, rfl⟩
  obtain ⟨x2, e2⟩ : ∃ x : UInt8, x = sm ((u / 100) % 100 * 2) := ⟨_, rfl⟩
  obtain ⟨x3, e3⟩ : ∃ x : UInt8, x = sm ((u / 100) % 100 * 2 + 1) := ⟨_, rfl⟩
  obtain ⟨x4, e4⟩ : ∃ x : UInt8, x = sm ((u) % 100 * 2) := ⟨_, rfl⟩
  obtain ⟨x5, e5⟩ : ∃ x : UInt8, x = sm ((u) % 100 * 2 + 1) := ⟨_, rfl⟩
  refine ⟨[x1, x2, x3, x4, x5], rfl, fun g w hB => ?_⟩
  have b1 : By w g 1 0 := hB 0 (by omega)
  have b2 : By w g 2 0 := hB 1 (by omega)
  have b3 : By w g 3 0 := hB 2 (by omega)
  have b4 : By w g 4 0 := hB 3 (by omega)
  have b5 : By w g 5 0 := hB 4 (by omega)
  refine (fb_5 g u w 0 0 0 0 0 hu b1 b2 b3 b4 b5).mono ?_
  rintro e w' ⟨rfl, hw⟩
  have k1 : By w' g 1 (x1.toNat : Int) := by rw [e1, hw]; exact (by_one (((((b1).put2 (k := 4) (a := u) (by omega) (by omega))).put2 (k := 2) (a := u / 100) (by omega) (by omega))) (u / 10000))
  have k2 : By w' g 2 (x2.toNat : Int) := by rw [e2, hw]; exact (by_put1 ((by_lo (((b2).put2 (k := 4) (a := u) (by omega) (by omega))) (u / 100))) (u / 10000) (by omega))
  have k3 : By w' g 3 (x3.toNat : Int) := by rw [e3, hw]; exact (by_put1 ((by_hi (k := 2) (((b3).put2 (k := 4) (a := u) (by omega) (by omega))) (u / 100))) (u / 10000) (by omega))
  have k4 : By w' g 4 (x4.toNat : Int) := by rw [e4, hw]; exact (by_put1 ((((by_lo (b4) (u))).put2 (k := 2) (a := u / 100) (by omega) (by omega))) (u / 10000) (by omega))
  have k5 : By w' g 5 (x5.toNat : Int) := by rw [e5, hw]; exact (by_put1 ((((by_hi (k := 4) (b5) (u))).put2 (k := 2) (a := u / 100) (by omega) (by omega))) (u / 10000) (by omega))
  have hb : Below g w w' := by rw [hw]; exact bel_put1 (bel_put2 (bel_put2 (Below.refl g w) (Nat.le_refl _)) (Nat.le_refl _)) (Nat.le_refl _)
  clear e1 e2 e3 e4 e5 hw
  refine ⟨rfl, hb, fun j hj => ?_⟩
  have hj2 : j < 5 := hj
  have hc : j = 0 ∨ j = 1 ∨ j = 2 ∨ j = 3 ∨ j = 4 := by omega
  rcases hc with rfl | rfl | rfl | rfl | rfl
  · exact k1.1
  · exact k2.1
  · exact k3.1
  · exact k4.1
  · exact k5.1
set_option maxHeartbeats 2000000 in
theorem fmt_6 (u : Nat) (hu : u ≤ 262200) : Fmt 6 u := by
  obtain ⟨x1, e1⟩ : ∃ x : UInt8, x = sm ((u / 10000) % 100 * 2) := ⟨_, rfl⟩
  obtain ⟨x2, e2⟩ : ∃ x : UInt8, x = sm ((u / 10000) % 100 * 2 + 1) := ⟨_, rfl⟩
  obtain ⟨x3, e3⟩ : ∃ x : UInt8, x = sm ((u / 100) % 100 * 2) := ⟨_, rfl⟩
  obtain ⟨x4, e4⟩ : ∃ x : UInt8, x = sm ((u / 100) % 100 * 2 + 1) := ⟨_, rfl⟩
  obtain ⟨x5, e5⟩ : ∃ x : UInt8, x = sm ((u) % 100 * 2) := ⟨_, rfl⟩
  obtain ⟨x6, e6⟩ : ∃ x : UInt8, x = sm ((u) % 100 * 2 + 1) := ⟨_, rfl⟩
  refine ⟨[x1, x2, x3, x4, x5, x6], rfl, fun g w hB => ?_⟩
  have b1 : By w g 1 0 := hB 0 (by omega)
  have b2 : By w g 2 0 := hB 1 (by omega)
  have b3 : By w g 3 0 := hB 2 (by omega)
  have b4 : By w g 4 0 := hB 3 (by omega)
  have b5 : By w g 5 0 := hB 4 (by omega)
  have b6 : By w g 6 0 := hB 5 (by omega)
  refine (fb_6 g u w 0 0 0 0 0 0 hu b1 b2 b3 b4 b5 b6).mono ?_
  rintro e w' ⟨rfl, hw⟩
  have k1 : By w' g 1 (x1.toNat : Int) := by rw [e1, hw]; exact (by_lo (((((b1).put2 (k := 5) (a := u) (by omega) (by omega))).put2 (k := 3) (a := u / 100) (by omega) (by omega))) (u / 10000))
  have k2 : By w' g 2 (x2.toNat : Int) := by rw [e2, hw]; exact (by_hi (k := 1) (((((b2).put2 (k := 5) (a := u) (by omega) (by omega))).put2 (k := 3) (a := u / 100) (by omega) (by omega))) (u / 10000))
  have k3 : By w' g 3 (x3.toNat : Int) := by rw [e3, hw]; exact (((by_lo (((b3).put2 (k := 5) (a := u) (by omega) (by omega))) (u / 100))).put2 (k := 1) (a := u / 10000) (by omega) (by omega))
  have k4 : By w' g 4 (x4.toNat : Int) := by rw [e4, hw]; exact (((by_hi (k := 3) (((b4).put2 (k := 5) (a := u) (by omega) (by omega))) (u / 100))).put2 (k := 1) (a := u / 10000) (by omega) (by omega))
  have k5 : By w' g 5 (x5.toNat : Int) := by rw [e5, hw]; exact (((((by_lo (b5) (u))).put2 (k := 3) (a := u / 100) (by omega) (by omega))).put2 (k := 1) (a := u / 10000) (by omega) (by omega))
  have k6 : By w' g 6 (x6.toNat : Int) := by rw [e6, hw]; exact (((((by_hi (k := 5) (b6) (u))).put2 (k := 3) (a := u / 100) (by omega) (by omega))).put2 (k := 1) (a := u / 10000) (by omega) (by omega))
  have hb : Below g w w' := by rw [hw]; exact bel_put2 (bel_put2 (bel_put2 (Below.refl g w) (Nat.le_refl _)) (Nat.le_refl _)) (Nat.le_refl _)
  clear e1 e2 e3 e4 e5 e6 hw
  refine ⟨rfl, hb, fun j hj => ?_⟩
  have hj2 : j < 6 := hj
  have hc : j = 0 ∨ j = 1 ∨ j = 2 ∨ j = 3 ∨ j = 4 ∨ j = 5 := by omega
  rcases hc with rfl | rfl | rfl | rfl | rfl | rfl
  · exact k1.1
  · exact k2.1
  · exact k3.1
  · exact k4.1
  · exact k5.1
  · exact k6.1
theorem fmt_any (n u : Nat) (hn : 2 ≤ n ∧ n ≤ 6) (hu : u ≤ 262200) : Fmt n u := by
  have hh : n = 2 ∨ n = 3 ∨ n = 4 ∨ n = 5 ∨ n = 6 := by omega
  rcases hh with rfl | rfl | rfl | rfl | rfl
  · exact fmt_2 u hu
  · exact fmt_3 u hu
  · exact fmt_4 u hu
  · exact fmt_5 u hu
  · exact fmt_6 u hu
end Go.Proofs.YtpgpeafmlijfkaaDoor
