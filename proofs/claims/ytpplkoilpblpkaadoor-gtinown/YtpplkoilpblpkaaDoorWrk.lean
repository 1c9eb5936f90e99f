/-
  works: a fixed list is printed and read.
-/
import Derived.Test.YtpplkoilpblpkaaDoorBck
import Derived.Test.YtpplkoilpblpkaaDoorPse
import Derived.Test.YtpplkoilpblpkaaDoorSame
namespace Go.Proofs.YtpplkoilpblpkaaDoor
open Go.RowKit
set_option maxRecDepth 100000

def L0 : List El := [(⟨#[49, 48]⟩, ⟨#[65, 40, 49]⟩), (⟨#[49, 55]⟩, ⟨#[50, 53, 49, 50, 51, 49]⟩)]
theorem PrA0 : PrA L0 ⟨#[49, 48, 65, 40, 49, 29, 49, 55, 50, 53, 49, 50, 51, 49]⟩ 0 0 := by
  refine .inr ⟨fun j hj => ?_, .inr (.inr ⟨by decide +kernel, by decide +kernel, by decide +kernel, rfl, rfl⟩)⟩
  have hj2 : j < 2 := hj
  have : j = 0 ∨ j = 1 := by omega
  rcases this with rfl | rfl <;> decide +kernel
theorem PaA0 : PaA [49, 48, 65, 40, 49, 29, 49, 55, 50, 53, 49, 50, 51, 49] L0 0 0 := .inr ⟨by decide +kernel, 2, 14, L0, [0, 6], by decide +kernel, .inr ⟨by decide +kernel, .inr ⟨by decide +kernel, rfl, rfl, rfl⟩⟩⟩
theorem RE.two (w : World) (a x c y : ByteArray) : RE (w.alloc (.cells #[.string a, .string x, .string c, .string y] 36)) (.slice (some ⟨w.heap.size, 0, none⟩) 2 2) [(a, x), (c, y)] := by
  refine .inr ⟨w.heap.size, 0, 2, rfl, Nat.le_refl _, fun j hj => ?_⟩
  have hj2 : j < 2 := hj
  have : j = 0 ∨ j = 1 := by omega
  rcases this with rfl | rfl <;> exact ⟨by simp, by simp⟩

set_option maxHeartbeats 2000000 in
theorem works_any (w : World) (hkn : HasKn w) : Calls Tryd.prog 5 #[] w fun e w' => e = .returned (.bool true) ∧ Below w.heap.size w w' := by
  have HK := hid hkn
  clear hkn
  obtain ⟨W, hW⟩ : ∃ W, W = w.alloc (.cells #[.string ⟨#[49, 48]⟩, .string ⟨#[65, 40, 49]⟩, .string ⟨#[49, 55]⟩, .string ⟨#[50, 53, 49, 50, 51, 49]⟩] 36) := ⟨_, rfl⟩
  have R0 := hid (show RE W (.slice (some ⟨w.heap.size, 0, none⟩) 2 2) L0 from hW ▸ RE.two w _ _ _ _)
  have B0 := hid (show Below w.heap.size w W from hW ▸ (Below.refl _ _).alloc (Nat.le_refl _) _)
  have P1 := hid (print_any _ L0 W (HK.out.below B0.out) R0.out (fun x hx => by
    have : ∀ x ∈ L0, x.2.size ≤ 100 := by decide +kernel
    have := this x hx
    omega) (by decide +kernel))
  have P2 := hid (fun w h => parse_any ⟨#[49, 48, 65, 40, 49, 29, 49, 55, 50, 53, 49, 50, 51, 49]⟩ w h (by decide +kernel))
  go_enter Tryd.func5, Tryd.ntmps5
  go_wp2_with fail
  rw [← hW]
  refine P1.out.mono ?_
  rintro e w1 ⟨⟨t, en, n, rfl, hA⟩, hb1⟩
  obtain ⟨rfl, rfl, rfl⟩ := PrA0.same hA
  have R1 := hid (R0.out.below hb1)
  have B1 := hid (B0.out.trans (hb1.mono B0.out.size))
  clear hA hb1 P1 R0 B0
  go_wp2_with fail
  refine (P2.out _ (HK.out.below B1.out)).mono ?_
  rintro e w2 ⟨⟨v, M, en, n, rfl, hr, hA, _⟩, hb2⟩
  obtain ⟨rfl, rfl, rfl⟩ := PaA0.same hA
  have R2 := hid (R1.out.below hb2)
  have R3 := hid hr
  have B2 := hid (B1.out.trans (hb2.mono B1.out.size))
  have HS := hid (same_true _ _ _ _ R2.out R3.out (by decide +kernel))
  clear hA hb2 hr P2 R1 B1
  go_wp2_with fail
  refine HS.out.mono ?_
  rintro e w3 ⟨rfl, hb3⟩
  have B3 := hid (B2.out.trans (hb3.mono B2.out.size))
  clear hb3
  go_wp2
  go_ret
  exact ⟨rfl, B3.out⟩
end Go.Proofs.YtpplkoilpblpkaaDoor
