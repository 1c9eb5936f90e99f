/-
  A Fault's text over any table of tens.
-/
import Derived.Test.YtpgpeafmlijfkaaGreatDoorFia
import Derived.Test.YtpgpeafmlijfkaaGreatDoorLawSFj
namespace Go.Proofs.YtpgpeafmlijfkaaGreatDoor
open Go.RowKit
set_option maxRecDepth 100000
set_option linter.unusedVariables false
/-- a Fault's text of its three parts -/
def fJn (q1 q2 s : ByteArray) : ByteArray := ((((⟨#[108, 105, 110, 101, 32]⟩ ++ q1) ++ ⟨#[32, 99, 111, 108, 117, 109, 110, 32]⟩) ++ q2) ++ ⟨#[58, 32]⟩) ++ s
set_option maxHeartbeats 4000000 in
theorem ferror_tab (a : Addr) (f x y : Nat) (q1 q2 q3 : ByteArray) (w : World) (z1 : q1.size ≤ 21) (z2 : q2.size ≤ 21) (z3 : q3.size ≤ 60)
    (hx : ∀ wx, LtB w wx → Calls Tryz.prog 55 #[.int .i64 (x : Int)] wx fun e w' => e = .returned (.string q1) ∧ Below wx.heap.size wx w')
    (hy : ∀ wx, LtB w wx → Calls Tryz.prog 55 #[.int .i64 (y : Int)] wx fun e w' => e = .returned (.string q2) ∧ Below wx.heap.size wx w')
    (h : w.heap[f]? = some (.cells #[.int .i64 (x : Int), .int .i64 (y : Int), .iface 208 (.pointer (some a))] 64 (0, 0))) (hA : w.cell? a = some (.string q3)) :
    Calls Tryz.prog 28 #[.pointer (some ⟨f, 0, none⟩)] w fun e w' => e = .returned (.string (fJn q1 q2 q3)) ∧ Below w.heap.size w w' := by
  have hfl : f < w.heap.size := (Array.getElem?_eq_some_iff.1 h).1
  have KK := hid (fun wx (hx : LtB w wx) => show wx.cell? ⟨f, 0, none⟩ = some (.int .i64 (x : Int)) ∧ wx.cell? ⟨f, 1, none⟩ = some (.int .i64 (y : Int)) ∧ wx.cell? ⟨f, 2, none⟩ = some (.iface 208 (.pointer (some a))) from by
    have h' := (Below.block hx f hfl).trans h
    exact ⟨Lib.cell_of_heap h' 0, Lib.cell_of_heap h' 1, Lib.cell_of_heap h' 2⟩)
  have CX := hid hx
  have CY := hid hy
  have CT := hid (fun wx (hb : LtB w wx) => textOf_any a q3 wx ((Below.cell hb (World.block_lt_of_cell? _ _ hA)).trans hA))
  unfold fJn
  obtain ⟨c0, c1, c2⟩ := KK.out w (Below.refl _ _)
  obtain ⟨d0, d1, d2⟩ := KK.out w.drew (Below.refl _ _).drew
  have K0 : LtB w w := Below.refl _ _
  have K1 : LtB w w.drew := (Below.refl _ _).drew
  have j1 : ¬ 9223372036854775807 < 5 + q1.size := by omega
  have j2 : ¬ 9223372036854775807 < 5 + q1.size + 8 := by omega
  have j3 : ¬ 9223372036854775807 < 5 + q1.size + 8 + q2.size := by omega
  have j4 : ¬ 9223372036854775807 < 5 + q1.size + 8 + q2.size + 2 := by omega
  have j5 : ¬ 9223372036854775807 < 5 + q1.size + 8 + q2.size + 2 + q3.size := by omega
  clear h hA hx hy z1 z2 z3
  go_enter Tryz.func28, Tryz.ntmps28
  go_wp2_with fail
  go_region_held3 (fun wx => wx.cell? ⟨f, 0, none⟩ = some (.int .i64 (x : Int)) ∧ wx.cell? ⟨f, 1, none⟩ = some (.int .i64 (y : Int)) ∧ wx.cell? ⟨f, 2, none⟩ = some (.iface 208 (.pointer (some a)))) (exact KK.out _ (by assumption)) (first
    | (go_at_call_of 55 (Value.int .i64 (x : Int)); refine (CX.out _ (by assumption)).mono ?_; rintro e w3 ⟨rfl, s3⟩; have K3 := LtB.step (by assumption) s3; clear s3)
    | (go_at_call_of 55 (Value.int .i64 (y : Int)); refine (CY.out _ (by assumption)).mono ?_; rintro e w4 ⟨rfl, s4⟩; have K4 := LtB.step (by assumption) s4; clear s4)
    | (go_at_call 56; refine (CT.out _ (by assumption)).mono ?_; rintro e w5 ⟨rfl, s5⟩; replace s5 := s5.symm; subst s5))
  all_goals
    go_wp2
    go_ret
    exact ⟨rfl, by assumption⟩
theorem tSh_size (c : Nat) (h : Cod c) : (tSh c).toArray.size ≤ 60 := by
  rcases cod_cases h with rfl | rfl | rfl | rfl | rfl | rfl | rfl | rfl | rfl | rfl <;> decide
theorem errC_any (A : Nat → Addr) (w : World) (hA : Sm A w) (hT : TabU w) : ErrC A w := by
  have hN : ∃ tn : Nat → ByteArray, ∀ u, u ≤ 262200 → (tn u).size ≤ 21 ∧ ∀ wx, Below w.heap.size w wx → Calls Tryz.prog 55 #[.int .i64 (u : Int)] wx fun e w' => e = .returned (.string (tn u)) ∧ Below wx.heap.size wx w' := by
    refine ⟨fun u => if h : u ≤ 262200 then Classical.choose (itoa_tab u w h hT) else ⟨#[]⟩, fun u h => ?_⟩
    simp only [h, dite_true]
    exact Classical.choose_spec (itoa_tab u w h hT)
  obtain ⟨tn, hN⟩ := hN
  refine ⟨fun x y c => fJn (tn x) (tn y) ⟨(tSh c).toArray⟩, fun f c x y wx hb hx hy hf hc => ?_⟩
  obtain ⟨_, ⟨s, h2, h3⟩, _⟩ := (hA.below hb) c hc
  have es : s = ⟨(tSh c).toArray⟩ := by rw [← h3]
  rw [es] at h2
  rw [erV_pos A hc.pos] at hf
  exact ferror_tab (A c) f x y (tn x) (tn y) ⟨(tSh c).toArray⟩ wx (hN x hx).1 (hN y hy).1 (tSh_size c hc) (fun wy hy2 => (hN x hx).2 wy (hb.trans (Below.mono hy2 hb.size))) (fun wy hy2 => (hN y hy).2 wy (hb.trans (Below.mono hy2 hb.size))) hf h2
end Go.Proofs.YtpgpeafmlijfkaaGreatDoor
