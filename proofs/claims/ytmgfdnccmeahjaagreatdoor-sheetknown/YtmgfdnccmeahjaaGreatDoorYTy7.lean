/-
  Ty7: Sheets: the program's readers of days and codes.
-/
import Derived.Test.YtmgfdnccmeahjaaGreatDoorYJ
import Derived.Test.YtmgfdnccmeahjaaGreatDoorYA
import Derived.Test.YtmgfdnccmeahjaaGreatDoorYE
namespace Go.Proofs.YtmgfdnccmeahjaaGreatDoor
open Go.RowKit
set_option maxRecDepth 100000
set_option linter.unusedVariables false
set_option linter.unusedSimpArgs false

def rdCode (T : List UInt8) : Rd := if nrmE T = 0 then (0, 0, nrmT T, 0) else (17, 0, [], nrmE T)
def rdDate (y m d e : Int) : Rd := if e = 0 then (0, (if VD y m d then nb y m d else 0), [], 0) else (16, 0, [], e)
theorem why_put {w w2 : World} {g : Nat} {a b c : Value} (hX : w2.heap[g]? = some (.cells #[a, b, c] 52 (0, 0))) (hb : Below w.heap.size w w2) (hg : w.heap.size ≤ g) (x y z u v : Value) :
    (((((w2.setCell ⟨g, 0, none⟩ x).setCell ⟨g, 1, none⟩ y).setCell ⟨g, 2, none⟩ z).alloc (.cells #[u, v] 58)).drew).heap[g]? = some (.cells #[x, y, z] 52 (0, 0)) ∧
    (((((w2.setCell ⟨g, 0, none⟩ x).setCell ⟨g, 1, none⟩ y).setCell ⟨g, 2, none⟩ z).alloc (.cells #[u, v] 58)).drew).heap[w2.heap.size]? = some (.cells #[u, v] 58 (0, 0)) ∧
    Below w.heap.size w ((((w2.setCell ⟨g, 0, none⟩ x).setCell ⟨g, 1, none⟩ y).setCell ⟨g, 2, none⟩ z).alloc (.cells #[u, v] 58)).drew := by
  have h1 := put3 hX x y z
  have h2 := below3 hb hg x y z
  have hs : (((w2.setCell ⟨g, 0, none⟩ x).setCell ⟨g, 1, none⟩ y).setCell ⟨g, 2, none⟩ z).heap.size = w2.heap.size := by simp [go_sem]
  generalize ((w2.setCell ⟨g, 0, none⟩ x).setCell ⟨g, 1, none⟩ y).setCell ⟨g, 2, none⟩ z = W at h1 h2 hs
  have hl : g < W.heap.size := (Array.getElem?_eq_some_iff.1 h1).1
  refine ⟨?_, ?_, (h2.alloc h2.size _).drew⟩
  · exact ((Below.refl W.heap.size W).alloc (Nat.le_refl _) _).block g hl |>.trans h1
  · rw [← hs]; exact heap_alloc_new W _
set_option maxHeartbeats 1000000 in
theorem readCode_any (A : Nat → Addr) (s : ByteArray) (w : World) (hs : s.size ≤ 281474976710656) (hA : Sn A w) :
    Calls Tryz.prog 148 #[.string s] w fun e w' => RdP A 5 (rdCode s.data.toList) w w' e ∧ Below w.heap.size w w' := by
  obtain ⟨W, hW⟩ : ∃ W, w.alloc (.cells #[.int .i64 0, .string ⟨#[]⟩, .int .i64 0] 52) = W := ⟨_, rfl⟩
  have bW : Below w.heap.size w W := by rw [← hW]; exact (Below.refl _ _).alloc (Nat.le_refl _) _
  have xW : W.heap[w.heap.size]? = some (.cells #[.int .i64 0, .string ⟨#[]⟩, .int .i64 0] 52 (0, 0)) := by rw [← hW]; exact heap_alloc_new w _
  have HC := hid (normal_any s W (by omega))
  have HG17 := hid (show 6 < w.heap.size from World.block_lt_of_cell? _ _ (hA.cellAt (c := 17) (by decide) (by decide)))
  have HSn := hid (hA.below bW)
  have HX := hid (And.intro bW xW)
  have HW := hid hW
  clear bW xW hW hA
  have HR := hid (show rdCode s.data.toList = if nrmE s.data.toList = 0 then (0, 0, nrmT s.data.toList, 0) else (17, 0, [], nrmE s.data.toList) from rfl)
  obtain ⟨E, hE⟩ : ∃ E, nrmE s.data.toList = E := ⟨_, rfl⟩
  obtain ⟨T, hT⟩ : ∃ T, nrmT s.data.toList = T := ⟨_, rfl⟩
  rw [hE, hT] at HC HR
  clear hE hT
  go_enter Tryz.func148, Tryz.ntmps148
  go_wp2_with fail
  rw [HW.out]
  refine Calls.mono HC.out ?_
  rintro e w2 ⟨rfl, hb2⟩
  have HB2 := hid (HX.out.1.trans (hb2.mono HX.out.1.size))
  have HX2 := hid ((hb2.block _ (Array.getElem?_eq_some_iff.1 HX.out.2).1).trans HX.out.2)
  have HS2 := hid (HSn.out.below hb2)
  have hc17 := HS2.out.cellAt (c := 17) (by decide) (by decide)
  rw [show gV 17 = 6 from rfl] at hc17
  have hlt : 6 < w.heap.size := HG17.out
  have hlt2 : w.heap.size < w2.heap.size := (Array.getElem?_eq_some_iff.1 HX2.out).1
  have hne1 : ¬ (6 = w.heap.size) := by omega
  have hne2 : ¬ (w.heap.size = 6) := by omega
  have hne3 : ¬ (w.heap.size = w2.heap.size) := by omega
  have hne4 : ¬ (w2.heap.size = w.heap.size) := by omega
  have hne5 : ¬ (6 = w2.heap.size) := by omega
  have hne6 : ¬ (w2.heap.size = 6) := by omega
  have cx := Lib.cell_of_heap HX2.out
  have x0 := cx 0
  have x1 := cx 1
  have x2 := cx 2
  have fx := Lib.frozen_of_heap HX2.out
  have f0 := fx 0
  have f1 := fx 1
  have f2 := fx 2
  clear cx fx hb2 HC
  rw [erV_pos A (by omega)] at hc17
  by_cases hE : E = 0
  · have HRz := hid (show rdCode s.data.toList = (0, 0, T, 0) by rw [HR.out, if_pos hE])
    clear HR
    subst hE
    go_wp2
    exact rd_close (k := 5) (g := w.heap.size) rfl rfl (put3 HX2.out _ _ _) rfl ⟨by rw [HRz.out]; exact .inl ⟨rfl, _, by simp, rfl⟩, below3 HB2.out (Nat.le_refl _) _ _ _⟩
  · have hEb : (E == 0) = false := beq_eq_false_iff_ne.2 hE
    have hEc : (E != 0) = true := bne_iff_ne.2 hE
    have HRz := hid (show rdCode s.data.toList = (17, 0, [], E) by rw [HR.out, if_neg hE])
    clear HR
    go_wp2_with fail
    go_region
    all_goals
      go_wp2
      have hq := why_put HX2.out HB2.out (Nat.le_refl _) (.int .i64 0) (.string ⟨#[]⟩) (.int .i64 0) (.iface 312 (.pointer (some (A 17)))) (.int .i64 E)
      exact rd_close (k := 0) (g := w.heap.size) rfl rfl hq.1 rfl ⟨by rw [HRz.out]; exact .inr (.inr ⟨.inr rfl, _, rfl, by omega, by show _ = some (Obj.cells #[erV A 17, .int .i64 E] 58 (0, 0)); rw [erV_pos A (by decide)]; exact hq.2.1⟩), hq.2.2⟩
set_option maxHeartbeats 1000000 in
theorem readDate_any (A : Nat → Addr) (s : ByteArray) (y m d e p : Int) (w : World) (hA : Sn A w) (hAh : HasAh w)
    (hP : ∀ w, HasAh w → Calls Tryz.prog 169 #[.string s] w fun x w' => x = .returned (rT y m d e p) ∧ Below w.heap.size w w') :
    Calls Tryz.prog 146 #[.string s] w fun x w' => RdP A 4 (rdDate y m d e) w w' x ∧ Below w.heap.size w w' := by
  obtain ⟨W, hW⟩ : ∃ W, w.alloc (.cells #[.int .i64 0, .string ⟨#[]⟩, .int .i64 0] 52) = W := ⟨_, rfl⟩
  have bW : Below w.heap.size w W := by rw [← hW]; exact (Below.refl _ _).alloc (Nat.le_refl _) _
  have xW : W.heap[w.heap.size]? = some (.cells #[.int .i64 0, .string ⟨#[]⟩, .int .i64 0] 52 (0, 0)) := by rw [← hW]; exact heap_alloc_new w _
  have HC := hid (hP W (hAh.below bW))
  have HG16 := hid (show 18 < w.heap.size from World.block_lt_of_cell? _ _ (hA.cellAt (c := 16) (by decide) (by decide)))
  have HSn := hid (And.intro (hA.below bW) (hAh.below bW))
  have HX := hid (And.intro bW xW)
  have HW := hid hW
  clear bW xW hW hA hAh hP
  have HR := hid (show rdDate y m d e = if e = 0 then (0, (if VD y m d then nb y m d else 0), [], 0) else (16, 0, [], e) from rfl)
  unfold rT dV at HC
  go_enter Tryz.func146, Tryz.ntmps146
  go_wp2_with fail
  rw [HW.out]
  refine Calls.mono HC.out ?_
  rintro e w2 ⟨rfl, hb2⟩
  have HB2 := hid (HX.out.1.trans (hb2.mono HX.out.1.size))
  have HX2 := hid ((hb2.block _ (Array.getElem?_eq_some_iff.1 HX.out.2).1).trans HX.out.2)
  have HS2 := hid (And.intro (HSn.out.1.below hb2) (HSn.out.2.below hb2))
  have hlt : 18 < w.heap.size := HG16.out
  have hlt2 : w.heap.size < w2.heap.size := (Array.getElem?_eq_some_iff.1 HX2.out).1
  obtain ⟨W3, hW3⟩ : ∃ W3, w2.alloc (.cells #[.int .i64 y, .int .i64 m, .int .i64 d] 187) = W3 := ⟨_, rfl⟩
  have b3 : Below w2.heap.size w2 W3 := by rw [← hW3]; exact (Below.refl _ _).alloc (Nat.le_refl _) _
  have HB3 := hid (HB2.out.trans (b3.mono HB2.out.size))
  have HX3 := hid ((b3.block _ hlt2).trans HX2.out)
  have HS3 := hid (And.intro (HS2.out.1.below b3) (HS2.out.2.below b3))
  have HW3 := hid hW3
  have HD := hid (days_any y m d W3 HS3.out.2)
  unfold dV at HD
  clear hb2 HC b3 hW3
  by_cases hE : e = 0
  · have HRz := hid (show rdDate y m d e = (0, (if VD y m d then nb y m d else 0), [], 0) by rw [HR.out, if_pos hE])
    obtain ⟨N, hN⟩ : ∃ N, (if VD y m d then nb y m d else 0) = N := ⟨_, rfl⟩
    obtain ⟨M, hM⟩ : ∃ M : Int, (if VD y m d then 0 else 30) = M := ⟨_, rfl⟩
    rw [hN, hM] at HD
    rw [hN] at HRz
    clear HR hN hM
    subst hE
    go_wp2_with fail
    rw [HW3.out]
    refine Calls.mono HD.out ?_
    rintro e w4 ⟨rfl, hb4⟩
    have HB4 := hid (HB3.out.trans (hb4.mono HB3.out.size))
    have HX4 := hid ((hb4.block _ (Array.getElem?_eq_some_iff.1 HX3.out).1).trans HX3.out)
    have cx := Lib.cell_of_heap HX4.out
    have x0 := cx 0
    have x1 := cx 1
    have x2 := cx 2
    have fx := Lib.frozen_of_heap HX4.out
    have f0 := fx 0
    have f1 := fx 1
    have f2 := fx 2
    clear cx fx hb4 HD
    go_wp2
    exact rd_close (k := 4) (g := w.heap.size) rfl rfl (put3 HX4.out _ _ _) rfl ⟨by rw [HRz.out]; exact .inl ⟨rfl, ⟨#[]⟩, rfl, rfl⟩, below3 HB4.out (Nat.le_refl _) _ _ _⟩
  · have hEb : (e == 0) = false := beq_eq_false_iff_ne.2 hE
    have hEc : (e != 0) = true := bne_iff_ne.2 hE
    have HRz := hid (show rdDate y m d e = (16, 0, [], e) by rw [HR.out, if_neg hE])
    clear HR
    have hlt3 : w.heap.size < W3.heap.size := (Array.getElem?_eq_some_iff.1 HX3.out).1
    have hc16 := HS3.out.1.cellAt (c := 16) (by decide) (by decide)
    rw [show gV 16 = 18 from rfl, erV_pos A (by omega)] at hc16
    have hne1 : ¬ (18 = w.heap.size) := by omega
    have hne2 : ¬ (w.heap.size = 18) := by omega
    have hne3 : ¬ (w.heap.size = W3.heap.size) := by omega
    have hne4 : ¬ (W3.heap.size = w.heap.size) := by omega
    have hne5 : ¬ (18 = W3.heap.size) := by omega
    have hne6 : ¬ (W3.heap.size = 18) := by omega
    have cx := Lib.cell_of_heap HX3.out
    have x0 := cx 0
    have x1 := cx 1
    have x2 := cx 2
    have fx := Lib.frozen_of_heap HX3.out
    have f0 := fx 0
    have f1 := fx 1
    have f2 := fx 2
    clear cx fx
    go_wp2_with fail
    rw [HW3.out]
    go_region
    all_goals
      go_wp2
      have hq := why_put HX3.out HB3.out (Nat.le_refl _) (.int .i64 0) (.string ⟨#[]⟩) (.int .i64 0) (.iface 312 (.pointer (some (A 16)))) (.int .i64 e)
      exact rd_close (k := 0) (g := w.heap.size) rfl rfl hq.1 rfl ⟨by rw [HRz.out]; exact .inr (.inr ⟨.inl rfl, _, rfl, by omega, by show _ = some (Obj.cells #[erV A 16, .int .i64 e] 58 (0, 0)); rw [erV_pos A (by decide)]; exact hq.2.1⟩), hq.2.2⟩
end Go.Proofs.YtmgfdnccmeahjaaGreatDoor
