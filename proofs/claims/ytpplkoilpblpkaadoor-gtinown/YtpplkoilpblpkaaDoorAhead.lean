/-
  The Ai with which a text begins: ahead.
-/
import Derived.Test.YtpplkoilpblpkaaDoorKindOf
import Derived.Test.YtpplkoilpblpkaaDoorShelf
import Derived.Test.YtpplkoilpblpkaaDoorBytes
import Derived.Handy
import Derived.Laws.EntriesVeiled
namespace Go.Proofs.YtpplkoilpblpkaaDoor
open Go.RowKit
set_option maxRecDepth 100000

/-- the error where no Ai among the first k stands ahead of l -/
def ahE (l : List UInt8) (k : Nat) : Int := if (knl.take k).any (fun x => l.isPrefixOf x.1) then 3 else 23
/-- the first Ai that stands ahead of l -/
def ahK (l : List UInt8) : Option (List UInt8 × Int) := knl.find? fun x => x.1.isPrefixOf l

theorem or_ifs (a b : Bool) : (if (a || b) = true then (3 : Int) else 23) = if b = true then 3 else if a = true then 3 else 23 := by
  cases a <;> cases b <;> rfl
theorem bnot_false {b : Bool} (h : b = false) : (!b) = true := by rw [h]; rfl

theorem ahE_step (l : List UInt8) (k : Nat) (hk : k < 39) : ahE l (k + 1) = if l.isPrefixOf (knl[k]'hk).1 then 3 else ahE l k := by
  unfold ahE
  have hk' : k < knl.length := hk
  rw [List.take_succ_eq_append_getElem hk', List.any_append]
  simp only [List.any_cons, List.any_nil, Bool.or_false]
  exact or_ifs _ _

theorem ahK_some {l : List UInt8} {k : Nat} (hk : k < 39) (h : ∀ j (hj : j < k), (knl[j]'(show j < 39 by omega)).1.isPrefixOf l = false) (he : (knl[k]'hk).1.isPrefixOf l = true) : ahK l = some (knl[k]'hk) :=
  (List.find?_eq_some_iff_getElem (p := fun x : List UInt8 × Int => x.1.isPrefixOf l) (xs := knl) (b := knl[k]'hk)).2 ⟨he, k, hk, rfl, fun j hj => bnot_false (h j hj)⟩
theorem ahK_none {l : List UInt8} (h : ∀ j (hj : j < 39), (knl[j]'hj).1.isPrefixOf l = false) : ahK l = none := by
  unfold ahK
  rw [List.find?_eq_none]
  intro x hx
  obtain ⟨j, hj, rfl⟩ := List.mem_iff_getElem.1 hx
  exact fun h1 => Bool.noConfusion ((h j hj).symm.trans h1)

/-- what ahead answers -/
def ahV (l : List UInt8) : Value := match ahK l with
  | some x => .tuple #[.agg #[.string ⟨x.1.toArray⟩, .int .i64 x.2], .int .i64 0]
  | none => .tuple #[.agg #[.string ⟨#[]⟩, .int .i64 0], .int .i64 (ahE l 39)]

theorem two_set {w : World} {n : Nat} {u0 u1 : Value} (c0 : w.cell? ⟨n, 0, none⟩ = some u0) (c1 : w.cell? ⟨n, 1, none⟩ = some u1) (x y : Value) :
    ((w.setCell ⟨n, 0, none⟩ x).setCell ⟨n, 1, none⟩ y).cell? ⟨n, 0, none⟩ = some x ∧ ((w.setCell ⟨n, 0, none⟩ x).setCell ⟨n, 1, none⟩ y).cell? ⟨n, 1, none⟩ = some y ∧ (w.setCell ⟨n, 0, none⟩ x).cell? ⟨n, 0, none⟩ = some x := by
  have a0 : (w.setCell ⟨n, 0, none⟩ x).cell? ⟨n, 0, none⟩ = some x := by apply World.cell?_setCell_same; exact c0
  have a1 : (w.setCell ⟨n, 0, none⟩ x).cell? ⟨n, 1, none⟩ = some u1 := by
    have := World.cell?_setCell_other (w := w) (a := ⟨n, 0, none⟩) (b := ⟨n, 1, none⟩) (v := x) (by simp)
    rw [this]; exact c1
  refine ⟨?_, ?_, a0⟩
  · have := World.cell?_setCell_other (w := w.setCell ⟨n, 0, none⟩ x) (a := ⟨n, 1, none⟩) (b := ⟨n, 0, none⟩) (v := y) (by simp)
    rw [this]; exact a0
  · apply World.cell?_setCell_same; exact a1

set_option maxHeartbeats 4000000 in
theorem ahead_any (s : ByteArray) (w : World) (h : HasKn w) :
    Calls Tryd.prog 34 #[.string s] w fun e w' => e = .returned (ahV s.data.toList) ∧ Below w.heap.size w w' := by
  obtain ⟨w1, hw1⟩ : ∃ w1, w1 = w.alloc (.cells #[.string ⟨#[]⟩, .int .i64 0] 86) := ⟨_, rfl⟩
  have hb1 : Below w.heap.size w w1 := hw1 ▸ (Below.refl _ _).alloc (Nat.le_refl _) _
  have hn1 : w1.heap[w.heap.size]? = some (.cells #[.string ⟨#[]⟩, .int .i64 0] 86 (0, 0)) := hw1 ▸ heap_alloc_new _ _
  have hz1 : w.heap.size < w1.heap.size := by rw [hw1]; simp
  obtain ⟨K, hK, kl⟩ := kn_load (h.below hb1)
  have HX : Hid (_) := fun k hk w => kn_index K hK k hk w
  clear hK h
  go_enter Tryd.func34, Tryd.ntmps34
  go_wp2_with fail
  rw [← hw1]
  clear hw1
  unfold Oper.wp execOp
  simp only [Act.eval, kl, Sem.run_bind, Sem.run_pure, Result.andThen_ok]
  rw [Oper.upon_value]
  go_wp2_with fail
  clear kl
  go_loopw [4, 8] (fun e i wr => ∃ k : Nat, k ≤ 39 ∧ i = .int .i64 (k : Int) ∧ e = .int .i64 (ahE s.data.toList k) ∧ Below w.heap.size w wr ∧ wr.heap[w.heap.size]? = some (.cells #[.string ⟨#[]⟩, .int .i64 0] 86 (0, 0)) ∧ ∀ j (hj : j < k) (hk : k ≤ 39), (knl[j]'(show j < 39 by omega)).1.isPrefixOf s.data.toList = false) (fun _ i _ => 39 - (intOf i).toNat)
  case atStart => exact ⟨0, by omega, rfl, rfl, hb1, hn1, fun j hj => by omega⟩
  case round =>
    obtain ⟨k, hk, rfl, rfl, hbl, hblk, hall⟩ := hrel
    have HA : Hid (_) := hall
    clear hall hb1 hn1 hz1
    have hz := hbl.size
    by_cases hlt : k < 39
    · have ki := HX.out k hlt wr
      obtain ⟨a, ha⟩ : ∃ a : ByteArray, a = ⟨(knl[k]'hlt).1.toArray⟩ := ⟨_, rfl⟩
      have hal : a.data.toList = (knl[k]'hlt).1 := by rw [ha]
      rw [← ha] at ki
      have HL : Hid (_) := hal
      clear ha hal
      have HB : Hid (_) := hblk
      clear hblk
      obtain ⟨e0, he0⟩ : ∃ e0, e0 = ahE s.data.toList k := ⟨_, rfl⟩
      rw [← he0]
      have HE0 : Hid (_) := he0
      clear he0
      have h0 : w.heap.size < wr.heap.size := (Array.getElem?_eq_some_iff.1 HB.out).1
      obtain ⟨kd, hkd⟩ : ∃ kd, kd = (knl[k]'hlt).2 := ⟨_, rfl⟩
      rw [← hkd] at ki
      have HKD : Hid (_) := hkd
      clear hkd
      have hbA := (Below.refl wr.heap.size wr).alloc (Nat.le_refl _) (.cells #[.string a, .int .i64 kd] 86)
      have hnA : (wr.alloc (.cells #[.string a, .int .i64 kd] 86)).heap[w.heap.size]? = some (.cells #[.string ⟨#[]⟩, .int .i64 0] 86 (0, 0)) := (hbA.block _ h0).trans HB.out
      have hall : Below w.heap.size w (wr.alloc (.cells #[.string a, .int .i64 kd] 86)) := hbl.alloc hz _
      have HNA : Hid (_) := hnA
      clear hbA
      by_cases he : (knl[k]'hlt).1.isPrefixOf s.data.toList = true
      · have hp : Lib.hasPrefix s.data.toList a.data.toList = true := by unfold Lib.hasPrefix; rw [HL.out]; exact he
        go_wp2_with fail
        refine (Tryd.strings_HasPrefix s a _).mono ?_
        rintro e w2 ⟨rfl, rfl⟩
        clear hnA
        have c0 : wr.cell? ⟨w.heap.size, 0, none⟩ = some (.string ⟨#[]⟩) := by rw [Lib.cell_of_heap HB.out]; rfl
        have c1 : wr.cell? ⟨w.heap.size, 1, none⟩ = some (.int .i64 0) := by rw [Lib.cell_of_heap HB.out]; rfl
        have f0 : wr.frozen? ⟨w.heap.size, 0, none⟩ = false := Lib.frozen_of_heap HB.out 0
        have f1 : wr.frozen? ⟨w.heap.size, 1, none⟩ = false := Lib.frozen_of_heap HB.out 1
        have hne : ¬ w.heap.size = wr.heap.size := by omega
        obtain ⟨d0, d1, _⟩ := two_set c0 c1 (.string a) (.int .i64 kd)
        have e0' := fun O => below_cells ((Below.refl _ _).alloc (Nat.le_refl _) O) _ _ d0
        have e1' := fun O => below_cells ((Below.refl _ _).alloc (Nat.le_refl _) O) _ _ d1
        clear d0 d1
        go_wp2
        refine bodyPost_ret (by simp [results, Tryd.results34, go_sem, e0', e1']; try rfl) rfl ?_
        refine ⟨?_, ?_⟩
        · unfold ahV
          rw [ahK_some hlt (fun j hj => HA.out j hj hk) he]
          have hA : a = ⟨(knl[k]'hlt).1.toArray⟩ := by rw [← HL.out]
          rw [hA, HKD.out]
        · exact ((hbl.setCell (Nat.le_refl _) _).setCell (Nat.le_refl _) _).alloc (by simpa using hz) _
      · rw [Bool.not_eq_true] at he
        have hp : Lib.hasPrefix s.data.toList a.data.toList = false := by unfold Lib.hasPrefix; rw [HL.out]; exact he
        clear hnA
        go_wp2_with fail
        refine (Tryd.strings_HasPrefix s a _).mono ?_
        rintro e w2 ⟨rfl, rfl⟩
        go_wp2_with fail
        refine (Tryd.strings_HasPrefix a s _).mono ?_
        rintro e w2 ⟨rfl, rfl⟩
        by_cases hs : s.data.toList.isPrefixOf (knl[k]'hlt).1 = true
        · have hp2 : Lib.hasPrefix a.data.toList s.data.toList = true := by unfold Lib.hasPrefix; rw [HL.out]; exact hs
          go_wp2
          go_roundw
          case rel =>
            refine ⟨k + 1, by omega, by go_num, ?_, hall, HNA.out, fun j hj hk1 => ?_⟩
            · rw [ahE_step _ _ hlt, if_pos hs]
            · by_cases e : j = k
              · subst e; exact he
              · exact HA.out j (by omega) (by omega)
          case measure => simp [intOf]; omega
        · rw [Bool.not_eq_true] at hs
          have hp2 : Lib.hasPrefix a.data.toList s.data.toList = false := by unfold Lib.hasPrefix; rw [HL.out]; exact hs
          go_wp2
          go_roundw
          case rel =>
            refine ⟨k + 1, by omega, by go_num, ?_, hall, HNA.out, fun j hj hk1 => ?_⟩
            · rw [ahE_step _ _ hlt, hs, HE0.out]; rfl
            · by_cases e : j = k
              · subst e; exact he
              · exact HA.out j (by omega) (by omega)
          case measure => simp [intOf]; omega
    · have hkk : k = 39 := by omega
      subst hkk
      obtain ⟨e0, he0⟩ : ∃ e0, e0 = ahE s.data.toList 39 := ⟨_, rfl⟩
      rw [← he0]
      have HE0 : Hid (_) := he0
      clear he0
      have c0 : wr.cell? ⟨w.heap.size, 0, none⟩ = some (.string ⟨#[]⟩) := by rw [Lib.cell_of_heap hblk]; rfl
      have c1 : wr.cell? ⟨w.heap.size, 1, none⟩ = some (.int .i64 0) := by rw [Lib.cell_of_heap hblk]; rfl
      have f0 : wr.frozen? ⟨w.heap.size, 0, none⟩ = false := Lib.frozen_of_heap hblk 0
      have f1 : wr.frozen? ⟨w.heap.size, 1, none⟩ = false := Lib.frozen_of_heap hblk 1
      obtain ⟨d0, d1, _⟩ := two_set c0 c1 (.string ⟨#[]⟩) (.int .i64 0)
      go_wp2
      refine bodyPost_ret (by simp [results, Tryd.results34, go_sem, d0, d1]; try rfl) rfl ?_
      refine ⟨?_, ?_⟩
      · unfold ahV
        rw [ahK_none (fun j hj => HA.out j hj (Nat.le_refl _)), HE0.out]
      · exact (hbl.setCell (Nat.le_refl _) _).setCell (Nat.le_refl _) _
end Go.Proofs.YtpplkoilpblpkaaDoor
