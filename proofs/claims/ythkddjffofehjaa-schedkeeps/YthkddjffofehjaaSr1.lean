/-
  Rounds: its closure and what it goes over; the closure that goes over nothing.
-/
import Derived.RangeFuncNested
import Derived.RangeFuncBound
import Derived.RangeFuncCalls
import Derived.RangeFuncLeaves
import Derived.Shelf.Abstract
import Derived.Shelf.RegionOpen
import Derived.OwnWalkIn
import Derived.TacticsInMore
import Derived.LoopNIn
import Derived.LoopIn
import Derived.Laws.EntriesVeiled
import Derived.Deep.RegionHeld
import Derived.Test.YthkddjffofehjaaSc1
namespace Go.Proofs.Ythkddjffofehjaa
open Go.RowKit Go.Shelf
set_option maxRecDepth 100000
attribute [local go_sem] Oper.semAt_some

theorem alloc_below (w : World) (o : Obj) : Below w.heap.size w (w.alloc o) := (Below.refl _ _).alloc (Nat.le_refl _) _
/-- a number lies in block b -/
def IBox (w : World) (b : Nat) (v : Int) : Prop := w.heap[b]? = some (.cells #[.int .i64 v] 3 (0, 0))
theorem IBox.facts {w : World} {b : Nat} {v : Int} (h : IBox w b v) : w.cell? ⟨b, 0, none⟩ = some (.int .i64 v) ∧ w.frozen? ⟨b, 0, none⟩ = false ∧ b < w.heap.size :=
  ⟨by rw [Lib.cell_of_heap h]; rfl, Lib.frozen_of_heap h 0, (Array.getElem?_eq_some_iff.1 h).1⟩
theorem IBox.later {w w' : World} {b : Nat} {v : Int} (h : IBox w b v) (hb : Below w.heap.size w w') : IBox w' b v := (hb.block b h.facts.2.2).trans h
/-- all blocks ahead of B0 lie as they lay -/
def KpB (B0 : Nat) (A B : World) : Prop := ∀ k : Nat, k < B0 → B.heap[k]? = A.heap[k]?
theorem KpB.refl (B0 : Nat) (A : World) : KpB B0 A A := fun _ _ => rfl
theorem KpB.trans {B0 : Nat} {A B C : World} (h : KpB B0 A B) (k : KpB B0 B C) : KpB B0 A C := fun i hi => (k i hi).trans (h i hi)
theorem KpB.box {B0 g : Nat} {A B : World} {v : Int} (h : KpB B0 A B) (hg : g < B0) (hx : IBox A g v) : IBox B g v := (h g hg).trans hx

/-- the first k picks of Rounds -/
def rdL (n k : Nat) : List Int := (List.range k).map fun i : Nat => (i : Int) % (n : Int)
theorem rdL_succ (n k : Nat) : rdL n (k + 1) = rdL n k ++ [(k : Int) % (n : Int)] := by unfold rdL; rw [List.range_succ, List.map_append]; rfl
theorem rdL_len (n k : Nat) : (rdL n k).length = k := by unfold rdL; simp
theorem rdL_take (n k m : Nat) (h : k ≤ m) : (rdL n m).take k = rdL n k := by
  unfold rdL
  rw [← List.map_take, List.take_range, Nat.min_eq_left h]

set_option maxHeartbeats 1000000 in
theorem rounds1 (m : Nat) (hm : 1 ≤ m) (l g B0 n : Nat) (hg : g < B0) (hn : 1 ≤ n ∧ n ≤ 16) (J Jx : List Int → World → Prop) (W : World) (hJ : AbidesFrom W.heap.size J)
    (hY : ∀ pre x W1, J pre W1 → pre.length < 65536 → YieldAt Fence.wide (m - 1) Try.prog l #[.int .i64 x] W1 fun e W' => (e = .returned (.bool true) ∧ J (pre ++ [x]) W' ∧ KpB B0 W1 W') ∨ (e = .returned (.bool false) ∧ Jx (pre ++ [x]) W'))
    (h0 : J [] W) (h1 : IBox W g (n : Int)) :
    CallsIn Fence.wide m Try.prog 29 #[.func (.yield l) #[] #[], .pointer (some ⟨g, 0, none⟩)] W fun e W' => (∃ v, e = .returned v) ∧ ((∃ ys, ys = rdL n 65536 ∧ J ys W') ∨ (∃ pre, (∃ k, k ≤ 65536 ∧ pre = rdL n k) ∧ Jx pre W')) := by
  have HJ := hid hJ
  have HY := hid hY
  have H1 := hid h1
  clear hJ hY h1
  refine callsIn_of_wp Try.func29 rfl trivial ?_ rfl
  simp only [Try.ntmps29, List.size_toArray, List.length_cons, List.length_nil, Nat.reduceAdd, Nat.reduceSub, Array.replicate_succ, Array.replicate_zero, List.push_toArray, List.append_toArray, List.nil_append, List.cons_append]
  gi_wp2
  gi_loopw [4] (fun v wr => ∃ k : Nat, k ≤ 65536 ∧ v = .int .i64 (k : Int) ∧ J (rdL n k) wr ∧ KpB B0 W wr) (fun v _ => 65536 - (intOf v).toNat)
  case atStart => exact ⟨0, Nat.zero_le _, rfl, h0, KpB.refl _ _⟩
  case round =>
    obtain ⟨k, hk, rfl, hJs, hkp⟩ := hrel
    obtain ⟨c1, _, _⟩ := (hkp.box hg H1.out).facts
    have HK := hid hkp
    have HJs := hid hJs
    clear hJs hkp
    by_cases hlt : k < 65536
    · have hz : (n : Int) ≠ 0 := by omega
      have hI : (k : Int) < 65536 := by omega
      have HL := hid hlt
      have HKk := hid hk
      clear hlt hk
      have HE := hid (rdL_succ n k)
      obtain ⟨fn, tmps, assign, body, hy, hR⟩ := HY.out (rdL n k) ((k : Int) % (n : Int)) _ HJs.out (by rw [rdL_len]; exact HL.out)
      gi_wp2_with fail
      refine hR.mono ?_
      rintro e W3 (⟨rfl, hJ3, hk3⟩ | ⟨rfl, hJx3⟩)
      · have HK3 := hid (HK.out.trans hk3)
        have HJ3 := hid hJ3
        clear hJ3 hk3 hy hR c1
        gi_wp2
        go_roundw
        case rel => exact ⟨k + 1, HL.out, by go_num, by rw [HE.out]; exact HJ3.out, HK3.out⟩
        case measure => have := HL.out; simp [intOf]; omega
      · have HJx := hid hJx3
        clear hy hR
        gi_wp2
        refine bodyPost_ret (results_none rfl _ _ _) rfl ?_
        exact ⟨⟨_, rfl⟩, .inr ⟨_, ⟨k + 1, HL.out, by rw [HE.out]⟩, HJx.out⟩⟩
    · have hI : ¬ (k : Int) < 65536 := by omega
      have hke : k = 65536 := by omega
      have HX := hid (show J (rdL n 65536) wr by rw [← hke]; exact HJs.out)
      clear hlt hke hk
      gi_wp2
      go_end0
      exact ⟨⟨_, rfl⟩, .inl HX.out⟩

theorem rounds_stops (m : Nat) (hm : 1 ≤ m) (g B0 n : Nat) (hg : g < B0) (hn : 1 ≤ n ∧ n ≤ 16) (w : World) (h1 : IBox w g (n : Int)) :
    SeqStopsK Fence.wide m Try.prog 29 #[.pointer (some ⟨g, 0, none⟩)] (fun x : Int => #[.int .i64 x]) (KpB B0) (fun ys => ys = rdL n 65536) (fun pre => ∃ k, k ≤ (rdL n 65536).length ∧ pre = (rdL n 65536).take k) (rdL n 65536).length w := fun l J Jx W hW hJ _ hY h0 => by
  rw [rdL_len] at hY
  refine (rounds1 m hm l g B0 n hg hn J Jx W hJ hY h0 (h1.later hW)).mono ?_
  rintro e W' ⟨he, h | ⟨pre, ⟨k, hk, rfl⟩, hj⟩⟩
  · exact ⟨he, .inl h⟩
  · exact ⟨he, .inr ⟨_, ⟨k, by rw [rdL_len]; exact hk, by rw [rdL_take n k 65536 hk]⟩, hj⟩⟩

theorem nothing_stops (m : Nat) (B0 : Nat) (w : World) :
    SeqStopsK Fence.wide m Try.prog 28 #[] (fun x : Int => #[.int .i64 x]) (KpB B0) (fun ys => ys = []) (fun pre => ∃ k, k ≤ ([] : List Int).length ∧ pre = ([] : List Int).take k) ([] : List Int).length w := fun l J Jx W hW hJ _ hY h0 => by
  refine callsIn_of_wp Try.func28 rfl trivial ?_ rfl
  simp only [Try.ntmps28, List.size_toArray, List.length_cons, List.length_nil, Nat.reduceAdd, Nat.reduceSub, Array.replicate_succ, Array.replicate_zero, List.push_toArray, List.append_toArray, List.nil_append, List.cons_append]
  have H0 := hid h0
  clear hY hJ h0
  gi_wp2
  go_end0
  exact ⟨⟨_, rfl⟩, .inl ⟨_, rfl, H0.out⟩⟩

/-- what Rounds answers: a closure over a box, or the one that goes over nothing -/
def RoE (n : Int) (w' : World) (e : Ending) : Prop :=
  (okN n = true ∧ ∃ g, e = .returned (.func (.func 29) #[] #[.pointer (some ⟨g, 0, none⟩)]) ∧ IBox w' g n) ∨ (okN n = false ∧ e = .returned (.func (.func 28) #[] #[]))
set_option maxHeartbeats 400000 in
theorem rounds_any (n : Int) (w : World) :
    Calls Try.prog 14 #[.int .i64 n] w fun e w' => RoE n w' e ∧ Below w.heap.size w w' := by
  have hmf : ∀ (fn : Fn) (first cap : Array Value) (w : World), (Instr.makeFunc fn first cap).run Try.prog w = .ok (.func fn first cap) w := fun _ _ _ _ => rfl
  have HI := hid (isCount_any n)
  have HX := hid (show IBox (w.alloc (.cells #[.int .i64 n] 3)) w.heap.size n from heap_alloc_new w (.cells #[.int .i64 n] 3))
  go_enter Try.func14, Try.ntmps14
  by_cases hn : okN n = true
  · rw [hn] at HI
    have HN := hid hn
    clear hn
    go_wp2_with (first
      | (go_at_call 25; refine (HI.out _).mono ?_; rintro e w3 ⟨rfl, rfl⟩))
    go_ret
    exact ⟨.inl ⟨HN.out, _, rfl, HX.out⟩, alloc_below _ _⟩
  · have hn := Bool.eq_false_iff.2 hn
    rw [hn] at HI
    have HN := hid hn
    clear hn
    go_wp2_with (first
      | (go_at_call 25; refine (HI.out _).mono ?_; rintro e w3 ⟨rfl, rfl⟩))
    go_ret
    exact ⟨.inr ⟨HN.out, rfl⟩, alloc_below _ _⟩
end Go.Proofs.Ythkddjffofehjaa
