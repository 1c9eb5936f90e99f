/-
  New; works: one stripe, two tickets; LockNil.
-/
import Derived.Test.YtokpncfnkokmcaaTb3
namespace Go.Proofs.Ytokpncfnkokmcaa
open Go.RowKit
set_option maxRecDepth 100000

theorem strinfo : (Try.prog.info? 51).map (fun i => (i.zero, i.size, i.bytes)) = some (some (.agg #[.int .i64 0, .int .i64 0, .int .i64 0]), 3, 24) := by kernel_rfl
theorem hc_zero (n : Nat) : ∀ u ∈ hc (List.replicate n (0, 0, 0)), u = .int .i64 0 := by
  intro u hu
  obtain ⟨x, hx, hu⟩ := List.mem_flatMap.1 hu
  obtain rfl := List.eq_of_mem_replicate hx
  simpa using hu
theorem made_h (n : Nat) : madeCells #[.int .i64 0, .int .i64 0, .int .i64 0] (n * 3) = (hc (List.replicate n (0, 0, 0))).toArray := by
  apply Array.ext
  · rw [size_madeCells]; simp [hc_len]
  · intro i h1 h2
    have e2 : (hc (List.replicate n (0, 0, 0))).toArray[i] = .int .i64 0 := hc_zero n _ (by simp)
    rw [e2]
    have h3 : i % 3 = 0 ∨ i % 3 = 1 ∨ i % 3 = 2 := by omega
    rcases h3 with h | h | h <;> simp [madeCells, h]
def mkH (a b : Value) : Sem Value := Instr.makeSlice 45 a b
theorem mkh_op (a b : Value) : Instr.makeSlice 45 a b = mkH a b := rfl
theorem run_mkH (n : Nat) (hn : n ≤ 1000) (w : World) : (mkH (.int .i64 (n : Int)) (.int .i64 (n : Int))).run Try.prog w = .ok (.slice (some ⟨w.heap.size, 0, none⟩) n n) (w.alloc (.cells (hc (List.replicate n (0, 0, 0))).toArray 51)) := by
  obtain ⟨i, hi, hz, hs, hb⟩ := info_parts strinfo
  have := run_make (P := Try.prog) w 45 51 i _ Try.underlying45 hi hz .i64 .i64 (n : Int) (n : Int) (by omega) (by omega) (by rw [hb]; omega) (by omega)
  unfold mkH
  rw [this, hs]
  simp only [Int.toNat_natCast]
  rw [show (Value.agg #[Value.int IntKind.i64 0, Value.int IntKind.i64 0, Value.int IntKind.i64 0]).cells = #[.int .i64 0, .int .i64 0, .int .i64 0] from rfl, made_h]
attribute [local go_sem ↓] mkh_op
/-- a table of n stripes behind its making -/
theorem TB.made (tt rt : TypeId) (n : Nat) (w : World) (hn : 1 ≤ n) (hn2 : n ≤ 64) :
    TB tt rt ((w.alloc (.cells (hc (List.replicate n (0, 0, 0))).toArray rt)).alloc (.cells #[.slice (some ⟨w.heap.size, 0, none⟩) n n] tt)) w.heap.size (w.heap.size + 1) w.heap.size (List.replicate n (0, 0, 0)) := by
  have z1 : (w.alloc (.cells (hc (List.replicate n (0, 0, 0))).toArray rt)).heap.size = w.heap.size + 1 := by simp
  refine ⟨by omega, Nat.le_refl _, ?_, ?_, by omega, by simp; omega, fun i hi => by simp⟩
  · rw [List.length_replicate]
    have h := heap_alloc_new (w.alloc (.cells (hc (List.replicate n (0, 0, 0))).toArray rt)) (.cells #[.slice (some ⟨w.heap.size, 0, none⟩) n n] tt)
    rw [z1] at h
    exact h
  · have a1 := (Below.refl (w.heap.size + 1) (w.alloc (.cells (hc (List.replicate n (0, 0, 0))).toArray rt))).alloc (by simp) (.cells #[.slice (some ⟨w.heap.size, 0, none⟩) n n] tt)
    rw [a1.block w.heap.size (by omega)]
    exact heap_alloc_new w _
theorem new_in (n : Nat) (w : World) (hn : 1 ≤ n) (hn2 : n ≤ 64) :
    Calls Try.prog 6 #[.int .i64 (n : Int)] w fun e w' => (∃ d hb, e = .returned (.tuple #[.pointer (some ⟨d, 0, none⟩), .int .i64 0]) ∧ TP w' w.heap.size d hb (List.replicate n (0, 0, 0))) ∧ Below w.heap.size w w' := by
  have HI := hid (isCount_any (n : Int))
  rw [show okS (n : Int) = true by unfold okS; exact decide_eq_true ⟨by omega, by omega⟩] at HI
  have hm := run_mkH n (by omega)
  have HT := hid (TB.made 47 51 n w hn hn2)
  have BV := hid (fun o o' => ((Below.refl w.heap.size w).alloc (Nat.le_refl _) o).alloc (by simp) o')
  go_enter Try.func6, Try.ntmps6
  go_wp2_with (go_at_call 19; refine (HI.out _).mono ?_; rintro e w3 ⟨rfl, rfl⟩)
  go_ret2
  exact ⟨⟨_, _, rfl, HT.out⟩, BV.out _ _⟩
theorem new_out (n : Int) (w : World) (hn : ¬ (1 ≤ n ∧ n ≤ 64)) :
    Calls Try.prog 6 #[.int .i64 n] w fun e w' => e = .returned (.tuple #[.pointer none, .int .i64 2]) ∧ w' = w := by
  have HI := hid (isCount_any n)
  rw [show okS n = false by unfold okS; exact decide_eq_false hn] at HI
  clear hn
  go_enter Try.func6, Try.ntmps6
  go_wp2_with (go_at_call 19; refine (HI.out _).mono ?_; rintro e w3 ⟨rfl, rfl⟩)
  go_ret2
  exact ⟨rfl, rfl⟩
theorem tick {w : World} {base d hb : Nat} {S : List Hd} (s : Int) (i : Nat) (x : Hd) (n e : Int) (S' : List Hd) (hs : s = (i : Int)) (hx : S[i]? = some x) (hn : tkN x = n) (he : tkE x = e) (hS : S.set i (tkX x) = S') (H : TP w base d hb S) :
    Calls Try.prog 14 #[.pointer (some ⟨d, 0, none⟩), .int .i64 s] w fun r w' => r = .returned (.tuple #[.int .i64 n, .int .i64 e]) ∧ TP w' base d hb S' ∧ Kw (fun k => k = hb) w w' := by
  subst hs
  obtain ⟨hi, rfl⟩ := List.getElem?_eq_some_iff.1 hx
  subst hn he hS
  exact ticket_in i w H hi
theorem lve {w : World} {base d hb : Nat} {S : List Hd} (s : Int) (t : Int) (i : Nat) (x : Hd) (e : Int) (S' : List Hd) (hs : s = (i : Int)) (hx : S[i]? = some x) (he : hoE x t 0 = e) (hS : S.set i (lvX x t) = S') (H : TP w base d hb S) :
    Calls Try.prog 16 #[.pointer (some ⟨d, 0, none⟩), .int .i64 s, .int .i64 t] w fun r w' => r = .returned (.int .i64 e) ∧ TP w' base d hb S' ∧ Kw (fun k => k = hb) w w' := by
  subst hs
  obtain ⟨hi, rfl⟩ := List.getElem?_eq_some_iff.1 hx
  subst he hS
  exact leave_in i t w H hi
theorem oddc {w : World} {base d hb : Nat} {S : List Hd} (s : Int) (t : Int) (i : Nat) (x : Hd) (e : Int) (S' : List Hd) (hs : s = (i : Int)) (hx : S[i]? = some x) (he : hoE x t 0 = e) (hS : S.set i (ctX x t 0) = S') (hq : x.2.2 < 4611686018427387904) (H : TP w base d hb S) :
    Calls Try.prog 17 #[.pointer (some ⟨d, 0, none⟩), .int .i64 s, .int .i64 t] w fun r w' => r = .returned (.int .i64 e) ∧ TP w' base d hb S' ∧ Kw (fun k => k = hb) w w' := by
  subst hs
  obtain ⟨hi, rfl⟩ := List.getElem?_eq_some_iff.1 hx
  subst he hS
  exact odd_in i t w H hi hq
theorem evenc {w : World} {base d hb : Nat} {S : List Hd} (s : Int) (t : Int) (i : Nat) (x : Hd) (e : Int) (S' : List Hd) (hs : s = (i : Int)) (hx : S[i]? = some x) (he : hoE x t 1 = e) (hS : S.set i (ctX x t 1) = S') (hq : x.2.2 < 4611686018427387904) (H : TP w base d hb S) :
    Calls Try.prog 18 #[.pointer (some ⟨d, 0, none⟩), .int .i64 s, .int .i64 t] w fun r w' => r = .returned (.int .i64 e) ∧ TP w' base d hb S' ∧ Kw (fun k => k = hb) w w' := by
  subst hs
  obtain ⟨hi, rfl⟩ := List.getElem?_eq_some_iff.1 hx
  subst he hS
  exact even_in i t w H hi hq
theorem srv {w : World} {base d hb : Nat} {S : List Hd} (s : Int) (t : Int) (i : Nat) (x : Hd) (b : Bool) (hs : s = (i : Int)) (hx : S[i]? = some x) (he : svd x t = b) (H : TP w base d hb S) :
    Calls Try.prog 15 #[.pointer (some ⟨d, 0, none⟩), .int .i64 s, .int .i64 t] w fun r w' => r = .returned (.bool b) ∧ TP w' base d hb S ∧ Below w.heap.size w w' := by
  subst hs
  obtain ⟨hi, rfl⟩ := List.getElem?_eq_some_iff.1 hx
  subst he
  exact (served_in i t w H hi).mono fun e w' h => ⟨h.1, H.below h.2, h.2⟩
theorem sqc {w : World} {base d hb : Nat} {S : List Hd} (s : Int) (i : Nat) (x : Hd) (n : Int) (hs : s = (i : Int)) (hx : S[i]? = some x) (he : x.2.2 = n) (H : TP w base d hb S) :
    Calls Try.prog 12 #[.pointer (some ⟨d, 0, none⟩), .int .i64 s] w fun r w' => r = .returned (.int .i64 n) ∧ w' = w := by
  subst hs
  obtain ⟨hi, rfl⟩ := List.getElem?_eq_some_iff.1 hx
  subst he
  exact seq_in i w H hi
theorem wtg {w : World} {base d hb : Nat} {S : List Hd} (s : Int) (i : Nat) (x : Hd) (n : Int) (hs : s = (i : Int)) (hx : S[i]? = some x) (he : x.1 - x.2.1 = n) (H : TP w base d hb S) :
    Calls Try.prog 13 #[.pointer (some ⟨d, 0, none⟩), .int .i64 s] w fun r w' => r = .returned (.int .i64 n) ∧ TP w' base d hb S ∧ Below w.heap.size w w' := by
  subst hs
  obtain ⟨hi, rfl⟩ := List.getElem?_eq_some_iff.1 hx
  subst he
  exact (waiting_in i w H hi).mono fun e w' h => ⟨h.1, H.below h.2, h.2⟩
end Go.Proofs.Ytokpncfnkokmcaa
