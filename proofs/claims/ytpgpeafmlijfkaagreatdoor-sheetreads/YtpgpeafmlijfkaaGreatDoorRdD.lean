/-
  Drd: Sheets, the document's side: its Reader in memory; slices of rows.
  Dre: Sheets, the document's side: its Reader's Feed and Close.
  Drj: Sheets, pure: what the document's Reader has read of all that came, beside the program's states.
  Drf: Sheets, the document's side: its Reader's Feed and Close of what came.
  Drg: Sheets, the document's side: its Reader's Close.
  Drw: Sheets, pure: how wide the rows are that are told; how long they are as one text.
-/
import Derived.Test.YtpgpeafmlijfkaaGreatDoorDsf
import Derived.Test.YtpgpeafmlijfkaaGreatDoorSpi
import Derived.Deep.MidRow
import Derived.Test.YtpgpeafmlijfkaaGreatDoorRdB2
import Derived.Test.YtpgpeafmlijfkaaGreatDoorSfg
import Derived.Deep.RegionHeld3
import Derived.Test.YtpgpeafmlijfkaaGreatDoorSpf
namespace Go.Proofs.YtpgpeafmlijfkaaGreatDoor
open Go.RowKit
set_option maxRecDepth 100000
set_option linter.unusedVariables false
set_option linter.unusedSimpArgs false

/-- the document's Reader in block d: all that came, rows told, the fault, whether it is over -/
def DB (w : World) (d : Nat) (s : ByteArray) (n c l k i : Nat) (o : Bool) : Prop := w.heap[d]? = some (.cells #[.string s, .int .i64 (n : Int), .int .i64 (c : Int), .int .i64 (l : Int), .int .i64 (k : Int), .int .i64 (i : Int), .int .i64 0, .bool o] 79 (0, 0))
section
variable {w w' : World} {d : Nat} {s : ByteArray} {n c l k i : Nat} {o : Bool}
theorem DB.lt (h : DB w d s n c l k i o) : d < w.heap.size := (Array.getElem?_eq_some_iff.1 h).1
theorem DB.later (h : DB w d s n c l k i o) (hb : Below w.heap.size w w') : DB w' d s n c l k i o := (hb.block d h.lt).trans h
theorem DB.c0 (h : DB w d s n c l k i o) : w.cell? ⟨d, 0, none⟩ = some (.string s) := Lib.cell_of_heap h 0
theorem DB.c1 (h : DB w d s n c l k i o) : w.cell? ⟨d, 1, none⟩ = some (.int .i64 (n : Int)) := Lib.cell_of_heap h 1
theorem DB.c2 (h : DB w d s n c l k i o) : w.cell? ⟨d, 2, none⟩ = some (.int .i64 (c : Int)) := Lib.cell_of_heap h 2
theorem DB.c7 (h : DB w d s n c l k i o) : w.cell? ⟨d, 7, none⟩ = some (.bool o) := Lib.cell_of_heap h 7
theorem DB.fr (h : DB w d s n c l k i o) (j : Nat) : w.frozen? ⟨d, j, none⟩ = false := Lib.frozen_of_heap h j
theorem DB.set0 (h : DB w d s n c l k i o) (s' : ByteArray) : DB (w.setCell ⟨d, 0, none⟩ (.string s')) d s' n c l k i o := Lib.heap_setCell_same h _
theorem DB.set1 (h : DB w d s n c l k i o) (n' : Nat) : DB (w.setCell ⟨d, 1, none⟩ (.int .i64 (n' : Int))) d s n' c l k i o := Lib.heap_setCell_same h _
theorem DB.set7 (h : DB w d s n c l k i o) (o' : Bool) : DB (w.setCell ⟨d, 7, none⟩ (.bool o')) d s n c l k i o' := Lib.heap_setCell_same h _
theorem DB.range (h : DB w d s n c l k i o) : w.rangeAt d 2 [.int .i64 (c : Int), .int .i64 (l : Int), .int .i64 (k : Int), .int .i64 (i : Int), .int .i64 0] := World.rangeAt_of_block h 2 5
theorem run_fLd2 (h : DB w d s n c l k i o) : (fLd ⟨d, 2, none⟩).run Tryz.prog w = .ok (fV c l k i) w :=
  run_loadVar_mid w d 2 _ _ _ h.range Tryz.underlying46 rfl fsize
theorem gb_setCells (b : Nat) : ∀ (vs : List Value) (w : World) (o : Nat), w.grownBy (w.setCells b o vs) (some b)
  | [], w, o => ⟨rfl, rfl, rfl, Nat.le_refl _, fun _ _ _ => rfl⟩
  | v :: r, w, o => (set_grown w b o v).trans (gb_setCells b r _ (o + 1))
theorem run_fSt2 (h : DB w d s n c l k i o) (c' l' k' i' : Nat) :
    ∃ W, (fSt ⟨d, 2, none⟩ (fV c' l' k' i')).run Tryz.prog w = .ok () W ∧ DB W d s n c' l' k' i' o ∧ w.grownBy W (some d) := by
  refine ⟨_, run_storeVar_mid w d 2 _ (fA c' l' k' i') (fun j hj => ⟨?_, h.fr _⟩) fsize (by simp [fA]; simp [Value.oneCell']), ?_, gb_setCells _ _ _ _⟩
  · have := h.range.isSome j hj
    exact this
  · have h1 : DB _ d s n c' l k i o := Lib.heap_setCell_same (i := 2) h (.int .i64 (c' : Int))
    have h2 : DB _ d s n c' l' k i o := Lib.heap_setCell_same (i := 3) h1 (.int .i64 (l' : Int))
    have h3 : DB _ d s n c' l' k' i o := Lib.heap_setCell_same (i := 4) h2 (.int .i64 (k' : Int))
    have h4 : DB _ d s n c' l' k' i' o := Lib.heap_setCell_same (i := 5) h3 (.int .i64 (i' : Int))
    exact Lib.heap_setCell_same (i := 6) h4 (.int .i64 0)
end
/-- rows from a to b -/
theorem sliced_rw {w : World} {ao : Option Addr} {m cap a b : Nat} {T : List (List (List UInt8))} (h : Rw w (.slice ao m cap) T) (ha : a ≤ b) (hb : b ≤ T.length) : Rw w (sliced ao a b cap 1) ((T.take b).drop a) := by
  obtain ⟨ao', cap', e, h2, h3, h4⟩ := h
  injection e with e1 e2 e3
  subst e1 e3
  have hl : ((T.take b).drop a).length = b - a := by simp; omega
  unfold sliced
  refine ⟨_, _, by rw [hl], by omega, by omega, fun i hi => ?_⟩
  rw [hl] at hi
  obtain ⟨g, off, u, q1, q2, q3⟩ := h4 (a + i) (by omega)
  subst q1
  refine ⟨g, off + a, u, ?_, ?_, ?_⟩
  · rw [if_neg (by omega), Option.map_some, Nat.mul_one, Addr.add_mid]
  · rw [Nat.add_assoc]; exact q2
  · rw [List.getElem_drop, List.getElem_take]
    exact q3
theorem run_mid {w : World} {ao : Option Addr} {m cap a b : Nat} {T : List (List (List UInt8))} (h : Rw w (.slice ao m cap) T) (ha : a ≤ b) (hb : b ≤ T.length) :
    (∀ W, (Instr.slice 30 (.slice ao m cap) (some (.int .i64 (a : Int))) (some (.int .i64 (b : Int))) none).run Tryz.prog W = .ok (sliced ao a b cap 1) W) := by
  obtain ⟨ao', cap', e, h2, h3, h4⟩ := h
  injection e with e1 e2 e3
  subst e1 e3
  have hbc : (b : Int) ≤ (cap : Int) := by omega
  have hab : (a : Int) ≤ (b : Int) := by omega
  have hz : ∀ W, (sizeOf 28).run Tryz.prog W = .ok 1 W := fun W => by go_simp
  intro W
  rw [run_slice_lh (P := Tryz.prog) (w := W) (t := 30) (a := ao) (len := m) (cap := cap) (ht := Tryz.underlying30) (kl := .i64) (kh := .i64) (l := (a : Int)) (h := (b : Int)) (h0 := by omega) (h1 := hab) (h2 := hbc)]
  show ((sizeOf 28).run Tryz.prog W).andThen _ = _
  rw [hz]
  simp [Result.andThen]
theorem run_from2 {w : World} {ao : Option Addr} {m cap a : Nat} {T : List (List (List UInt8))} (h : Rw w (.slice ao m cap) T) (ha : a ≤ T.length) :
    (∀ W, (Instr.slice 30 (.slice ao m cap) (some (.int .i64 (a : Int))) none none).run Tryz.prog W = .ok (sliced ao a T.length cap 1) W) := by
  obtain ⟨ao', cap', e, h2, h3, h4⟩ := h
  injection e with e1 e2 e3
  subst e1 e3
  have hbc : (a : Int) ≤ (m : Int) := by omega
  have hz : ∀ W, (sizeOf 28).run Tryz.prog W = .ok 1 W := fun W => by go_simp
  intro W
  rw [run_slice_l (P := Tryz.prog) (w := W) (t := 30) (a := ao) (len := m) (cap := cap) (ht := Tryz.underlying30) (kl := .i64) (l := (a : Int)) (h0 := by omega) (h1 := hbc)]
  show ((sizeOf 28).run Tryz.prog W).andThen _ = _
  rw [hz]
  simp [Result.andThen, e2]
/-- all blocks but d are as they were -/
def Lb (d : Nat) (w w' : World) : Prop := w'.os = w.os ∧ w'.tape = w.tape ∧ w'.output = w.output ∧ w.heap.size ≤ w'.heap.size ∧ ∀ g, g < w.heap.size → g ≠ d → w'.heap[g]? = w.heap[g]?
theorem Lb.of_below (d : Nat) {w w' : World} (h : Below w.heap.size w w') : Lb d w w' := ⟨h.os, h.tape, h.output, h.size, fun g hg _ => h.block g hg⟩
theorem Lb.trans {d : Nat} {w w1 w2 : World} (h : Lb d w w1) (k : Lb d w1 w2) : Lb d w w2 := ⟨k.1.trans h.1, k.2.1.trans h.2.1, k.2.2.1.trans h.2.2.1, Nat.le_trans h.2.2.2.1 k.2.2.2.1, fun g hg hne => (k.2.2.2.2 g (Nat.lt_of_lt_of_le hg h.2.2.2.1) hne).trans (h.2.2.2.2 g hg hne)⟩
theorem Lb.of_grown {d : Nat} {w w' : World} (h : w.grownBy w' (some d)) : Lb d w w' := ⟨h.os, h.tape, h.output, h.size, fun g hg hne => h.block g hg (fun e => hne (by injection e))⟩
theorem newDoc_any (w : World) : Calls Tryz.prog 6 #[] w fun e w' => e = .returned (.pointer (some ⟨w.heap.size, 0, none⟩)) ∧ DB w' w.heap.size ⟨#[]⟩ 0 0 0 0 0 false ∧ Below w.heap.size w w' := by
  go_enter Tryz.func6, Tryz.ntmps6
  go_wp2
  go_ret
  exact ⟨rfl, heap_alloc_new w _, (Below.refl _ _).alloc (Nat.le_refl _) _⟩
end Go.Proofs.YtpgpeafmlijfkaaGreatDoor

namespace Go.Proofs.YtpgpeafmlijfkaaGreatDoor
open Go.RowKit
set_option maxRecDepth 100000
set_option linter.unusedVariables false
set_option linter.unusedSimpArgs false
attribute [local go_sem ↓] fLd_op fSt_op

/-- no rows and a Fault -/
def NoR (w : World) (v : Value) (e : Ending) (w' : World) : Prop := e = .returned (.tuple #[.slice none 0 0, v]) ∧ Below w.heap.size w w'
theorem fd_new (w : World) (c l k i : Nat) : ∃ W, (fSt ⟨w.heap.size, 0, none⟩ (fV c l k i)).run Tryz.prog (w.alloc (.cells #[.int .i64 0, .int .i64 0, .int .i64 0, .int .i64 0, .int .i64 0] 46)) = .ok () W ∧ (fLd ⟨w.heap.size, 0, none⟩).run Tryz.prog W = .ok (fV c l k i) W ∧ Below w.heap.size w W := by
  obtain ⟨W, h1, h2, h3⟩ := run_fSt (FW.new w) c l k i
  exact ⟨W, h1, run_fLd h2, ((Below.refl _ w).alloc (Nat.le_refl _) _).grown h3 (by simp) (fun b hb => by cases hb; exact Nat.le_refl _)⟩
set_option maxHeartbeats 2000000 in
theorem dfeed_nil (p : Value) (w : World) : Calls Tryz.prog 14 #[.pointer none, p] w fun e w' => NoR w (fV 0 0 0 0) e w' := by
  obtain ⟨W, h1, h2, hb⟩ := fd_new w 0 0 0 0
  obtain ⟨fv, hfv⟩ : ∃ fv, fv = fV 0 0 0 0 := ⟨_, rfl⟩
  have h1' : (fSt ⟨w.heap.size, 0, none⟩ (.agg #[.int .i64 0, .int .i64 0, .int .i64 0, .int .i64 0, .int .i64 0])).run Tryz.prog (w.alloc (.cells #[.int .i64 0, .int .i64 0, .int .i64 0, .int .i64 0, .int .i64 0] 46)) = .ok () W := h1
  have HB := hid hb
  have HFv := hid hfv
  rw [← hfv] at h2
  clear hb hfv h1
  rw [← HFv.out]
  go_enter Tryz.func14, Tryz.ntmps14
  go_wp2
  refine bodyPost_ret (by simp [results, Tryz.results14, asAddr, ↓fLd_op, h2]; try rfl) rfl ?_
  exact ⟨rfl, HB.out⟩
set_option maxHeartbeats 2000000 in
theorem dclose_nil (w : World) : Calls Tryz.prog 8 #[.pointer none] w fun e w' => NoR w (fV 0 0 0 0) e w' := by
  obtain ⟨W, h1, h2, hb⟩ := fd_new w 0 0 0 0
  obtain ⟨fv, hfv⟩ : ∃ fv, fv = fV 0 0 0 0 := ⟨_, rfl⟩
  have h1' : (fSt ⟨w.heap.size, 0, none⟩ (.agg #[.int .i64 0, .int .i64 0, .int .i64 0, .int .i64 0, .int .i64 0])).run Tryz.prog (w.alloc (.cells #[.int .i64 0, .int .i64 0, .int .i64 0, .int .i64 0, .int .i64 0] 46)) = .ok () W := h1
  have HB := hid hb
  have HFv := hid hfv
  rw [← hfv] at h2
  clear hb hfv h1
  rw [← HFv.out]
  go_enter Tryz.func8, Tryz.ntmps8
  go_wp2
  refine bodyPost_ret (by simp [results, Tryz.results8, asAddr, ↓fLd_op, h2]; try rfl) rfl ?_
  exact ⟨rfl, HB.out⟩
set_option maxHeartbeats 2000000 in
theorem dfeed_over (p : Value) (d n c l k i : Nat) (s : ByteArray) (w : World) (h : DB w d s n c l k i true) : Calls Tryz.prog 14 #[.pointer (some ⟨d, 0, none⟩), p] w fun e w' => NoR w (fV 9 0 0 0) e w' := by
  obtain ⟨W, h1, h2, hb⟩ := fd_new w 9 0 0 0
  obtain ⟨fv, hfv⟩ : ∃ fv, fv = fV 9 0 0 0 := ⟨_, rfl⟩
  have h1' : (fSt ⟨w.heap.size, 0, none⟩ (.agg #[.int .i64 9, .int .i64 0, .int .i64 0, .int .i64 0, .int .i64 0])).run Tryz.prog (w.alloc (.cells #[.int .i64 0, .int .i64 0, .int .i64 0, .int .i64 0, .int .i64 0] 46)) = .ok () W := h1
  have HB := hid hb
  have HFv := hid hfv
  rw [← hfv] at h2
  have c7 := fun o : Obj => (h.later ((Below.refl _ w).alloc (Nat.le_refl _) o)).c7
  clear hb hfv h1 h
  rw [← HFv.out]
  go_enter Tryz.func14, Tryz.ntmps14
  go_wp2
  refine bodyPost_ret (by simp [results, Tryz.results14, asAddr, ↓fLd_op, h2]; try rfl) rfl ?_
  exact ⟨rfl, HB.out⟩
set_option maxHeartbeats 2000000 in
theorem dclose_over (d n c l k i : Nat) (s : ByteArray) (w : World) (h : DB w d s n c l k i true) : Calls Tryz.prog 8 #[.pointer (some ⟨d, 0, none⟩)] w fun e w' => NoR w (fV 9 0 0 0) e w' := by
  obtain ⟨W, h1, h2, hb⟩ := fd_new w 9 0 0 0
  obtain ⟨fv, hfv⟩ : ∃ fv, fv = fV 9 0 0 0 := ⟨_, rfl⟩
  have h1' : (fSt ⟨w.heap.size, 0, none⟩ (.agg #[.int .i64 9, .int .i64 0, .int .i64 0, .int .i64 0, .int .i64 0])).run Tryz.prog (w.alloc (.cells #[.int .i64 0, .int .i64 0, .int .i64 0, .int .i64 0, .int .i64 0] 46)) = .ok () W := h1
  have HB := hid hb
  have HFv := hid hfv
  rw [← hfv] at h2
  have c7 := fun o : Obj => (h.later ((Below.refl _ w).alloc (Nat.le_refl _) o)).c7
  clear hb hfv h1 h
  rw [← HFv.out]
  go_enter Tryz.func8, Tryz.ntmps8
  go_wp2
  refine bodyPost_ret (by simp [results, Tryz.results8, asAddr, ↓fLd_op, h2]; try rfl) rfl ?_
  exact ⟨rfl, HB.out⟩
set_option maxHeartbeats 2000000 in
theorem dfeed_bad (p : Value) (d n c l k i : Nat) (s : ByteArray) (w : World) (h : DB w d s n c l k i false) (hc : c ≠ 0) : Calls Tryz.prog 14 #[.pointer (some ⟨d, 0, none⟩), p] w fun e w' => NoR w (fV c l k i) e w' := by
  obtain ⟨w0, hw0⟩ : ∃ w0, w0 = w.alloc (.cells #[.int .i64 0, .int .i64 0, .int .i64 0, .int .i64 0, .int .i64 0] 46) := ⟨_, rfl⟩
  have hb0 : Below w.heap.size w w0 := hw0 ▸ (Below.refl _ w).alloc (Nat.le_refl _) _
  have h0 := h.later hb0
  have hf0 : FW w0.drew w.heap.size 0 0 0 0 := hw0 ▸ FW.new w
  have el := run_fLd2 (w := w0.drew) h0
  obtain ⟨W, es, hW, gW⟩ := run_fSt hf0 c l k i
  have el2 := run_fLd hW
  have HB := hid (show Below w.heap.size w W from hb0.drew.grown gW hb0.size (fun b hb => by cases hb; exact Nat.le_refl _))
  have c7 := h0.c7
  have c2 := h0.c2
  have hcn : ((c : Int) != 0) = true := by simp; omega
  have hcp : ¬ (c : Int) = 0 := by omega
  obtain ⟨fv, hfv⟩ : ∃ fv, fv = fV c l k i := ⟨_, rfl⟩
  rw [← hfv] at el es el2 ⊢
  have hA := hw0.symm
  clear h hc hb0 h0 hf0 hW gW hfv hw0
  go_enter Tryz.func14, Tryz.ntmps14
  go_wp2_with fail
  go_region
  all_goals
    go_wp2
    refine bodyPost_ret (by simp [results, Tryz.results14, asAddr, ↓fLd_op, el2]; try rfl) rfl ?_
    exact ⟨rfl, HB.out⟩
end Go.Proofs.YtpgpeafmlijfkaaGreatDoor

namespace Go.Proofs.YtpgpeafmlijfkaaGreatDoor
set_option maxRecDepth 100000
set_option linter.unusedVariables false
set_option linter.unusedSimpArgs false

theorem shw_take (L : List UInt8) (k c f : Nat) (h : shw (L.take k) c f = true) : shw L c f = true := by
  have hle : (L.take k).length ≤ L.length := by simp; omega
  unfold shw at h ⊢
  by_cases h0 : c = 0 ∨ c = 1
  · rw [if_pos h0] at h; exact absurd h (by simp)
  · rw [if_neg h0] at h ⊢
    by_cases h3 : c = 3
    · rw [if_pos h3] at h ⊢
      rw [decide_eq_true_eq] at h ⊢
      rcases h with h | h
      · rcases Nat.lt_or_ge f k with hf | hf
        · rw [ch_take L k f hf] at h; exact .inl h
        · exfalso
          have : ch (L.take k) f = 0 := by
            unfold ch bt
            rw [List.getD_eq_getElem?_getD, List.getElem?_eq_none (by simp; omega)]
            rfl
          omega
      · exact .inr (by omega)
    · rw [if_neg h3] at h ⊢
      by_cases h8 : c = 8
      · rw [if_pos h8] at h ⊢
        rw [decide_eq_true_eq] at h ⊢
        omega
      · rw [if_neg h8]
/-- a fault: all rows are over -/
theorem rdD_all (L : List UInt8) : ∀ (n i : Nat) (acc : List (List (List UInt8))), (rdD L n i acc).2.2.1 ≠ 0 → (rdD L n i acc).2.1 = (rdD L n i acc).1.length := by
  intro n
  induction n with
  | zero => intro i acc h; exact absurd rfl h
  | succ n ih =>
    intro i acc
    rw [rdD]
    simp only []
    split
    · split
      · intro _; rfl
      · split
        · intro _; rfl
        · split
          · intro _; rfl
          · split
            · intro _; rfl
            · split
              · intro h; exact absurd rfl h
              · exact ih _ _
    · intro h; exact absurd rfl h
/-- what the document reads of all that came, and the Reader's state -/
structure Rdj (L : List UInt8) (R : List (List (List UInt8))) (n c f : Nat) : Prop where
  nl : n ≤ R.length
  td : (sj L L.length).td = R.take n
  fl : f ≤ L.length
  f2 : f ≤ 262144
  cs : (shw L c f = true ∧ (sj L L.length).er = c ∧ (sj L L.length).fp = plc L f ∧ c ≠ 0 ∧ (c ≤ 8 ∨ c = 20))
    ∨ (shw L c f = false ∧ (sj L L.length).er = 0 ∧ L.length ≤ 262144 ∧ (clP { sj L L.length with td := [] }).er = c ∧ (c ≠ 0 → (clP { sj L L.length with td := [] }).fp = plc L f) ∧ c ≤ 8 ∧ (clP { sj L L.length with td := [] }).td = R.drop n)
theorem sj_feed (N : List UInt8) : sj N N.length = feed N s0 0 := by
  unfold sj feed
  rw [List.take_length, List.drop_zero]
theorem key_read (N : List UInt8) (hN : N.length ≤ 262144) : Reads2 N (feed N s0 0) (rdD N (N.length + 1) 0 []) :=
  read_feed N hN (N.length + 1) 0 (0, 0) (0, 0) 0 [] (by omega) (Nat.zero_le _) (by simp)
theorem rdj_any (L : List UInt8) : Rdj L (rdA L).1 (rdA L).2.1 (rdA L).2.2.1 (rdA L).2.2.2 := by
  rcases Nat.lt_or_ge 262144 L.length with hl | hl
  · have hN : (L.take 262144).length = 262144 := by simp; omega
    have hsj : sj L 262144 = feed (L.take 262144) s0 0 := by rw [← sj_feed, hN]; exact (sj_pre _ _ _ (by rw [List.take_take, Nat.min_self])).symm
    obtain ⟨k1, k2, k3⟩ := key_read (L.take 262144) (by omega)
    have hq : rdA L = (if shw (L.take 262144) (rdD (L.take 262144) ((L.take 262144).length + 1) 0 []).2.2.1 (rdD (L.take 262144) ((L.take 262144).length + 1) 0 []).2.2.2 = true then rdD (L.take 262144) ((L.take 262144).length + 1) 0 [] else ((rdD (L.take 262144) ((L.take 262144).length + 1) 0 []).1.take (rdD (L.take 262144) ((L.take 262144).length + 1) 0 []).2.1, (rdD (L.take 262144) ((L.take 262144).length + 1) 0 []).2.1, 20, 262144)) := by
      rw [rdA, if_neg (by omega)]
    rw [← hsj] at k3
    rcases k3 with ⟨h1, ⟨h2, h3, h4⟩, h5, h6⟩ | ⟨h1, h2, h3, h4, h5, h6⟩
    · rw [hq, if_pos h1]
      have hs := sj_on L 262144 (by rw [h2]; exact h5) L.length (by omega)
      exact ⟨k1, by rw [hs]; exact h4, by omega, by omega, .inl ⟨shw_take _ _ _ _ h1, by rw [hs]; exact h2, by rw [hs, h3]; exact plc_take L 262144 _ (by omega), h5, .inl h6⟩⟩
    · rw [hq, if_neg (by rw [h1]; simp)]
      have h' : sj L 262145 = (sj L 262144).fail 20 (sj L 262144).hp := by rw [sj_succ L 262144 (by omega) h2, Rs.take, if_pos (by rw [h4]; exact hN)]
      have hs := sj_on L 262145 (by rw [h']; simp [Rs.fail]) L.length (by omega)
      refine ⟨Nat.le_trans (Nat.le_min.2 ⟨Nat.le_refl _, k1⟩) (Nat.le_of_eq (List.length_take).symm), ?_, by simp only; omega, Nat.le_refl _, .inl ⟨by simp [shw], by rw [hs, h']; rfl, ?_, by simp, .inr rfl⟩⟩
      · rw [hs, h']
        show (sj L 262144).td = _
        rw [h3, List.take_take, Nat.min_self]
      · rw [hs, h']
        show (sj L 262144).hp = _
        rw [h5, hN]
        exact plc_take L 262144 _ (by omega)
  · have hq : rdA L = rdD L (L.length + 1) 0 [] := by rw [rdA, if_pos hl]
    obtain ⟨k1, k2, k3⟩ := key_read L hl
    have hall := rdD_all L (L.length + 1) 0 []
    rw [hq]
    rw [← sj_feed] at k3
    generalize rdD L (L.length + 1) 0 [] = q at *
    obtain ⟨R, n, c, f⟩ := q
    simp only at *
    rcases k3 with ⟨h1, ⟨h2, h3, h4⟩, h5, h6⟩ | ⟨h1, h2, h3, h4, h5, h6⟩
    · exact ⟨k1, h4, k2, by omega, .inl ⟨h1, h2, h3, h5, .inl h6⟩⟩
    · have hc : clP { sj L L.length with td := [] } = Rs.next { sj L L.length with td := [] } none := by unfold clP; rw [if_pos h2]
      obtain ⟨⟨n1, n2⟩, n3⟩ := next_td (sj L L.length)
      refine ⟨k1, h3, k2, by omega, .inr ⟨h1, h2, hl, ?_⟩⟩
      rw [hc, n1, n2]
      rw [h3] at n3
      rcases h6 with ⟨h6, h7, h8⟩ | ⟨h6, h6', h7, h8, h9⟩
      · refine ⟨by rw [h7, h6], fun h => absurd h6 h, by omega, ?_⟩
        have : R.take n ++ (Rs.next { sj L L.length with td := [] } none).td = R.take n ++ R.drop n := by rw [← n3, h8, List.take_append_drop]
        exact List.append_cancel_left this
      · refine ⟨h7, fun _ => h8, h6', ?_⟩
        have e : n = R.length := hall h6
        have : R.take n ++ (Rs.next { sj L L.length with td := [] } none).td = R.take n ++ [] := by rw [← n3, h9, List.append_nil]
        rw [List.append_cancel_left this, e, List.drop_length]
/-- one piece more: the state, and the rows that are told -/
theorem sj_piece (L l : List UInt8) : runL { sj L L.length with td := [] } l = { sj (L ++ l) (L ++ l).length with td := (runL { sj L L.length with td := [] } l).td } ∧ (sj (L ++ l) (L ++ l).length).td = (sj L L.length).td ++ (runL { sj L L.length with td := [] } l).td := by
  have h := piece (L ++ l) L.length (L ++ l).length (by simp) (Nat.le_refl _)
  have e1 : sj (L ++ l) L.length = sj L L.length := sj_pre _ _ _ (by simp)
  have e2 : ((L ++ l).take (L ++ l).length).drop L.length = l := by rw [List.take_length]; simp
  rw [e1, e2] at h
  exact h
theorem sj_nil : sj [] 0 = s0 := by unfold sj; simp [runL]
end Go.Proofs.YtpgpeafmlijfkaaGreatDoor

namespace Go.Proofs.YtpgpeafmlijfkaaGreatDoor
open Go.RowKit
set_option maxRecDepth 100000
set_option linter.unusedVariables false
set_option linter.unusedSimpArgs false
attribute [local go_sem ↓] fLd_op fSt_op

theorem Rw.keep {w w' : World} {v : Value} {T : List (List (List UInt8))} (h : Rw w v T) (hc : ∀ p t, w.cell? p = some t → (∀ x, t ≠ .int .i64 x) → w'.cell? p = some t) : Rw w' v T := by
  obtain ⟨ao, cap, h1, h2, h3, h4⟩ := h
  refine ⟨ao, cap, h1, h2, h3, fun i hi => ?_⟩
  obtain ⟨g, off, u, a1, a2, ⟨ao', cap', b1, b2, b3, b4⟩⟩ := h4 i hi
  refine ⟨g, off, u, a1, hc _ _ a2 (by rw [b1]; simp), ao', cap', b1, b2, b3, fun j hj => ?_⟩
  obtain ⟨g', off', d1, d2⟩ := b4 j hj
  exact ⟨g', off', d1, hc _ _ d2 (by simp)⟩
theorem DB.keep {w W : World} {d n c l k i n' c' l' k' i' : Nat} {s : ByteArray} {o : Bool} (h : DB w d s n c l k i o) (h' : DB W d s n' c' l' k' i' o) (hg : w.grownBy W (some d)) (p : Addr) (t : Value) (ht : w.cell? p = some t) (hne : ∀ x, t ≠ .int .i64 x) : W.cell? p = some t := by
  by_cases hb : p.block = d
  · obtain ⟨pb, po, pf⟩ := p
    simp only at hb
    subst hb
    have hh := h
    have hh' := h'
    unfold DB at hh hh'
    cases pf with
    | none =>
      rw [Lib.cell_of_heap hh] at ht
      rw [Lib.cell_of_heap hh']
      match po, ht with
      | 0, ht => exact ht
      | 1, ht => exact absurd (Option.some.inj ht).symm (hne _)
      | 2, ht => exact absurd (Option.some.inj ht).symm (hne _)
      | 3, ht => exact absurd (Option.some.inj ht).symm (hne _)
      | 4, ht => exact absurd (Option.some.inj ht).symm (hne _)
      | 5, ht => exact absurd (Option.some.inj ht).symm (hne _)
      | 6, ht => exact absurd (Option.some.inj ht).symm (hne _)
      | 7, ht => exact ht
      | n + 8, ht => simp at ht
    | some y => simp [World.cell?, hh] at ht
  · rw [← ht]
    have hl := World.block_lt_of_cell? _ _ ht
    have hk := hg.block p.block hl (fun e => hb (Option.some.inj e))
    simp only [World.cell?, hk]
theorem Lb.drew {d : Nat} {w w' : World} (h : Lb d w w') : Lb d w w'.drew := h
theorem Lb.step {d : Nat} {w w1 w2 : World} (h : Lb d w w1) (k : Below w1.heap.size w1 w2) : Lb d w w2 := h.trans (Lb.of_below d k)
theorem Lb.set {d : Nat} {w w' : World} (h : Lb d w w') (o : Nat) (u : Value) : Lb d w (w'.setCell ⟨d, o, none⟩ u) := h.trans (Lb.of_grown (set_grown w' d o u))
/-- a store into a block that is younger than w -/
theorem Lb.young {d b : Nat} {w w1 w2 : World} (h : Lb d w w1) (k : w1.grownBy w2 (some b)) (hb : w.heap.size ≤ b) : Lb d w w2 :=
  ⟨k.os.trans h.1, k.tape.trans h.2.1, k.output.trans h.2.2.1, Nat.le_trans h.2.2.2.1 k.size, fun g hg hne => (k.block g (Nat.lt_of_lt_of_le hg h.2.2.2.1) (fun e => by injection e with e; omega)).trans (h.2.2.2.2 g hg hne)⟩
theorem DB.grown {w w' : World} {d n c l k i b : Nat} {s : ByteArray} {o : Bool} (h : DB w d s n c l k i o) (hg : w.grownBy w' (some b)) (hb : b ≠ d) : DB w' d s n c l k i o := (hg.block d h.lt (fun e => hb (Option.some.inj e).symm)).trans h
theorem DB.drew {w : World} {d n c l k i : Nat} {s : ByteArray} {o : Bool} (h : DB w d s n c l k i o) : DB w.drew d s n c l k i o := h
/-- what Feed answers: rows, and the fault if it shows -/
def DfA (d : Nat) (w : World) (L : List UInt8) (n : Nat) (q : List (List (List UInt8)) × Nat × Nat × Nat) (e : Ending) (w' : World) : Prop :=
  ∃ v c l k i, e = .returned (.tuple #[v, fV c l k i]) ∧ Rw w' v ((q.1.take q.2.1).drop n) ∧ DB w' d ⟨L.toArray⟩ q.2.1 c l k i false ∧ Lb d w w' ∧ ((shw L q.2.2.1 q.2.2.2 = true ∧ fV c l k i = fQ L q.2.2.1 q.2.2.2) ∨ (shw L q.2.2.1 q.2.2.2 = false ∧ c = 0 ∧ l = 0 ∧ k = 0 ∧ i = 0))
theorem arr_back (X : ByteArray) : (⟨X.data.toList.toArray⟩ : ByteArray) = X := by cases X; simp
theorem rdA_3 (L : List UInt8) (h : (rdA L).2.2.1 = 3) : (rdA L).2.2.2 < L.length := by
  unfold rdA at h ⊢
  split at h
  · rename_i hl
    rw [if_pos hl]
    exact rd_3 L (L.length + 1) 0 [] (Nat.zero_le _) (by omega) h
  · rename_i hl
    rw [if_neg hl]
    have h3 := rd_3 (L.take 262144) ((L.take 262144).length + 1) 0 [] (Nat.zero_le _) (by omega)
    have hN : (L.take 262144).length = 262144 := by simp; omega
    simp only [] at h ⊢
    split at h
    · rename_i hs
      rw [if_pos hs]
      have := h3 h
      omega
    · exact absurd h (by simp)
set_option maxHeartbeats 8000000 in
theorem dfeed_go (p : Value) (d n : Nat) (s : ByteArray) (l : List UInt8) (w : World) (h : DB w d s n 0 0 0 0 false) (hp : Reads w p l) (hs : s.size + l.length ≤ 140737500000000)
    (hn : n ≤ (rdA (s.data.toList ++ l)).2.1) :
    Calls Tryz.prog 14 #[.pointer (some ⟨d, 0, none⟩), p] w fun e w' => DfA d w (s.data.toList ++ l) n (rdA (s.data.toList ++ l)) e w' := by
  obtain ⟨T, hT⟩ : ∃ T : ByteArray, T = ⟨l.toArray⟩ := ⟨_, rfl⟩
  have hTs : T.size = l.length := by rw [hT]; simp [ByteArray.size]
  obtain ⟨X, hX⟩ : ∃ X : ByteArray, s ++ T = X := ⟨_, rfl⟩
  have hXl : X.data.toList = s.data.toList ++ l := by rw [← hX, hT]; simp [ByteArray.data_append]
  have hXs : X.size = s.size + T.size := by rw [← hX, ByteArray.size_append]
  have hXd : X.data.toList.length = X.size := by rw [Array.length_toList]; rfl
  have hJ := rdj_any X.data.toList
  have h3 := rdA_3 X.data.toList
  have hXb : (⟨(s.data.toList ++ l).toArray⟩ : ByteArray) = X := by rw [← hXl]; first | done | exact arr_back X
  unfold DfA
  rw [hXb]
  rw [← hXl] at hn ⊢
  have HRd0 := hid (fun w => dRead_any X w (by omega))
  have HSh0 := hid (fun c l k f w h1 h2 => dshows_any X c l k f w h1 h2)
  obtain ⟨P, hP⟩ : ∃ P : Ending → World → Prop, P = fun e w' => ∃ v c l k i, e = .returned (.tuple #[v, fV c l k i]) ∧ Rw w' v (((rdA X.data.toList).1.take (rdA X.data.toList).2.1).drop n) ∧ DB w' d X (rdA X.data.toList).2.1 c l k i false ∧ Lb d w w' ∧ ((shw X.data.toList (rdA X.data.toList).2.2.1 (rdA X.data.toList).2.2.2 = true ∧ fV c l k i = fQ X.data.toList (rdA X.data.toList).2.2.1 (rdA X.data.toList).2.2.2) ∨ (shw X.data.toList (rdA X.data.toList).2.2.1 (rdA X.data.toList).2.2.2 = false ∧ c = 0 ∧ l = 0 ∧ k = 0 ∧ i = 0)) := ⟨_, rfl⟩
  rw [← hP]
  have HP := hid hP
  clear hP
  generalize rdA X.data.toList = q at *
  obtain ⟨R, m, c, f⟩ := q
  simp only [] at hn hJ HP h3
  have hmR := hJ.nl
  have hshw : shw X.data.toList c (fP X.data.toList c f).2.2 = shw X.data.toList c f := by
    by_cases h0 : c = 0
    · subst h0; simp [shw]
    · unfold fP; rw [if_neg h0]
  have hfP3 : c = 3 → (fP X.data.toList c f).2.2 < X.size := fun h => by unfold fP; rw [if_neg (by omega)]; have := h3 h; simp only []; omega
  have hfPl : (fP X.data.toList c f).2.2 ≤ 262144 := by have := hJ.f2; unfold fP; split <;> simp only [] <;> omega
  have hfq := fQ_is X.data.toList c f
  have HRd := hid (fun w => (HRd0.out w).mono (R' := fun e w' => ∃ v, e = .returned (.tuple #[v, .int .i64 (m : Int), fV c (fP X.data.toList c f).1 (fP X.data.toList c f).2.1 (fP X.data.toList c f).2.2]) ∧ Rw w' v R ∧ Below w.heap.size w w') (by
    rintro e w' ⟨v, rfl, h1, h2⟩
    exact ⟨v, by simp only []; rw [hfq], h1, h2⟩))
  have HSh := hid (fun w => HSh0.out c (fP X.data.toList c f).1 (fP X.data.toList c f).2.1 (fP X.data.toList c f).2.2 w hfP3 hfPl)
  rw [hshw] at HSh
  rw [hfq] at HP
  generalize fP X.data.toList c f = y at *
  obtain ⟨y1, y2, y3⟩ := y
  simp only [] at HRd HSh HP hfq
  obtain ⟨sh, hsh⟩ : ∃ sh, sh = shw X.data.toList c f := ⟨_, rfl⟩
  rw [← hsh] at HSh HP
  clear HRd0 HSh0 hfP3 hfPl hfq hshw hsh h3 hJ hXl hXd hXb
  obtain ⟨fv, hfv⟩ : ∃ fv, fv = fV c y1 y2 y3 := ⟨_, rfl⟩
  rw [← hfv] at HRd HSh
  have HFv := hid hfv
  clear hfv
  -- the worlds
  obtain ⟨w0, hw0⟩ : ∃ w0, w.alloc (.cells #[.int .i64 0, .int .i64 0, .int .i64 0, .int .i64 0, .int .i64 0] 46) = w0 := ⟨_, rfl⟩
  have hb0 : Below w.heap.size w w0 := by rw [← hw0]; exact (Below.refl _ w).alloc (Nat.le_refl _) _
  have hd := h.lt
  have h0 := h.later hb0
  have f0 : FW w0 w.heap.size 0 0 0 0 := by rw [← hw0]; exact FW.new w
  have t1 := run_text (P := Tryz.prog) 37 9 Tryz.underlying37 Tryz.underlying5 Tryz.underlying9 ((hp.below hb0).drew)
  rw [← hT] at t1
  obtain ⟨w1, hw1⟩ : ∃ w1, w0.drew.setCell ⟨d, 0, none⟩ (.string X) = w1 := ⟨_, rfl⟩
  have h1 : DB w1 d X n 0 0 0 0 false := by rw [← hw1]; exact h0.drew.set0 X
  have g1 : w0.drew.grownBy w1 (some d) := by rw [← hw1]; exact set_grown _ d 0 _
  have f1 : FW w1 w.heap.size 0 0 0 0 := f0.drew.grown g1 (fun e => by injection e with e; omega)
  have l1 : Lb d w w1 := (Lb.of_below d hb0).drew.trans (Lb.of_grown g1)
  have c7 := h0.c7
  have c2 := h0.c2
  have c0 := h0.drew.c0
  have r0 := h0.drew.fr 0
  have k0 := h1.c0
  have hN : ¬ 9223372036854775807 < s.size + T.size := by omega
  have HK := hid (And.intro h1 (And.intro f1 l1))
  have HX := hid hX
  have HW1 := hid hw1
  clear h hp hs hTs hXs hT h0 f0 g1 h1 f1 l1 hb0
  go_enter Tryz.func14, Tryz.ntmps14
  go_wp2_with fail
  go_region
  all_goals
    go_wp2_with fail
    refine Calls.mono (HRd.out _) ?_
    rintro e w2 ⟨v, rfl, hrw, hb2⟩
    obtain ⟨va, vc, rfl⟩ := hrw.form
    have h2 := HK.out.1.later hb2
    have f2 := HK.out.2.1.big hb2
    have l2 := HK.out.2.2.step hb2
    obtain ⟨w3, ES1, t3, hb3, hz3⟩ := run_fStN w2 c y1 y2 y3
    rw [← HFv.out] at ES1
    have EL3 := run_fLd t3
    rw [← HFv.out] at EL3
    have h3 := h2.later hb3
    have f3 := f2.big hb3
    have l3 := l2.step hb3
    have r3 := sliced_rw (hrw.below hb3) hn hmR
    have kSl := run_mid hrw hn hmR
    obtain ⟨sv, hsv⟩ : ∃ sv, sv = sliced va n m vc 1 := ⟨_, rfl⟩
    rw [← hsv] at kSl r3
    have c13 := h3.c1
    have r13 := h3.fr 1
    have hd2 : d < w2.heap.size := h2.lt
    have hb02 := f2.lt
    obtain ⟨w4, hw4⟩ : ∃ w4, w3.setCell ⟨d, 1, none⟩ (.int .i64 (m : Int)) = w4 := ⟨_, rfl⟩
    have g4 : w3.grownBy w4 (some d) := by rw [← hw4]; exact set_grown _ d 1 _
    have h4 : DB w4 d X m 0 0 0 0 false := by rw [← hw4]; exact h3.set1 m
    have f4 := f3.grown g4 (fun e => by injection e with e; omega)
    have t4 := t3.grown g4 (fun e => by injection e with e; omega)
    have r4 := r3.keep (h3.keep h4 g4)
    have l4 := l3.trans (Lb.of_grown g4)
    have c04 := h4.drew.c0
    have EL4 := run_fLd t4.drew
    rw [← HFv.out] at EL4
    have HS := hid (HSh.out w4.drew)
    have Hw4 := hid hw4
    have H4 := hid (And.intro h4 (And.intro f4 (And.intro t4 (And.intro r4 l4))))
    clear h2 f2 l2 t3 hb3 hz3 h3 f3 l3 r3 g4 h4 f4 t4 r4 l4 hrw hb2 hd2 hb02 hsv
    clear c7 c2 c0 r0 k0 hw0 hw1 t1
    cases sh with
    | false =>
      go_wp2_with fail
      go_region_with (go_at_call 36; refine Calls.mono HS.out ?_; rintro e w5 ⟨rfl, hb5⟩; have HB5 := hid hb5; clear hb5)
      all_goals
        obtain ⟨q4, qf4, qt4, qr4, ql4⟩ := H4.out
        have h5 := q4.drew.later HB5.out
        have f5 := qf4.drew.big HB5.out
        have r5 := qr4.drew.below HB5.out
        have l5 := ql4.drew.step HB5.out
        have EL6 := run_fLd2 (w := w5.drew) h5.drew
        obtain ⟨w7, ES7, f7, g7⟩ := run_fSt (w := w5.drew) f5.drew 0 0 0 0
        have EL7 := run_fLd f7
        have HRes := hid (And.intro (Rw.grown (w := w5.drew) r5.drew g7 f5.drew) (And.intro (h5.drew.grown g7 (by omega)) (l5.drew.young g7 (Nat.le_refl _))))
        obtain ⟨zv, hzv⟩ : ∃ zv, zv = fV 0 0 0 0 := ⟨_, rfl⟩
        rw [← hzv] at EL6 ES7 EL7
        have HZ := hid hzv
        clear q4 qf4 qt4 qr4 ql4 h5 f5 r5 l5 f7 g7 hzv
        go_wp2_with fail
        go_region
        all_goals
          go_wp2
          refine bodyPost_ret (by simp [results, Tryz.results14, asAddr, ↓fLd_op, EL7]; try rfl) rfl ?_
          rw [HP.out]
          exact ⟨_, 0, 0, 0, 0, by rw [HZ.out], HRes.out.1, HRes.out.2.1, HRes.out.2.2, .inr ⟨by first | rfl | trivial, rfl, rfl, rfl, rfl⟩⟩
    | true =>
      go_wp2_with fail
      go_region_with (go_at_call 36; refine Calls.mono HS.out ?_; rintro e w5 ⟨rfl, hb5⟩; have HB5 := hid hb5; clear hb5)
      all_goals
        obtain ⟨q4, qf4, qt4, qr4, ql4⟩ := H4.out
        have h5 := q4.drew.later HB5.out
        have f5 := qf4.drew.big HB5.out
        have t5 := qt4.drew.big HB5.out
        have r5 := qr4.drew.below HB5.out
        have l5 := ql4.drew.step HB5.out
        have EL5 := run_fLd t5
        obtain ⟨w6, ES6, h6, g6⟩ := run_fSt2 h5 c y1 y2 y3
        have f6 := f5.grown g6 (fun e => by injection e with e; omega)
        have r6 := r5.keep (h5.keep h6 g6)
        have l6 := l5.trans (Lb.of_grown g6)
        have EL6 := run_fLd2 (w := w6.drew) h6.drew
        obtain ⟨w7, ES7, f7, g7⟩ := run_fSt (w := w6.drew) f6.drew c y1 y2 y3
        have EL7 := run_fLd f7
        have HRes := hid (And.intro (Rw.grown (w := w6.drew) r6.drew g7 f6.drew) (And.intro (h6.drew.grown g7 (by omega)) (l6.drew.young g7 (Nat.le_refl _))))
        rw [← HFv.out] at EL5 ES6 EL6 ES7 EL7
        clear q4 qf4 qt4 qr4 ql4 h5 f5 t5 r5 l5 h6 g6 f6 r6 l6 f7 g7
        go_wp2_with fail
        go_region
        all_goals
          go_wp2
          refine bodyPost_ret (by simp [results, Tryz.results14, asAddr, ↓fLd_op, EL7]; try rfl) rfl ?_
          rw [HP.out]
          exact ⟨_, c, y1, y2, y3, by rw [HFv.out], HRes.out.1, HRes.out.2.1, HRes.out.2.2, .inl ⟨by first | rfl | trivial, rfl⟩⟩
end Go.Proofs.YtpgpeafmlijfkaaGreatDoor

namespace Go.Proofs.YtpgpeafmlijfkaaGreatDoor
open Go.RowKit
set_option maxRecDepth 100000
set_option linter.unusedVariables false
set_option linter.unusedSimpArgs false
attribute [local go_sem ↓] fLd_op fSt_op

/-- what Close answers of a Reader that has a fault -/
def DcB (d : Nat) (w : World) (s : ByteArray) (n c l k i : Nat) (e : Ending) (w' : World) : Prop := e = .returned (.tuple #[.slice none 0 0, fV c l k i]) ∧ DB w' d s n c l k i true ∧ Lb d w w'
set_option maxHeartbeats 4000000 in
theorem dclose_bad (d n c l k i : Nat) (s : ByteArray) (w : World) (h : DB w d s n c l k i false) (hc : c ≠ 0) : Calls Tryz.prog 8 #[.pointer (some ⟨d, 0, none⟩)] w fun e w' => DcB d w s n c l k i e w' := by
  obtain ⟨w0, hw0⟩ : ∃ w0, w.alloc (.cells #[.int .i64 0, .int .i64 0, .int .i64 0, .int .i64 0, .int .i64 0] 46) = w0 := ⟨_, rfl⟩
  have hb0 : Below w.heap.size w w0 := hw0 ▸ (Below.refl _ w).alloc (Nat.le_refl _) _
  have hd := h.lt
  have h0 := h.later hb0
  have f0 : FW w0 w.heap.size 0 0 0 0 := hw0 ▸ FW.new w
  obtain ⟨w1, hw1⟩ : ∃ w1, w0.setCell ⟨d, 7, none⟩ (.bool true) = w1 := ⟨_, rfl⟩
  have h1 : DB w1 d s n c l k i true := by rw [← hw1]; exact h0.set7 true
  have g1 : w0.grownBy w1 (some d) := by rw [← hw1]; exact set_grown _ d 7 _
  have f1 : FW w1 w.heap.size 0 0 0 0 := f0.grown g1 (fun e => by injection e with e; omega)
  have l1 : Lb d w w1 := (Lb.of_below d hb0).trans (Lb.of_grown g1)
  have c7 := h0.c7
  have r7 := h0.fr 7
  have c2 := h1.c2
  have el := run_fLd2 (w := w1.drew) h1.drew
  obtain ⟨w2, es, f2, g2⟩ := run_fSt (w := w1.drew) f1.drew c l k i
  have el2 := run_fLd f2
  have HRes := hid (And.intro (h1.drew.grown g2 (by omega)) (l1.drew.young g2 (Nat.le_refl _)))
  have hcn : ((c : Int) != 0) = true := by simp; omega
  have hcp : ¬ (c : Int) = 0 := by omega
  obtain ⟨fv, hfv⟩ : ∃ fv, fv = fV c l k i := ⟨_, rfl⟩
  unfold DcB
  rw [← hfv] at el es el2 ⊢
  clear h hc hb0 h0 f0 g1 h1 f1 l1 f2 g2 hfv
  go_enter Tryz.func8, Tryz.ntmps8
  go_wp2_with fail
  go_region
  all_goals
    go_wp2
    refine bodyPost_ret (by simp [results, Tryz.results8, asAddr, ↓fLd_op, el2]; try rfl) rfl ?_
    exact ⟨rfl, HRes.out⟩
/-- what Close answers of all that came -/
def DcA (d : Nat) (w : World) (s : ByteArray) (n : Nat) (q : List (List (List UInt8)) × Nat × Nat × Nat) (e : Ending) (w' : World) : Prop :=
  ∃ v, e = .returned (.tuple #[v, fQ s.data.toList q.2.2.1 q.2.2.2]) ∧ Rw w' v (q.1.drop n) ∧ DB w' d s n 0 0 0 0 true ∧ Lb d w w'
theorem sliced_rest {w : World} {ao : Option Addr} {m cap a : Nat} {T : List (List (List UInt8))} (h : Rw w (.slice ao m cap) T) (ha : a ≤ T.length) : Rw w (sliced ao a T.length cap 1) (T.drop a) := by
  have := sliced_rw h ha (Nat.le_refl _)
  rwa [List.take_length] at this
set_option maxHeartbeats 8000000 in
theorem dclose_go (d n : Nat) (s : ByteArray) (w : World) (h : DB w d s n 0 0 0 0 false) (hs : s.size ≤ 140737500000000) (hn : n ≤ (rdA s.data.toList).1.length) :
    Calls Tryz.prog 8 #[.pointer (some ⟨d, 0, none⟩)] w fun e w' => DcA d w s n (rdA s.data.toList) e w' := by
  have HRd0 := hid (fun w => dRead_any s w hs)
  unfold DcA
  obtain ⟨P, hP⟩ : ∃ P : Ending → World → Prop, P = fun e w' => ∃ v, e = .returned (.tuple #[v, fQ s.data.toList (rdA s.data.toList).2.2.1 (rdA s.data.toList).2.2.2]) ∧ Rw w' v ((rdA s.data.toList).1.drop n) ∧ DB w' d s n 0 0 0 0 true ∧ Lb d w w' := ⟨_, rfl⟩
  rw [← hP]
  have HP := hid hP
  clear hP
  generalize rdA s.data.toList = q at *
  obtain ⟨R, m, c, f⟩ := q
  simp only [] at hn HP
  have hfq := fQ_is s.data.toList c f
  have HRd := hid (fun w => (HRd0.out w).mono (R' := fun e w' => ∃ v, e = .returned (.tuple #[v, .int .i64 (m : Int), fV c (fP s.data.toList c f).1 (fP s.data.toList c f).2.1 (fP s.data.toList c f).2.2]) ∧ Rw w' v R ∧ Below w.heap.size w w') (by
    rintro e w' ⟨v, rfl, h1, h2⟩
    exact ⟨v, by simp only []; rw [hfq], h1, h2⟩))
  rw [hfq] at HP
  generalize fP s.data.toList c f = y at *
  obtain ⟨y1, y2, y3⟩ := y
  simp only [] at HRd HP hfq
  clear HRd0 hfq
  obtain ⟨fv, hfv⟩ : ∃ fv, fv = fV c y1 y2 y3 := ⟨_, rfl⟩
  rw [← hfv] at HRd HP
  have HFv := hid hfv
  clear hfv
  obtain ⟨w0, hw0⟩ : ∃ w0, w.alloc (.cells #[.int .i64 0, .int .i64 0, .int .i64 0, .int .i64 0, .int .i64 0] 46) = w0 := ⟨_, rfl⟩
  have hb0 : Below w.heap.size w w0 := by rw [← hw0]; exact (Below.refl _ w).alloc (Nat.le_refl _) _
  have hd := h.lt
  have h0 := h.later hb0
  have f0 : FW w0 w.heap.size 0 0 0 0 := by rw [← hw0]; exact FW.new w
  obtain ⟨w1, hw1⟩ : ∃ w1, w0.setCell ⟨d, 7, none⟩ (.bool true) = w1 := ⟨_, rfl⟩
  have h1 : DB w1 d s n 0 0 0 0 true := by rw [← hw1]; exact h0.set7 true
  have g1 : w0.grownBy w1 (some d) := by rw [← hw1]; exact set_grown _ d 7 _
  have f1 : FW w1 w.heap.size 0 0 0 0 := f0.grown g1 (fun e => by injection e with e; omega)
  have l1 : Lb d w w1 := (Lb.of_below d hb0).trans (Lb.of_grown g1)
  have c7 := h0.c7
  have r7 := h0.fr 7
  have c2 := h1.c2
  have c0 := h1.c0
  have HK := hid (And.intro h1 (And.intro f1 l1))
  clear h h0 f0 g1 h1 f1 l1 hb0 hs
  go_enter Tryz.func8, Tryz.ntmps8
  go_wp2_with fail
  refine Calls.mono (HRd.out _) ?_
  rintro e w2 ⟨v, rfl, hrw, hb2⟩
  obtain ⟨va, vc, rfl⟩ := hrw.form
  have h2 := HK.out.1.later hb2
  have f2 := HK.out.2.1.big hb2
  have l2 := HK.out.2.2.step hb2
  obtain ⟨w3, ES1, t3, hb3, hz3⟩ := run_fStN w2 c y1 y2 y3
  rw [← HFv.out] at ES1
  have EL3 := run_fLd (w := w3.drew) t3.drew
  rw [← HFv.out] at EL3
  have h3 := h2.later hb3
  have f3 := f2.big hb3
  have l3 := l2.step hb3
  have r3 := sliced_rest (hrw.below hb3) hn
  have kSl := run_from2 hrw hn
  obtain ⟨sv, hsv⟩ : ∃ sv, sv = sliced va n R.length vc 1 := ⟨_, rfl⟩
  rw [← hsv] at kSl r3
  have c13 := h3.drew.c1
  have hb02 := f2.lt
  have hd2 := h2.lt
  obtain ⟨w7, ES7, f7, g7⟩ := run_fSt (w := w3.drew) f3.drew c y1 y2 y3
  rw [← HFv.out] at ES7
  have EL7 := run_fLd f7
  rw [← HFv.out] at EL7
  have HRes := hid (And.intro (Rw.grown (w := w3.drew) r3.drew g7 f3.drew) (And.intro (h3.drew.grown g7 (by omega)) (l3.drew.young g7 (Nat.le_refl _))))
  clear h2 f2 l2 t3 hb3 hz3 h3 f3 l3 r3 hsv hb02 hd2 f7 g7 hrw hb2
  go_wp2_with fail
  go_region
  all_goals
    go_wp2
    refine bodyPost_ret (by simp [results, Tryz.results8, asAddr, ↓fLd_op, EL7]; try rfl) rfl ?_
    rw [HP.out]
    exact ⟨_, rfl, HRes.out⟩
end Go.Proofs.YtpgpeafmlijfkaaGreatDoor

namespace Go.Proofs.YtpgpeafmlijfkaaGreatDoor
set_option maxRecDepth 100000
set_option linter.unusedVariables false
set_option linter.unusedSimpArgs false

/-- so wide may a row be -/
def Wd (cs : List (List UInt8)) : Prop := cs.length ≤ 64 ∧ ∀ T ∈ cs, T.length ≤ 4096
theorem rdD_wide (L : List UInt8) : ∀ (n i : Nat) (acc : List (List (List UInt8))), i ≤ L.length → L.length - i < n → (∀ cs ∈ acc, Wd cs) → acc.length ≤ 4096 → (∀ cs ∈ (rdD L n i acc).1, Wd cs) ∧ (rdD L n i acc).1.length ≤ 4097 := by
  intro n
  induction n with
  | zero => intro i acc hi hn; omega
  | succ n ih =>
    intro i acc hi hn ha hl
    have one : ∀ cs, Wd cs → ∀ u ∈ acc ++ [cs], Wd u := fun cs hc u hu => by
      rcases List.mem_append.1 hu with hu | hu
      · exact ha u hu
      · rw [List.mem_singleton.1 hu]; exact hc
    rw [rdD]
    simp only []
    split
    · rename_i h1
      split
      · exact ⟨ha, by simp only []; omega⟩
      · rename_i h2
        split
        · exact ⟨ha, by simp only []; omega⟩
        · rename_i h3
          have hf := rowD_form L (L.length + 1) i [] hi (by omega) (by simp) (by simp) (Decidable.not_not.1 h3)
          have hw : Wd (rowD L (L.length + 1) i []).1 := ⟨hf.2.1, fun T hT => (hf.2.2.1 T hT).1⟩
          split
          · exact ⟨ha, by simp only []; omega⟩
          · split
            · exact ⟨ha, by simp only []; omega⟩
            · split
              · exact ⟨one _ hw, by simp; omega⟩
              · rename_i h4 h5 h6
                have := hf.2.2.2.1
                have := hf.2.2.2.2.1
                have h7 : (rowD L (L.length + 1) i []).2.1 + 2 ≤ L.length := by
                  have hlt : (rowD L (L.length + 1) i []).2.1 < L.length := by omega
                  have h8 : ¬ ((rowD L (L.length + 1) i []).2.1 + 1 = L.length ∨ ch L ((rowD L (L.length + 1) i []).2.1 + 1) ≠ 10) := fun h9 => h4 ⟨hlt, h9⟩
                  have := (not_or.1 h8).1
                  omega
                exact ih _ _ h7 (by omega) (one _ hw) (by simp; omega)
    · exact ⟨ha, by simp only []; omega⟩
theorem rdA_wide (L : List UInt8) : (∀ cs ∈ (rdA L).1, Wd cs) ∧ (rdA L).1.length ≤ 4097 := by
  unfold rdA
  split
  · exact rdD_wide L (L.length + 1) 0 [] (Nat.zero_le _) (by omega) (by simp) (by simp)
  · have h := rdD_wide (L.take 262144) ((L.take 262144).length + 1) 0 [] (Nat.zero_le _) (by omega) (by simp) (by simp)
    simp only []
    split
    · exact h
    · refine ⟨fun cs hcs => h.1 cs (List.mem_of_mem_take hcs), ?_⟩
      exact Nat.le_trans (by show (List.take _ _).length ≤ _; rw [List.length_take]; exact Nat.min_le_right _ _) h.2
theorem tlT_bound (T : List ByteArray) : ∀ s : ByteArray, (∀ t ∈ T, t.size ≤ 4096) → (tlT s T).size ≤ s.size + 4106 * T.length := by
  induction T with
  | nil => intro s _; exact Nat.le_refl _
  | cons t T ih =>
    intro s h
    have h1 := ih (tl1 s t) (fun u hu => h u (List.mem_cons_of_mem _ hu))
    have h2 := h t List.mem_cons_self
    have h3 := tl1_size s t
    have h4 := grp_le t.size (by omega)
    show (tlT (tl1 s t) T).size ≤ _
    simp only [List.length_cons]
    omega
theorem tld_bound (R : List (List ByteArray)) : ∀ s : ByteArray, (∀ cs ∈ R, cs.length ≤ 64 ∧ ∀ t ∈ cs, t.size ≤ 4096) → (R.foldl tlR s).size ≤ s.size + 262786 * R.length := by
  induction R with
  | nil => intro s _; exact Nat.le_refl _
  | cons c R ih =>
    intro s h
    have h1 := ih (tlR s c) (fun u hu => h u (List.mem_cons_of_mem _ hu))
    have h2 := h c List.mem_cons_self
    have h3 := tlT_bound c s h2.2
    have h4 : (tlR s c).size = (tlT s c).size + 2 := by unfold tlR; rw [ByteArray.size_append]; rfl
    show (List.foldl tlR (tlR s c) R).size ≤ _
    simp only [List.length_cons]
    have := h2.1
    omega
/-- rows as byte arrays -/
def tbb (T : List (List (List UInt8))) : List (List ByteArray) := T.map fun cs => cs.map fun l => ⟨l.toArray⟩
theorem tbb_bounds (T : List (List (List UInt8))) (h : ∀ cs ∈ T, Wd cs) (hl : T.length ≤ 4097) : (tbb T).length ≤ 1000000000000 ∧ (∀ i (hi : i < (tbb T).length), (tbb T)[i].length ≤ 1000000000000) ∧ (tld (tbb T)).size ≤ 4611686018427387904 := by
  have hb : ∀ cs ∈ tbb T, cs.length ≤ 64 ∧ ∀ t ∈ cs, t.size ≤ 4096 := fun cs hcs => by
    obtain ⟨u, hu, rfl⟩ := List.mem_map.1 hcs
    refine ⟨by rw [List.length_map]; exact (h u hu).1, fun t ht => ?_⟩
    obtain ⟨x, hx, rfl⟩ := List.mem_map.1 ht
    have := (h u hu).2 x hx
    simpa [ByteArray.size] using this
  have hlen : (tbb T).length = T.length := by simp [tbb]
  refine ⟨by omega, fun i hi => ?_, ?_⟩
  · have := (hb _ (List.getElem_mem hi)).1
    omega
  · have := tld_bound (tbb T) ⟨#[]⟩ hb
    have e : (⟨#[]⟩ : ByteArray).size = 0 := rfl
    unfold tld
    omega
end Go.Proofs.YtpgpeafmlijfkaaGreatDoor
