/-
  'larderref01.twice': a way gone twice.
-/
import Derived.Test.YtbmnkedbpomnkaaWays
import Derived.Deep.RegionWith
import Derived.Deep.DrawnRows
namespace Go.Proofs.Ytbmnkedbpomnkaa
open Go.RowKit

/-- the first k entries of a way gone twice -/
def outL (f : List Nat) (k : Nat) : List Nat := (List.range 32).map fun i => if i < k then goTo f (f.getD i 0) 32 else 0

theorem outL_length (f : List Nat) (k : Nat) : (outL f k).length = 32 := by simp [outL]

theorem outL_next (f : List Nat) (k : Nat) : outL f (k + 1) = (outL f k).set k (goTo f (f.getD k 0) 32) := by
  unfold outL
  apply List.ext_getElem
  · simp
  · intro i h1 h2
    simp only [List.getElem_map, List.getElem_range, List.getElem_set]
    by_cases e : k = i
    · subst e; simp
    · rw [if_neg e]
      by_cases hl : i < k
      · rw [if_pos hl, if_pos (by omega)]
      · rw [if_neg hl, if_neg (by omega)]

theorem rowC_set (f : List Nat) (k x : Nat) : rowC (f.set k x) = (rowC f).setIfInBounds k (.int .u32 (x : Int)) := by
  apply Array.ext'
  simp [rowC, List.map_set]

def zeroC : Array Value := rowC (List.replicate 32 0)

theorem outL_zero (f : List Nat) : rowC (outL f 0) = zeroC := by
  unfold zeroC
  congr 1

/-- memory behind k rounds -/
structure Tw (w : World) (f : List Nat) (k : Nat) (wr : World) : Prop where
  a : wr.heap[w.heap.size]? = some (.cells (rowC f) 32 (0, 0))
  z : wr.heap[w.heap.size + 1]? = some (.cells zeroC 32 (0, 0))
  o : wr.heap[w.heap.size + 1 + 1]? = some (.cells (rowC (outL f k)) 32 (0, 0))
  b : Below w.heap.size w wr

theorem Tw.lt {w : World} {f : List Nat} {k : Nat} {wr : World} (h : Tw w f k wr) : w.heap.size + 1 + 1 < wr.heap.size := (Array.getElem?_eq_some_iff.1 h.o).1

theorem Tw.next {w : World} {f : List Nat} {k : Nat} {wr : World} (h : Tw w f k wr) (ob : Obj) : Tw w f (k + 1) ((wr.setCell ⟨w.heap.size + 1 + 1, k, none⟩ (.int .u32 (goTo f (f.getD k 0) 32 : Nat))).alloc ob) := by
  have hl := h.lt
  have hs : (wr.setCell ⟨w.heap.size + 1 + 1, k, none⟩ (.int .u32 (goTo f (f.getD k 0) 32 : Nat))).heap.size = wr.heap.size := by simp [World.setCell]
  refine ⟨?_, ?_, ?_, ?_⟩
  · rw [Below.heap_alloc _ _ _ (by omega), heap_setCell_other _ _ _ _ (by simp; omega)]
    exact h.a
  · rw [Below.heap_alloc _ _ _ (by omega), heap_setCell_other _ _ _ _ (by simp)]
    exact h.z
  · rw [Below.heap_alloc _ _ _ (by omega), heap_setCell_same _ _ _ _ _ _ h.o, outL_next, rowC_set]
  · exact (h.b.setCell (by simp; omega) _).alloc (by omega) ob

/-- a way lies there -/
def IsWay (w : World) (g : Nat) : Prop := ∃ c : Array Value, w.heap[g]? = some (.cells c 32 (0, 0)) ∧ c.size = 32
/-- the cells of a block -/
def wayRow (w : World) (g : Nat) : Array Value := match w.heap[g]? with | some (.cells c _ _) => c | _ => #[]

theorem heap_new_at (w : World) (o : Obj) (g : Nat) (h : g = w.heap.size) : (w.alloc o).heap[g]? = some o := by
  subst h
  exact heap_alloc_new w o

theorem Tw.drew {w : World} {f : List Nat} {k : Nat} {wr : World} (h : Tw w f k wr) : Tw w f k wr.drew := ⟨h.a, h.z, h.o, h.b.drew⟩

theorem below_setCells {B : Nat} {a w : World} (h : Below B a w) {g : Nat} (hg : B ≤ g) : ∀ (o : Nat) (vs : List Value), Below B a (w.setCells g o vs) := by
  intro o vs
  induction vs generalizing o w with
  | nil => exact h
  | cons v r ih => exact ih (h.setCell hg v) _

theorem wayInfo : (Try.prog.info? 32).map (·.size) = some 32 := by kernel_rfl

theorem run_way (w : World) (g : Nat) (h : IsWay w g) : (Instr.loadAt 32 (.pointer (some ⟨g, 0, none⟩))).run Try.prog w = .ok (.agg (wayRow w g)) w := by
  obtain ⟨c, hc, hs⟩ := h
  have e : wayRow w g = c := by unfold wayRow; rw [hc]
  rw [e]
  simp only [Instr.loadAt, Instr.sureAddr, Sem.run_bind, Sem.run_pure, Result.andThen_ok]
  exact run_loadVar_row w g _ 32 c _ _ hc Try.underlying32 rfl (by rw [wayInfo, hs])

/-- a pointer to a way -/
def WayPtr (w : World) (v : Value) : Prop := ∃ g, v = .pointer (some ⟨g, 0, none⟩) ∧ IsWay w g
/-- what a pointer to a way leads to -/
def wayOf (w : World) : Value → Value
  | .pointer (some a) => .agg (wayRow w a.block)
  | v => v

theorem exec_way (a : Act) (dst : Option Tmp) (x : Operand) (ty : TypeId) (pos : String) (after : Array Edge) (guard : Option (Nat × Bool)) (w : World) (h : WayPtr w (a.eval x)) :
    (execOp a.eval { dst, op := .load 32 x, type := ty, pos, after, guard }).run Try.prog w = .ok (.value (wayOf w (a.eval x))) w := by
  obtain ⟨g, hg, hw⟩ := h
  unfold execOp
  simp only [hg, run_way w g hw, Sem.run_bind, Sem.run_pure, Result.andThen_ok]
  rfl

attribute [local go_sem ↓] Go.wp_at_zero Go.wp_at_succ exec_way

set_option maxRecDepth 100000 in
set_option maxHeartbeats 2000000 in
theorem twice_any (f : List Nat) (w : World) (hf : f.length = 32) (hb : ∀ i, f.getD i 0 < 4294967296) :
    Calls Try.prog 11 #[.agg (rowC f)] w fun e w' => e = .returned (.agg (rowC (outL f 32))) ∧ Below w.heap.size w w' := by
  have HB : Hid (_) := hb
  have HF : Hid (_) := hf
  clear hb hf
  go_enter Try.func11, Try.ntmps11
  go_wp2
  go_loopw [4] (fun i wr => ∃ k : Nat, k ≤ 32 ∧ i = .int .i64 k ∧ Tw w f k wr) (fun i _ => 32 - (intOf i).toNat)
  case atStart =>
    refine ⟨0, by omega, rfl, ?_, ?_, ?_, ?_⟩
    · rw [Below.heap_alloc _ _ _ (by simp; omega), Below.heap_alloc _ _ _ (by simp)]
      exact heap_alloc_new _ _
    · rw [Below.heap_alloc _ _ _ (by simp)]
      exact heap_new_at (w.alloc (.cells (rowC f) 32)) (.cells zeroC 32) _ (by simp)
    · rw [outL_zero]
      exact heap_new_at ((w.alloc (.cells (rowC f) 32)).alloc (.cells zeroC 32)) (.cells zeroC 32) _ (by simp)
    · exact (((Below.refl _ _).alloc (Nat.le_refl _) _).alloc (by simp) _).alloc (by simp; omega) _
  case round =>
    obtain ⟨k, hk, rfl, HT⟩ := hrel
    by_cases hlt : k < 32
    · have hlt' : (k : Int) < 32 := by omega
      have h0 : (0 : Int) ≤ (k : Int) := by omega
      have hx : wr.cell? ⟨w.heap.size, k, none⟩ = some (.int .u32 ((f.getD k 0 : Nat) : Int)) := by
        rw [cell_of_row _ _ _ _ _ _ HT.a, rowC_at f k (by rw [HF.out]; exact hlt)]
      have hsz := HT.lt
      have ho : ∀ O, (wr.alloc O).cell? ⟨w.heap.size + 1 + 1, k, none⟩ = some (.int .u32 (((outL f k).getD k 0 : Nat) : Int)) := fun O => by
        rw [World.cell?_of_block (w := wr) (Below.heap_alloc wr O _ HT.lt), cell_of_row _ _ _ _ _ _ HT.o, rowC_at _ k (by rw [outL_length]; exact hlt)]
      have hof : ∀ O, (wr.alloc O).frozen? ⟨w.heap.size + 1 + 1, k, none⟩ = false := fun O => by
        rw [World.frozen?_of_block (w := wr) (Below.heap_alloc wr O _ HT.lt)]
        exact frozen_of_row _ _ _ _ _ HT.o
      have hw1 : WayPtr wr.drew (.pointer (some ⟨w.heap.size, 0, none⟩)) := ⟨_, rfl, _, HT.a, by rw [rowC_size, HF.out]⟩
      have hw2 : wayOf wr.drew (.pointer (some ⟨w.heap.size, 0, none⟩)) = .agg (rowC f) := by
        show Value.agg (match wr.heap[w.heap.size]? with | some (.cells c _ _) => c | _ => #[]) = _
        rw [HT.a]
      have HG : Hid (∀ W, _) := fun W => gone_any f (f.getD k 0) W HF.out HB.out (HB.out k)
      have HN : Hid (∀ ob, _) := fun ob => Tw.next HT ob
      have hg := goTo_lt f (f.getD k 0) HB.out 32
      generalize (outL f k).getD k 0 = z at ho
      clear HT
      generalize f.getD k 0 = x at hx HG HN hg
      go_wp2
      go_region_with (go_at_call 10; refine Calls.mono (HG.out _) ?_; rintro e w' ⟨rfl, rfl⟩)
      all_goals
        go_wp2
        go_roundw
        case rel => exact ⟨k + 1, by omega, by go_num, (HN.out _).drew⟩
        case measure => simp [intOf]; omega
    · have e : k = 32 := by omega
      subst e
      have hw1 : WayPtr wr (.pointer (some ⟨w.heap.size + 1 + 1, 0, none⟩)) := ⟨_, rfl, _, HT.o, by rw [rowC_size, outL_length]⟩
      have hw2 : wayOf wr (.pointer (some ⟨w.heap.size + 1 + 1, 0, none⟩)) = .agg (rowC (outL f 32)) := by
        show Value.agg (match wr.heap[w.heap.size + 1 + 1]? with | some (.cells c _ _) => c | _ => #[]) = _
        rw [HT.o]
      have hsz : (rowC (outL f 32)).size = 32 := by rw [rowC_size, outL_length]
      have hth : wr.there (w.heap.size + 1) 0 (rowC (outL f 32)).size := by
        intro j hj
        rw [hsz] at hj
        rw [Nat.zero_add, cell_of_row _ _ _ _ _ _ HT.z, frozen_of_row _ _ _ _ _ HT.z, zeroC, rowC_at _ j (by simpa using hj)]
        exact ⟨rfl, rfl⟩
      have hone : (rowC (outL f 32)).all (·.oneCell') = true := by
        simp [rowC, Value.oneCell']
      have HBW := HT.b
      clear HT
      have HR : Hid ((wr.setCells (w.heap.size + 1) 0 (rowC (outL f 32)).toList).rangeAt (w.heap.size + 1) 0 (rowC (outL f 32)).toList) :=
        World.rangeAt_setCells_same _ _ _ _ (by simpa using hth)
      have HB2 : Hid (Below w.heap.size w (wr.setCells (w.heap.size + 1) 0 (rowC (outL f 32)).toList)) := below_setCells HBW (by omega) _ _
      go_wp2_with (refine wpList_store_mid rfl 32 (.tmp 2) (.tmp 18) rfl (w.heap.size + 1) 0 (rowC (outL f 32)) rfl rfl hth (by rw [wayInfo, hsz]) hone ?_)
      refine bodyPost_ret (v := .agg (rowC (outL f 32))) ?_ rfl ⟨rfl, HB2.out⟩
      have h := run_loadVar_mid (P := Try.prog) _ (w.heap.size + 1) 0 32 (rowC (outL f 32)).toList _ HR.out Try.underlying32 rfl (by rw [wayInfo, Array.length_toList, hsz])
      simp only [Array.toArray_toList] at h
      simp [results, Try.results11, asAddr, h, Act.put]
end Go.Proofs.Ytbmnkedbpomnkaa
