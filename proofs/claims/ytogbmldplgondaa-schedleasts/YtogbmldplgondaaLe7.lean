/-
  Least: the document's table of the apart.
-/
import Derived.Test.YtogbmldplgondaaLe5
import Derived.Laws.Tables
import Derived.Laws.CopyOwn
namespace Go.Proofs.Ytogbmldplgondaa
open Go.RowKit
set_option maxRecDepth 100000

def f256 : List Bool := List.replicate 256 false
abbrev TT : TypeId := 67
/-- the table as cells -/
def bc (L : List Bool) : List Value := L.map fun b => Value.bool b
/-- the document's apartOf between two pairs -/
structure TS (w wx : World) (L : List Bool) : Prop where
  z : wx.heap[w.heap.size]? = some (.cells (bc f256).toArray TT (0, 0))
  m : wx.heap[w.heap.size + 1]? = some (.cells (bc L).toArray TT (0, 0))
  below : Below w.heap.size w wx
theorem TS.later {w wx w' : World} {L : List Bool} (h : TS w wx L) (k : Below wx.heap.size wx w') : TS w w' L :=
  ⟨(k.block _ (Array.getElem?_eq_some_iff.1 h.z).1).trans h.z, (k.block _ (Array.getElem?_eq_some_iff.1 h.m).1).trans h.m, h.below.trans (k.mono h.below.size)⟩
theorem TS.put {w wx : World} {L : List Bool} (h : TS w wx L) (i : Nat) (x : Bool) : TS w (wx.setCell ⟨w.heap.size + 1, i, none⟩ (.bool x)) (L.set i x) := by
  refine ⟨?_, ?_, h.below.setCell (by show w.heap.size ≤ w.heap.size + 1; omega) _⟩
  · rw [heap_setCell_other _ _ _ _ (by show w.heap.size ≠ w.heap.size + 1; omega)]
    exact h.z
  · rw [heap_setCell_same wx (w.heap.size + 1) i _ _ _ h.m]
    simp only [List.setIfInBounds_toArray, bc, List.map_set]
theorem TS.at {w wx : World} {L : List Bool} (h : TS w wx L) (i : Nat) (hi : i < L.length) : wx.cell? ⟨w.heap.size + 1, i, none⟩ = some (.bool (L.getD i false)) ∧ wx.frozen? ⟨w.heap.size + 1, i, none⟩ = false := by
  refine ⟨?_, by simp [World.frozen?, h.m]⟩
  rw [cell_of_row wx (w.heap.size + 1) i _ _ _ h.m, List.getD_eq_getElem?_getD, List.getElem?_eq_getElem hi]
  simp [bc, hi]
theorem tinfo : (Try.prog.info? TT).map (·.size) = some 256 := by kernel_rfl
def tLoad (a : Addr) : Sem Value := loadVar TT a
theorem loadVar_t (a : Addr) : loadVar TT a = tLoad a := rfl
def tStore (a : Addr) (v : Value) : Sem Unit := storeVar TT a v
theorem storeVar_t (a : Addr) (v : Value) : storeVar TT a v = tStore a v := rfl
attribute [local go_sem ↓] loadVar_t storeVar_t
set_option maxHeartbeats 4000000 in
theorem apartOf_any (v : Value) (P : List Pr) (w : World) (hp : PL w v P) (hl : P.length ≤ 256) (hin : ∀ i (h : i < P.length), 0 ≤ P[i].1 ∧ P[i].1 < 16 ∧ 0 ≤ P[i].2 ∧ P[i].2 < 16) :
    Calls Try.prog 41 #[v] w fun e w' => e = .returned (.agg (bc (tm P P.length)).toArray) ∧ Below w.heap.size w w' := by
  obtain ⟨ao, cap, rfl, hc, hn, hcell⟩ := hp
  have HC := hid hcell
  clear hcell hn
  have HI := hid hin
  clear hin
  have hzero : ∀ w : World, (zeroValue TT).run Try.prog w = .ok (.agg (bc f256).toArray) w := fun w => by kernel_rfl
  go_enter Try.func41, Try.ntmps41
  go_wp2
  go_loopw [4] (fun vi wx => ∃ j : Nat, j ≤ P.length ∧ vi = .int .i64 (j : Int) ∧ TS w wx (tm P j)) (fun vi _ => P.length - (intOf vi).toNat)
  case atStart =>
    refine ⟨0, Nat.zero_le _, rfl, ?_, ?_, ?_⟩
    · have a1 := (Below.refl (w.heap.size + 1) (w.alloc (.cells (bc f256).toArray TT))).alloc (by simp) (.cells (bc f256).toArray TT)
      exact (a1.block w.heap.size (by omega)).trans (heap_alloc_new w _)
    · have a1 := heap_alloc_new (w.alloc (.cells (bc f256).toArray TT)) (.cells (bc f256).toArray TT)
      rw [World.size_alloc] at a1
      exact a1
    · exact ((Below.refl _ _).alloc (Nat.le_refl _) _).alloc (by simp) _
  case round =>
    obtain ⟨j, hj, rfl, hS⟩ := hrel
    have HB := hid hS
    have hsz := hS.below.size
    clear hS hzero
    by_cases h : j < P.length
    · have hI : (j : Int) < (P.length : Int) := by omega
      obtain ⟨_, g, off, hao, p0, p1⟩ := HC.out j h
      subst hao
      obtain ⟨i0, i1, i2, i3⟩ := HI.out j h
      have HP0 := hid p0
      have HP1 := hid p1
      have p0 := below_cells HB.out.below _ _ p0
      have p1 := below_cells HB.out.below _ _ p1
      have HBM := hid (tm_succ P j h)
      have HN := hid (show g < w.heap.size from World.block_lt_of_cell? _ _ (by obtain ⟨_, g', off', e, p, _⟩ := HC.out j h; cases e; exact p))
      obtain ⟨y, hy⟩ : ∃ y, P[j] = y := ⟨_, rfl⟩
      rw [hy] at p0 p1 i0 i1 i2 i3 HBM HP0 HP1
      obtain ⟨A, B⟩ := y
      simp only at p0 p1 i0 i1 i2 i3 HP0 HP1
      obtain ⟨a, rfl⟩ : ∃ a : Nat, A = (a : Int) := ⟨A.toNat, by omega⟩
      obtain ⟨b, rfl⟩ : ∃ b : Nat, B = (b : Int) := ⟨B.toNat, by omega⟩
      have hl16 := tm_len P j hj
      by_cases hab : a = b
      · subst hab
        have HE := hid (show tm P (j + 1) = tm P j by rw [HBM.out]; unfold t1; rw [if_pos rfl])
        clear hy HBM
        go_wp2
        go_region
        go_wp2
        go_roundw
        case rel => exact ⟨j + 1, by omega, by go_num, by rw [HE.out]; exact HB.out.later ((Below.refl _ _).drew)⟩
        case measure => simp [intOf]; omega
      · have hne : ((a : Int) == (b : Int)) = false := by simp; omega
        clear hy
        have HB1 := hid (HB.out.later ((Below.refl _ _).drew))
        obtain ⟨q1, f1⟩ := HB.out.at (a * 16 + b) (by omega)
        obtain ⟨V, hV⟩ : ∃ V, (wr.setCell ⟨w.heap.size + 1, a * 16 + b, none⟩ (.bool true)).drew.drew = V := ⟨_, rfl⟩
        have HV := hid (show TS w V ((tm P j).set (a * 16 + b) true) by
          rw [← hV]
          exact ((HB.out.put (a * 16 + b) true).later ((Below.refl _ _).drew)).later ((Below.refl _ _).drew))
        have hgn := HN.out
        have v0 := below_cells HV.out.below _ _ HP0.out
        have v1 := below_cells HV.out.below _ _ HP1.out
        obtain ⟨q2, f2⟩ := HV.out.at (b * 16 + a) (by rw [List.length_set]; omega)
        have HV2 := hid (HV.out.put (b * 16 + a) true)
        have HE := hid (show tm P (j + 1) = ((tm P j).set (a * 16 + b) true).set (b * 16 + a) true by
          rw [HBM.out]
          unfold t1
          rw [if_neg (by simp; omega)]
          simp only [Int.toNat_natCast]
          rw [Nat.mul_comm 16 a, Nat.mul_comm 16 b])
        clear HBM HN HB1 HV
        go_wp2
        go_region
        go_wp2
        go_region
        go_wp2
        try rw [hV]
        clear p0 p1 q1 f1 hV
        go_region
        go_wp2
        go_roundw
        case rel => exact ⟨j + 1, by omega, by go_num, by rw [HE.out]; exact HV2.out.later ((Below.refl _ _).drew)⟩
        case measure => simp [intOf]; omega
    · have hI : ¬ (j : Int) < (P.length : Int) := by omega
      obtain rfl : j = P.length := by omega
      have hK : (bc (tm P P.length)).toArray.size = 256 := by simp [bc, tm_len P P.length (Nat.le_refl _)]
      have h1c : (bc (tm P P.length)).toArray.all (·.oneCell') = true := by simp [bc, Value.oneCell']
      have hm := HB.out.m
      have hz := HB.out.z
      have HBl := hid HB.out.below
      obtain ⟨K, hKe⟩ : ∃ K, (bc (tm P P.length)).toArray = K := ⟨_, rfl⟩
      rw [hKe] at hK hm h1c
      have HKe := hid hKe
      clear hKe
      have hL1 : (tLoad ⟨w.heap.size + 1, 0, none⟩).run Try.prog wr = .ok (.agg K) wr := run_loadVar_row wr _ TT TT K (0, 0) _ hm Try.underlying67 rfl (by rw [hK]; exact tinfo)
      obtain ⟨W1, hW1⟩ : ∃ W1, wr.setRow w.heap.size K = W1 := ⟨_, rfl⟩
      have hSt : (tStore ⟨w.heap.size, 0, none⟩ (.agg K)).run Try.prog wr = .ok () W1 := by
        rw [← hW1]
        exact run_storeVar_row wr _ TT TT _ K hz (by rw [hK]; exact tinfo) (by rw [hK]; simp [bc, f256]) h1c
      have hW2 : W1.heap[w.heap.size]? = some (.cells K TT (0, 0)) := by
        rw [← hW1]
        simp [World.setRow, Array.getElem?_modify, hz]
      have hL2 : (tLoad ⟨w.heap.size, 0, none⟩).run Try.prog W1 = .ok (.agg K) W1 := run_loadVar_row W1 _ TT TT K (0, 0) _ hW2 Try.underlying67 rfl (by rw [hK]; exact tinfo)
      have HB1 := hid (show Below w.heap.size w W1 by rw [← hW1]; exact below_setRow HBl.out (Nat.le_refl _) _)
      clear hW1 hW2 hm hz h1c hK HB HC HI HBl
      go_wp2
      refine bodyPost_ret (v := .agg K) (by simp [results, Try.results41, asAddr, ↓loadVar_t, hL2]) rfl ?_
      exact ⟨by rw [HKe.out], HB1.out⟩
end Go.Proofs.Ytogbmldplgondaa
