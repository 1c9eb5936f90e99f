/-
  Sbu: Builders of the call's own: one by itself (b), one within a page (g). Laid by mksbu.py.
  Sia: strings.ContainsAny of the bytes that need quotes, in any text. Laid by mksia.py.
  Skr: Sheets: strings.ReplaceAll of quotes by two.
  Skw: Sheets: writeCell, writeRow, Print.
  Dpt: Sheets, the document's side: text. Laid by mkdpt.py.
  Dph: Sheets, the document's side: Wrong, Print.
-/
import Derived.Test.YtmgfdnccmeahjaaGreatDoorZH
import Derived.Test.YtmgfdnccmeahjaaGreatDoorShelf
import Derived.Lib.MakeNoZero
import Derived.Deep.CutRange
import Derived.Test.YtmgfdnccmeahjaaGreatDoorZJ
import Derived.Test.YtmgfdnccmeahjaaGreatDoorZF
import Derived.Laws.RangeAny
import Derived.Laws.Runes
import Derived.Lib.OthersKept
import Derived.BigQuiet
import Derived.WalkMore
import Derived.Deep.LoopGhost
import Derived.Deep.RegionWith
import Derived.Test.YtmgfdnccmeahjaaGreatDoorZL
import Derived.Lib.AppendStr
namespace Go.Proofs.YtmgfdnccmeahjaaGreatDoor
open Go.RowKit
set_option maxRecDepth 100000
set_option linter.unusedVariables false
set_option linter.unusedSimpArgs false

theorem cells_app2 (l : List UInt8) (s : ByteArray) : Lib.byteCells (l ++ s.data.toList) = Lib.byteCells l ++ Lib.strCells s := by rw [Lib.byteCells_append, Lib.strCells_eq]

/-- the builder in block b (of the call's own: from B on) holds the bytes l -/
def Isb (B b : Nat) (l : List UInt8) (w : World) : Prop := Lib.IsBuilder 94 5 B b (Lib.byteCells l) w
theorem sizeb : (Tryz.prog.info? 94).map (·.size) = some 2 := by kernel_rfl
theorem liesb : liesAt Tryz.prog Tryz.prog.depth 94 (2 / Tryz.prog.cellsOf 94) 0 94 1 = true := by kernel_rfl
theorem neb : (94 : TypeId) ≠ 5 := by decide
set_option maxHeartbeats 1000000 in
theorem copyUsedb (b : Nat) (w : World) (h0 : w.cell? ⟨b, 0, none⟩ = some (.pointer (some ⟨b, 0, none⟩))) :
    Calls Tryz.prog 114 #[.pointer (some ⟨b, 0, none⟩)] w fun e w' => e = .returned (.tuple #[]) ∧ w' = w := by
  obtain ⟨j, hj, hjs⟩ := Option.map_eq_some_iff.1 sizeb
  have hnq := fun w => Lib.run_neq_ptr_same (P := Tryz.prog) w ⟨b, 0, none⟩ Tryz.underlying91 hj
  go_enter Tryz.func114, Tryz.ntmps114
  go_wp2
  go_end0
  exact ⟨rfl, rfl⟩
set_option maxHeartbeats 1000000 in
theorem copyFreshb (b : Nat) (w : World) (h0 : w.cell? ⟨b, 0, none⟩ = some (.pointer none)) (hsh : w.shape? b = some (94, 2)) (hfz : w.frozen? ⟨b, 0, none⟩ = false) :
    Calls Tryz.prog 114 #[.pointer (some ⟨b, 0, none⟩)] w fun e w' => e = .returned (.tuple #[]) ∧ w' = w.setCell ⟨b, 0, none⟩ (.pointer (some ⟨b, 0, none⟩)) := by
  obtain ⟨j, hj, hjs⟩ := Option.map_eq_some_iff.1 sizeb
  have k1 := Lib.run_to_unsafe (P := Tryz.prog) w ⟨b, 0, none⟩ Tryz.underlying91 Tryz.underlying104 hj (by rw [hjs]; decide) hsh (Nat.zero_lt_succ 1)
  have k3 := Lib.run_from_unsafe (P := Tryz.prog) w ⟨b, 0, none⟩ Tryz.underlying104 Tryz.underlying91 hj hsh liesb
  have k2 : ∀ x, (callFunc 152 #[x]).run Tryz.prog w = .ok (.value x) w := fun x => by
    rw [run_callFunc_extern Tryz.func152 (by kernel_rfl) (by kernel_rfl) (by kernel_rfl) (e := Extern.AbiNoEscape.same) (by kernel_rfl), Lib.run_noEscape]
    rfl
  go_enter Tryz.func114, Tryz.ntmps114
  go_wp2
  go_end0
  exact ⟨rfl, rfl⟩
theorem copyAnyb (B b : Nat) (l : List UInt8) (w : World) (h : Isb B b l w) :
    Calls Tryz.prog 114 #[.pointer (some ⟨b, 0, none⟩)] w fun e w' => e = .returned (.tuple #[]) ∧ Lib.BuilderAt 94 5 B b (.pointer (some ⟨b, 0, none⟩)) (Lib.byteCells l) w' ∧ Below B w w' := by
  rcases h with h | h
  · refine (copyFreshb b w h.cell0 h.shape h.frozen0).mono ?_
    rintro e w' ⟨rfl, rfl⟩
    exact ⟨rfl, h.used _, (Below.refl B w).setCell (p := ⟨b, 0, none⟩) h.1 _⟩
  · refine (copyUsedb b w h.cell0).mono ?_
    rintro e w' ⟨rfl, rfl⟩
    exact ⟨rfl, h, Below.refl B _⟩
set_option maxHeartbeats 2000000 in
theorem wStrb (B b : Nat) (l : List UInt8) (s : ByteArray) (w : World) (h : Isb B b l w) (hlen : l.length + s.size ≤ 140737488355328) (hBw : B ≤ w.heap.size) :
    Calls Tryz.prog 85 #[.pointer (some ⟨b, 0, none⟩), .string s] w fun e w' => e = .returned (.tuple #[.int .i64 s.size, .nilIface]) ∧ Isb B b (l ++ s.data.toList) w' ∧ Below B w w' := by
  obtain ⟨i0, hi, hz0, hz1, hz2⟩ := info_parts u8i
  have hcl := Lib.byteCells_length l
  have HC : Hid (_) := copyAnyb B b l w h
  clear h
  go_enter Tryz.func85, Tryz.ntmps85
  go_wp2_with fail
  refine Calls.mono HC.out ?_
  rintro e w1 ⟨rfl, h1, hb1⟩
  clear HC
  obtain ⟨hB, v, hbk, hown, hne⟩ := h1
  have hsz1 := hb1.size
  have c0 : w1.cell? ⟨b, 0, none⟩ = some (.pointer (some ⟨b, 0, none⟩)) := by rw [Lib.cell_of_heap hbk]; rfl
  have c1 : w1.cell? ⟨b, 1, none⟩ = some v := by rw [Lib.cell_of_heap hbk]; rfl
  go_wp2_with (at_builtin; refine Lib.wpList_append_own_string _ rfl _ _ 92 9 rfl B 5 i0 Tryz.underlying92 Tryz.underlying9 hi hz0 hz1 hz2 _ _ _ rfl hown s rfl ?c3 ?c4 ?c5 ?_)
  case c3 => unfold maxLen; omega
  case c4 => omega
  case c5 => omega
  intro v' w2 hown' hgrow _
  have hlt : b < w1.heap.size := (Array.getElem?_eq_some_iff.1 hbk).1
  have hb2 : w2.heap[b]? = some (.cells #[.pointer (some ⟨b, 0, none⟩), v] 94 (0, 0)) := by
    rw [hgrow.block b hlt (fun e => hne e.symm)]
    exact hbk
  have d0 : w2.cell? ⟨b, 0, none⟩ = some (.pointer (some ⟨b, 0, none⟩)) := by rw [Lib.cell_of_heap hb2]; rfl
  have d1 : w2.cell? ⟨b, 1, none⟩ = some v := by rw [Lib.cell_of_heap hb2]; rfl
  have f1 : w2.frozen? ⟨b, 1, none⟩ = false := Lib.frozen_of_heap hb2 1
  obtain ⟨ao, n', cap, rfl⟩ : ∃ ao n' cap, v' = .slice ao n' cap := by
    rcases hown'.2 with ⟨hv, _⟩ | ⟨g, cap, cur, hv, _⟩
    · exact ⟨_, _, _, hv⟩
    · exact ⟨_, _, _, hv⟩
  go_wp2
  go_ret2
  refine ⟨rfl, .inr ?_, ?_⟩
  · rw [cells_app2]
    exact Lib.BuilderAt.put hB hb2 (by rw [List.length_append, hcl, Lib.strCells_length]; exact hown') neb
  · exact (hb1.grown hgrow (by omega) (fun k hk => (hown.lt k hk).1)).setCell (p := ⟨b, 1, none⟩) hB _
theorem Isb.parts {B b : Nat} {l : List UInt8} {w : World} (h : Isb B b l w) : B ≤ b ∧ ∃ p v, w.heap[b]? = some (.cells #[p, v] 94 (0, 0)) ∧ w.ownsRow B 5 1 v l.length (Lib.byteCells l) := by
  have hcl := Lib.byteCells_length l
  rcases h with ⟨hB, v, hb, ho, _⟩ | ⟨hB, v, hb, ho, _⟩
  · exact ⟨hB, _, v, hb, by rw [← hcl]; exact ho⟩
  · exact ⟨hB, _, v, hb, by rw [← hcl]; exact ho⟩
theorem strb (B b : Nat) (l : List UInt8) (w : World) (h : Isb B b l w) (hBw : B ≤ w.heap.size) :
    Calls Tryz.prog 39 #[.pointer (some ⟨b, 0, none⟩)] w fun e w' => e = .returned (.string ⟨l.toArray⟩) ∧ Below B w w' := Tryz.Builder_String_any B b l w h hBw
theorem Isb.kept {B b : Nat} {l : List UInt8} {w w' : World} (h : Isb B b l w) (hb : Below w.heap.size w w') : Isb B b l w' := by
  have key : ∀ p, Lib.BuilderAt 94 5 B b p (Lib.byteCells l) w → Lib.BuilderAt 94 5 B b p (Lib.byteCells l) w' := by
    rintro p ⟨hB, v, hbk, ho, hne⟩
    exact ⟨hB, v, (hb.block b (Array.getElem?_eq_some_iff.1 hbk).1).trans hbk, own_of ho fun g hg => hb.block g (World.ownsRow.lt ho g hg).2, hne⟩
  rcases h with h | h
  · exact .inl (key _ h)
  · exact .inr (key _ h)

/-- the builder in block b (of the call's own: from B on) holds the bytes l -/
def Isg (B b : Nat) (l : List UInt8) (w : World) : Prop := Lib.IsBuilder 96 5 B b (Lib.byteCells l) w
theorem sizeg : (Tryz.prog.info? 94).map (·.size) = some 2 := by kernel_rfl
theorem liesg : liesAt Tryz.prog Tryz.prog.depth 96 (2 / Tryz.prog.cellsOf 96) 0 94 1 = true := by kernel_rfl
theorem neg : (96 : TypeId) ≠ 5 := by decide
set_option maxHeartbeats 1000000 in
theorem copyUsedg (b : Nat) (w : World) (h0 : w.cell? ⟨b, 0, none⟩ = some (.pointer (some ⟨b, 0, none⟩))) :
    Calls Tryz.prog 114 #[.pointer (some ⟨b, 0, none⟩)] w fun e w' => e = .returned (.tuple #[]) ∧ w' = w := by
  obtain ⟨j, hj, hjs⟩ := Option.map_eq_some_iff.1 sizeg
  have hnq := fun w => Lib.run_neq_ptr_same (P := Tryz.prog) w ⟨b, 0, none⟩ Tryz.underlying91 hj
  go_enter Tryz.func114, Tryz.ntmps114
  go_wp2
  go_end0
  exact ⟨rfl, rfl⟩
set_option maxHeartbeats 1000000 in
theorem copyFreshg (b : Nat) (w : World) (h0 : w.cell? ⟨b, 0, none⟩ = some (.pointer none)) (hsh : w.shape? b = some (96, 2)) (hfz : w.frozen? ⟨b, 0, none⟩ = false) :
    Calls Tryz.prog 114 #[.pointer (some ⟨b, 0, none⟩)] w fun e w' => e = .returned (.tuple #[]) ∧ w' = w.setCell ⟨b, 0, none⟩ (.pointer (some ⟨b, 0, none⟩)) := by
  obtain ⟨j, hj, hjs⟩ := Option.map_eq_some_iff.1 sizeg
  have k1 := Lib.run_to_unsafe (P := Tryz.prog) w ⟨b, 0, none⟩ Tryz.underlying91 Tryz.underlying104 hj (by rw [hjs]; decide) hsh (Nat.zero_lt_succ 1)
  have k3 := Lib.run_from_unsafe (P := Tryz.prog) w ⟨b, 0, none⟩ Tryz.underlying104 Tryz.underlying91 hj hsh liesg
  have k2 : ∀ x, (callFunc 152 #[x]).run Tryz.prog w = .ok (.value x) w := fun x => by
    rw [run_callFunc_extern Tryz.func152 (by kernel_rfl) (by kernel_rfl) (by kernel_rfl) (e := Extern.AbiNoEscape.same) (by kernel_rfl), Lib.run_noEscape]
    rfl
  go_enter Tryz.func114, Tryz.ntmps114
  go_wp2
  go_end0
  exact ⟨rfl, rfl⟩
theorem copyAnyg (B b : Nat) (l : List UInt8) (w : World) (h : Isg B b l w) :
    Calls Tryz.prog 114 #[.pointer (some ⟨b, 0, none⟩)] w fun e w' => e = .returned (.tuple #[]) ∧ Lib.BuilderAt 96 5 B b (.pointer (some ⟨b, 0, none⟩)) (Lib.byteCells l) w' ∧ Below B w w' := by
  rcases h with h | h
  · refine (copyFreshg b w h.cell0 h.shape h.frozen0).mono ?_
    rintro e w' ⟨rfl, rfl⟩
    exact ⟨rfl, h.used _, (Below.refl B w).setCell (p := ⟨b, 0, none⟩) h.1 _⟩
  · refine (copyUsedg b w h.cell0).mono ?_
    rintro e w' ⟨rfl, rfl⟩
    exact ⟨rfl, h, Below.refl B _⟩
set_option maxHeartbeats 2000000 in
theorem wByteg (B b : Nat) (l : List UInt8) (c : UInt8) (z : Int) (w : World) (h : Isg B b l w) (hz : z = (c.toNat : Int)) (hlen : l.length + 1 ≤ 140737488355328) (hBw : B ≤ w.heap.size) :
    Calls Tryz.prog 83 #[.pointer (some ⟨b, 0, none⟩), .int .u8 z] w fun e w' => e = .returned .nilIface ∧ Isg B b (l ++ [c]) w' ∧ Below B w w' := by
  subst hz
  obtain ⟨i0, hi, hz0, hz1, hz2⟩ := info_parts u8i
  have hcl := Lib.byteCells_length l
  have HC : Hid (_) := copyAnyg B b l w h
  clear h
  go_enter Tryz.func83, Tryz.ntmps83
  go_wp2_with fail
  refine Calls.mono HC.out ?_
  rintro e w1 ⟨rfl, h1, hb1⟩
  clear HC
  obtain ⟨hB, v, hbk, hown, hne⟩ := h1
  have hsz1 := hb1.size
  have c0 : w1.cell? ⟨b, 0, none⟩ = some (.pointer (some ⟨b, 0, none⟩)) := by rw [Lib.cell_of_heap hbk]; rfl
  have c1 : w1.cell? ⟨b, 1, none⟩ = some v := by rw [Lib.cell_of_heap hbk]; rfl
  go_wp2_with (at_builtin; refine wpList_append_own _ rfl _ _ 92 rfl B 5 i0 (.int .u8 0) 1 1 Tryz.underlying92 hi hz0 hz1 hz2 rfl (by decide) _ _ _ rfl (hown.alloc _) ⟨w1.heap.size, 0, none⟩ 1 1 [.int .u8 (c.toNat : Int)] rfl rfl ?c1 ?c2 ?c3 ?c4 ?c5 ?_)
  case c1 =>
    intro j u hj
    match j, hj with
    | 0, hj => simp at hj; subst hj; simp [Addr.add]
  case c2 => intro u hu; simp at hu; subst hu; rfl
  case c3 => unfold maxLen; omega
  case c4 => omega
  case c5 => simp; omega
  intro v' w2 hown' hgrow _
  have hlt : b < w1.heap.size := (Array.getElem?_eq_some_iff.1 hbk).1
  have hb2 : w2.heap[b]? = some (.cells #[.pointer (some ⟨b, 0, none⟩), v] 96 (0, 0)) := by
    rw [hgrow.block b (by simp; omega) (fun e => hne e.symm), Lib.alloc_old w1 _ b hlt]
    exact hbk
  have d0 : w2.cell? ⟨b, 0, none⟩ = some (.pointer (some ⟨b, 0, none⟩)) := by rw [Lib.cell_of_heap hb2]; rfl
  have d1 : w2.cell? ⟨b, 1, none⟩ = some v := by rw [Lib.cell_of_heap hb2]; rfl
  have f1 : w2.frozen? ⟨b, 1, none⟩ = false := Lib.frozen_of_heap hb2 1
  obtain ⟨ao, n', cap, rfl⟩ : ∃ ao n' cap, v' = .slice ao n' cap := by
    rcases hown'.2 with ⟨hv, _⟩ | ⟨g, cap, cur, hv, _⟩
    · exact ⟨_, _, _, hv⟩
    · exact ⟨_, _, _, hv⟩
  go_wp2
  go_ret
  refine ⟨rfl, .inr ?_, ?_⟩
  · rw [cells_snoc]
    exact Lib.BuilderAt.put hB hb2 (by rw [List.length_append, hcl]; exact hown') neg
  · exact ((hb1.alloc (by omega) _).grown hgrow (by simp; omega) (fun k hk => (hown.lt k hk).1)).setCell (p := ⟨b, 1, none⟩) hB _
set_option maxHeartbeats 2000000 in
theorem wStrg (B b : Nat) (l : List UInt8) (s : ByteArray) (w : World) (h : Isg B b l w) (hlen : l.length + s.size ≤ 140737488355328) (hBw : B ≤ w.heap.size) :
    Calls Tryz.prog 85 #[.pointer (some ⟨b, 0, none⟩), .string s] w fun e w' => e = .returned (.tuple #[.int .i64 s.size, .nilIface]) ∧ Isg B b (l ++ s.data.toList) w' ∧ Below B w w' := by
  obtain ⟨i0, hi, hz0, hz1, hz2⟩ := info_parts u8i
  have hcl := Lib.byteCells_length l
  have HC : Hid (_) := copyAnyg B b l w h
  clear h
  go_enter Tryz.func85, Tryz.ntmps85
  go_wp2_with fail
  refine Calls.mono HC.out ?_
  rintro e w1 ⟨rfl, h1, hb1⟩
  clear HC
  obtain ⟨hB, v, hbk, hown, hne⟩ := h1
  have hsz1 := hb1.size
  have c0 : w1.cell? ⟨b, 0, none⟩ = some (.pointer (some ⟨b, 0, none⟩)) := by rw [Lib.cell_of_heap hbk]; rfl
  have c1 : w1.cell? ⟨b, 1, none⟩ = some v := by rw [Lib.cell_of_heap hbk]; rfl
  go_wp2_with (at_builtin; refine Lib.wpList_append_own_string _ rfl _ _ 92 9 rfl B 5 i0 Tryz.underlying92 Tryz.underlying9 hi hz0 hz1 hz2 _ _ _ rfl hown s rfl ?c3 ?c4 ?c5 ?_)
  case c3 => unfold maxLen; omega
  case c4 => omega
  case c5 => omega
  intro v' w2 hown' hgrow _
  have hlt : b < w1.heap.size := (Array.getElem?_eq_some_iff.1 hbk).1
  have hb2 : w2.heap[b]? = some (.cells #[.pointer (some ⟨b, 0, none⟩), v] 96 (0, 0)) := by
    rw [hgrow.block b hlt (fun e => hne e.symm)]
    exact hbk
  have d0 : w2.cell? ⟨b, 0, none⟩ = some (.pointer (some ⟨b, 0, none⟩)) := by rw [Lib.cell_of_heap hb2]; rfl
  have d1 : w2.cell? ⟨b, 1, none⟩ = some v := by rw [Lib.cell_of_heap hb2]; rfl
  have f1 : w2.frozen? ⟨b, 1, none⟩ = false := Lib.frozen_of_heap hb2 1
  obtain ⟨ao, n', cap, rfl⟩ : ∃ ao n' cap, v' = .slice ao n' cap := by
    rcases hown'.2 with ⟨hv, _⟩ | ⟨g, cap, cur, hv, _⟩
    · exact ⟨_, _, _, hv⟩
    · exact ⟨_, _, _, hv⟩
  go_wp2
  go_ret2
  refine ⟨rfl, .inr ?_, ?_⟩
  · rw [cells_app2]
    exact Lib.BuilderAt.put hB hb2 (by rw [List.length_append, hcl, Lib.strCells_length]; exact hown') neg
  · exact (hb1.grown hgrow (by omega) (fun k hk => (hown.lt k hk).1)).setCell (p := ⟨b, 1, none⟩) hB _
theorem Isg.parts {B b : Nat} {l : List UInt8} {w : World} (h : Isg B b l w) : B ≤ b ∧ ∃ p v, w.heap[b]? = some (.cells #[p, v] 96 (0, 0)) ∧ w.ownsRow B 5 1 v l.length (Lib.byteCells l) := by
  have hcl := Lib.byteCells_length l
  rcases h with ⟨hB, v, hb, ho, _⟩ | ⟨hB, v, hb, ho, _⟩
  · exact ⟨hB, _, v, hb, by rw [← hcl]; exact ho⟩
  · exact ⟨hB, _, v, hb, by rw [← hcl]; exact ho⟩
set_option maxHeartbeats 1000000 in
theorem leng (B b : Nat) (l : List UInt8) (w : World) (h : Isg B b l w) :
    Calls Tryz.prog 38 #[.pointer (some ⟨b, 0, none⟩)] w fun e w' => e = .returned (.int .i64 (l.length : Int)) ∧ w' = w := by
  obtain ⟨_, p, v, hb, ho⟩ := h.parts
  obtain ⟨ao, cp, rfl⟩ := own_slice ho
  have c1 : w.cell? ⟨b, 1, none⟩ = some (.slice ao l.length cp) := by rw [Lib.cell_of_heap hb]; rfl
  clear hb ho h
  go_enter Tryz.func38, Tryz.ntmps38
  go_wp2
  go_ret
  exact ⟨rfl, rfl⟩
set_option maxHeartbeats 2000000 in
theorem strg (B b : Nat) (l : List UInt8) (w : World) (h : Isg B b l w) (hBw : B ≤ w.heap.size) :
    Calls Tryz.prog 39 #[.pointer (some ⟨b, 0, none⟩)] w fun e w' => e = .returned (.string ⟨l.toArray⟩) ∧ Below B w w' := by
  obtain ⟨_, p, v, hb, ho⟩ := h.parts
  clear h
  have hcells := fun g hg => World.ownsRow.cells ho (g := g) hg
  have hlt := fun g hg => World.ownsRow.lt ho g hg
  rcases ho.2 with ⟨rfl, h0⟩ | ⟨g, cap, cur, rfl, hBg, hg, hnc, hcm, hcs, _⟩
  · have hUS := fun (W : World) (q : Option Addr) => Lib.run_unsafeString_none (P := Tryz.prog) W 156 3 9 q
    have c1 : w.drew.cell? ⟨b, 1, none⟩ = some (.slice none 0 0) := by have hb' : w.drew.heap[b]? = _ := hb; rw [Lib.cell_of_heap hb']; rfl
    have hSD : (Builtin.unsafeSliceData_ #[92] 156 #[.slice none 0 0]).run Tryz.prog w.drew = .ok (.pointer none) w.drew := rfl
    have HL : l = [] := List.eq_nil_of_length_eq_zero h0
    subst HL
    have HBl := hid ((Below.refl B w).drew)
    clear hb ho hcells hlt h0
    go_enter Tryz.func39, Tryz.ntmps39
    go_wp2
    go_region
    all_goals (go_wp2; go_ret; exact ⟨rfl, HBl.out⟩)
  · by_cases h0 : l = []
    · subst h0
      have hUS := fun (W : World) (q : Option Addr) => Lib.run_unsafeString_none (P := Tryz.prog) W 156 3 9 q
      have c1 : w.drew.cell? ⟨b, 1, none⟩ = some (.slice (some ⟨g, 0, none⟩) 0 cap) := by have hb' : w.drew.heap[b]? = _ := hb; rw [Lib.cell_of_heap hb']; rfl
      by_cases hc0 : cap = 0
      · subst hc0
        have hSD : (Builtin.unsafeSliceData_ #[92] 156 #[.slice (some ⟨g, 0, none⟩) 0 0]).run Tryz.prog w.drew = .ok (.pointer (some ⟨w.drew.heap.size, 0, none⟩)) (w.drew.alloc (.view ⟨g, 0, none⟩ 5)) :=
          Lib.run_unsafeSliceData_zero w.drew _ _ 5 Tryz.underlying156 ⟨g, 0, none⟩ 0 (5, cur.size) (by have hg' : w.drew.heap[g]? = some (.cells cur 5 (0, 0)) := hg; simp [World.shape?, hg'])
        have c2 : (w.drew.alloc (.view ⟨g, 0, none⟩ 5)).cell? ⟨b, 1, none⟩ = some (.slice (some ⟨g, 0, none⟩) 0 0) := by
          have hb' : (w.drew.alloc (.view ⟨g, 0, none⟩ 5)).heap[b]? = _ := (Lib.alloc_old w.drew _ b (Array.getElem?_eq_some_iff.1 hb).1).trans hb
          rw [Lib.cell_of_heap hb']; rfl
        have c3 : (w.alloc (.view ⟨g, 0, none⟩ 5)).drew.cell? ⟨b, 1, none⟩ = some (.slice (some ⟨g, 0, none⟩) 0 0) := c2
        have c4 : (w.alloc (.view ⟨g, 0, none⟩ 5)).cell? ⟨b, 1, none⟩ = some (.slice (some ⟨g, 0, none⟩) 0 0) := c2
        have c0 : w.cell? ⟨b, 1, none⟩ = some (.slice (some ⟨g, 0, none⟩) 0 0) := c1
        have HBl := hid (((Below.refl B w).drew).alloc (o := .view ⟨g, 0, none⟩ 5) hBw)
        clear hb ho hcells hlt hg hnc hcm hcs
        go_enter Tryz.func39, Tryz.ntmps39
        go_wp2
        go_region
        all_goals (go_wp2; go_ret; exact ⟨rfl, HBl.out⟩)
      · have hSD : (Builtin.unsafeSliceData_ #[92] 156 #[.slice (some ⟨g, 0, none⟩) 0 cap]).run Tryz.prog w.drew = .ok (.pointer (some ⟨g, 0, none⟩)) w.drew := Lib.run_unsafeSliceData_row _ _ _ _ _ _ hc0
        have HBl := hid ((Below.refl B w).drew)
        clear hb ho hcells hlt hg hnc hcm hcs
        go_enter Tryz.func39, Tryz.ntmps39
        go_wp2
        go_region
        all_goals (go_wp2; go_ret; exact ⟨rfl, HBl.out⟩)
    · have hl0 : l.length ≠ 0 := by simpa using h0
      have hcl := hcells g rfl
      have c1 : w.drew.cell? ⟨b, 1, none⟩ = some (.slice (some ⟨g, 0, none⟩) l.length cap) := by have hb' : w.drew.heap[b]? = _ := hb; rw [Lib.cell_of_heap hb']; rfl
      have hSD : (Builtin.unsafeSliceData_ #[92] 156 #[.slice (some ⟨g, 0, none⟩) l.length cap]).run Tryz.prog w.drew = .ok (.pointer (some ⟨g, 0, none⟩)) w.drew :=
        Lib.run_unsafeSliceData_row _ _ _ _ _ _ (by omega)
      have hUS : (Builtin.unsafeString_ #[156, 3] 9 #[.pointer (some ⟨g, 0, none⟩), .int .i64 l.length]).run Tryz.prog w.drew = .ok (.string ⟨l.toArray⟩) (w.drew.freeze ⟨g, 0, none⟩ l.length) := by
        refine Lib.run_unsafeString_row w.drew 156 3 9 5 Tryz.underlying156 (by kernel_rfl) g cur.size (by have hg' : w.drew.heap[g]? = some (.cells cur 5 (0, 0)) := hg; simp [World.shape?, hg']) l h0 (by omega) (by unfold maxLen at hcm; omega) ?_
        intro j x hx
        exact hcl j (.int .u8 x.toNat) (by simp [Lib.byteCells, hx])
      have HBl := hid (Lib.below_freeze ((Below.refl B w).drew) (p := ⟨g, 0, none⟩) hBg l.length)
      clear hb ho hg hcells hcl hlt hBg hnc hcm hcs
      go_enter Tryz.func39, Tryz.ntmps39
      go_wp2
      go_region
      all_goals (go_wp2; go_ret; exact ⟨rfl, HBl.out⟩)
theorem freshg (w : World) : Isg w.heap.size w.heap.size [] (w.alloc (.cells #[.pointer none, .slice none 0 0] 96)) := Lib.fresh_isBuilder _ _ w
theorem Isg.kept {B b : Nat} {l : List UInt8} {w w' : World} (h : Isg B b l w) (hb : Below w.heap.size w w') : Isg B b l w' := by
  have key : ∀ p, Lib.BuilderAt 96 5 B b p (Lib.byteCells l) w → Lib.BuilderAt 96 5 B b p (Lib.byteCells l) w' := by
    rintro p ⟨hB, v, hbk, ho, hne⟩
    exact ⟨hB, v, (hb.block b (Array.getElem?_eq_some_iff.1 hbk).1).trans hbk, own_of ho fun g hg => hb.block g (World.ownsRow.lt ho g hg).2, hne⟩
  rcases h with h | h
  · exact .inl (key _ h)
  · exact .inr (key _ h)
end Go.Proofs.YtmgfdnccmeahjaaGreatDoor

namespace Go.Proofs.YtmgfdnccmeahjaaGreatDoor
open Go.RowKit
set_option maxRecDepth 1000000
set_option linter.unusedSimpArgs false
set_option linter.unusedVariables false

/-- the bytes that need quotes -/
abbrev nS : ByteArray := ⟨#[44, 34, 13, 10, 9]⟩
theorem ib_none {c : UInt8} : ∀ {A : List UInt8}, c ∉ A → Lib.indexByte A c = -1
  | [], _ => rfl
  | a :: A, h => by
    have h1 : ¬ a = c := fun e => h (by simp [e])
    have ih := ib_none (A := A) (fun e => h (List.mem_cons_of_mem _ e))
    show (if a == c then 0 else if Lib.indexByte A c == -1 then -1 else Lib.indexByte A c + 1) = _
    rw [ih, if_neg (by simpa using h1)]
    rfl
theorem run_fromI (t : ByteArray) (i : Nat) (z : Int) (hz : z = (i : Int)) (hi : i ≤ t.size) (w : World) :
    (Instr.slice 9 (.string t) (some (.int .i64 z)) none none).run Tryz.prog w = .ok (.string (t.extract i t.size)) w := by
  subst hz
  simp [Instr.slice, Instr.sliceBounds, Instr.sliceBound, asIntOf, run_underlying Tryz.underlying9, go_sem, hi]
theorem ofNat_high (n : Nat) (h : n < 64) : 128 ≤ (UInt8.ofNat (0x80 + n)).toNat := by
  rw [UInt8.toNat_ofNat']
  omega
theorem enc_cases (r : Nat) (h : 128 ≤ r) : (∃ x y : UInt8, Utf8.encode (r : Int) = ⟨#[x, y]⟩ ∧ 128 ≤ y.toNat) ∨ (∃ x y z : UInt8, Utf8.encode (r : Int) = ⟨#[x, y, z]⟩ ∧ 128 ≤ z.toNat) ∨ ∃ x y z v : UInt8, Utf8.encode (r : Int) = ⟨#[x, y, z, v]⟩ ∧ 128 ≤ v.toNat := by
  unfold Utf8.encode
  obtain ⟨c, hc⟩ : ∃ c, (if Utf8.valid (r : Int) = true then (r : Int).toNat else Utf8.runeError) = c := ⟨_, rfl⟩
  have hb : 128 ≤ c := by
    rw [← hc]
    split
    · simpa using h
    · decide
  simp only [hc]
  rw [if_neg (by omega)]
  split
  · exact .inl ⟨_, _, rfl, ofNat_high _ (Nat.mod_lt _ (by decide))⟩
  · split
    · exact .inr (.inl ⟨_, _, _, rfl, ofNat_high _ (Nat.mod_lt _ (by decide))⟩)
    · exact .inr (.inr ⟨_, _, _, _, rfl, ofNat_high _ (Nat.mod_lt _ (by decide))⟩)
set_option maxHeartbeats 4000000 in
theorem irune_err (w : World) :
    Calls Tryz.prog 175 #[.string nS, .int .i32 65533] w fun e w' => e = .returned (.int .i64 (-1)) ∧ Below w.heap.size w w' := by
  go_enter Tryz.func175, Tryz.ntmps175
  go_wp2_with fail
  go_loopg [5, 6] 5 (fun g _ _ wx => ∃ i : Nat, i + g = 5 ∧ wx = w.iter nS i)
  case atStart => exact ⟨0, by omega, rfl⟩
  case round =>
    obtain ⟨i, hig, rfl⟩ := hrel
    cases gk with
    | zero =>
      obtain rfl : i = 5 := by omega
      have hnx := fun ty => run_next_end (P := Tryz.prog) w nS 5 ty (by decide)
      go_wp2
      go_ret
      exact ⟨rfl, (Below.refl _ _).alloc (Nat.le_refl _) _⟩
    | succ g =>
      have hi : i < 5 := by omega
      match i, hi with
      | 0, _ =>
        have hnx := fun ty => run_next_ascii (P := Tryz.prog) w nS 0 ty (by decide) (by decide)
        go_wp2
        go_roundg g
        case measure => omega
        case rel => exact ⟨1, by omega, rfl⟩
      | 1, _ =>
        have hnx := fun ty => run_next_ascii (P := Tryz.prog) w nS 1 ty (by decide) (by decide)
        go_wp2
        go_roundg g
        case measure => omega
        case rel => exact ⟨2, by omega, rfl⟩
      | 2, _ =>
        have hnx := fun ty => run_next_ascii (P := Tryz.prog) w nS 2 ty (by decide) (by decide)
        go_wp2
        go_roundg g
        case measure => omega
        case rel => exact ⟨3, by omega, rfl⟩
      | 3, _ =>
        have hnx := fun ty => run_next_ascii (P := Tryz.prog) w nS 3 ty (by decide) (by decide)
        go_wp2
        go_roundg g
        case measure => omega
        case rel => exact ⟨4, by omega, rfl⟩
      | 4, _ =>
        have hnx := fun ty => run_next_ascii (P := Tryz.prog) w nS 4 ty (by decide) (by decide)
        go_wp2
        go_roundg g
        case measure => omega
        case rel => exact ⟨5, by omega, rfl⟩
set_option maxHeartbeats 4000000 in
theorem irune_bad (r : Nat) (h : 128 ≤ r) (he : r ≠ 65533) (hv : Lib.validRune (r : Int) = false) (w : World) :
    Calls Tryz.prog 175 #[.string nS, .int .i32 (r : Int)] w fun e w' => e = .returned (.int .i64 (-1)) ∧ Below w.heap.size w w' := by
  have n1 : ¬ (r : Int) < 128 := by omega
  have n2 : ¬ (r : Int) = 65533 := by omega
  have n3 : 0 ≤ (r : Int) := by omega
  have HV := hid (fun w => Tryz.utf8_ValidRune (r : Int) w)
  rw [hv] at HV
  clear hv
  go_enter Tryz.func175, Tryz.ntmps175
  go_wp2_with fail
  refine (HV.out _).mono ?_
  rintro e w1 ⟨rfl, rfl⟩
  go_wp2
  go_ret
  exact ⟨rfl, Below.refl _ _⟩
theorem ib_2 (y : UInt8) (h : 128 ≤ y.toNat) : Lib.indexByte [13, 10, 9] y = -1 := ib_none (by intro e; simp at e; rcases e with e | e | e <;> (rw [e] at h; exact absurd h (by decide)))
theorem run_r2 (w : World) : (Instr.slice 9 (.string nS) (some (.int .i64 2)) none none).run Tryz.prog w = .ok (.string ⟨#[13, 10, 9]⟩) w := by
  have h := run_fromI nS 2 2 rfl (by decide) w
  exact h
set_option maxHeartbeats 4000000 in
theorem irune_2 (r : Nat) (h : 128 ≤ r) (he : r ≠ 65533) (hv : Lib.validRune (r : Int) = true) (x y : UInt8) (hE : Utf8.encode (r : Int) = ⟨#[x, y]⟩) (hy : 128 ≤ y.toNat) (w : World) :
    Calls Tryz.prog 175 #[.string nS, .int .i32 (r : Int)] w fun e w' => e = .returned (.int .i64 (-1)) ∧ Below w.heap.size w w' := by
  have n1 : ¬ (r : Int) < 128 := by omega
  have n2 : ¬ (r : Int) = 65533 := by omega
  have n3 : 0 ≤ (r : Int) := by omega
  have HV := hid (fun w => Tryz.utf8_ValidRune (r : Int) w)
  rw [hv] at HV
  clear hv
  have HI := hid (fun w => Tryz.strings_IndexByte ⟨#[13, 10, 9]⟩ (y.toNat : Int) w)
  have e1 : ((y.toNat : Int)).toNat.toUInt8 = y := by simp
  rw [e1] at HI
  have e2 : Lib.indexByte (⟨#[13, 10, 9]⟩ : ByteArray).data.toList y = -1 := ib_2 y hy
  rw [e2] at HI
  have hn : ¬ (34 : Int) = (y.toNat : Int) := by omega
  have hn2 : ¬ (y.toNat : Int) = 34 := by omega
  have hb : ((34 : Int) == (y.toNat : Int)) = false := by rw [beq_eq_false_iff_ne]; exact hn
  have hne : (34 : UInt8) ≠ y := fun e => by rw [← e] at hy; exact absurd hy (by decide)
  have hnb : (((nS[1]'(by decide)).toNat : Int) != (((⟨#[x, y]⟩ : ByteArray)[1]'(by show 1 < 2; decide)).toNat : Int)) = true := by show ((34 : Int) != (y.toNat : Int)) = true; simp [hn]
  have q := run_r2
  clear e1 e2
  have hcv : ∀ w, (convert 21 9 (.int .i32 (r : Int))).run Tryz.prog w = .ok (.string ⟨#[x, y]⟩) w := fun w => by rw [← hE]; exact run_convert_int_string w _ _ _ _ (by kernel_rfl) Tryz.underlying9
  clear hE
  go_enter Tryz.func175, Tryz.ntmps175
  go_wp2_with fail
  refine (HV.out _).mono ?_
  rintro e w1 ⟨rfl, rfl⟩
  go_wp2_with fail
  go_step3
  go_wp2_with fail
  go_loopw [9] (fun i wr => i = .int .i64 1 ∧ wr = w1) (fun _ _ => 0)
  case atStart => exact ⟨rfl, rfl⟩
  case round =>
    obtain ⟨rfl, rfl⟩ := hrel
    go_wp2_with fail
    go_step3
    go_wp2_with fail
    go_quiet (fail)
    obtain ⟨wq, hwq⟩ : ∃ wq, wr.drewN nq = wq := ⟨_, rfl⟩
    have BQ := hid (show Below wr.heap.size wr wq by rw [← hwq]; exact below_drewN (Below.refl _ _) nq)
    rw [hwq]
    clear hwq nq
    go_wp2_with fail
    go_quiet ((go_at_call 209; exact Calls.quiet_of_same (HI.out _)))
    have BR := hid (BQ.out.trans ((below_drewN (Below.refl wq.heap.size wq) nq).mono BQ.out.size))
    go_wp2
    rw [Exit.noGoto_ret]
    go_wp2
    rw [Exit.noGoto_ret]
    go_wp2
    go_ret
    exact ⟨rfl, BR.out⟩
theorem ib_3 (y : UInt8) (h : 128 ≤ y.toNat) : Lib.indexByte [10, 9] y = -1 := ib_none (by intro e; simp at e; rcases e with e | e <;> (rw [e] at h; exact absurd h (by decide)))
theorem run_r3 (w : World) : (Instr.slice 9 (.string nS) (some (.int .i64 3)) none none).run Tryz.prog w = .ok (.string ⟨#[10, 9]⟩) w := by
  have h := run_fromI nS 3 3 rfl (by decide) w
  exact h
set_option maxHeartbeats 4000000 in
theorem irune_3 (r : Nat) (h : 128 ≤ r) (he : r ≠ 65533) (hv : Lib.validRune (r : Int) = true) (x y z : UInt8) (hE : Utf8.encode (r : Int) = ⟨#[x, y, z]⟩) (hy : 128 ≤ z.toNat) (w : World) :
    Calls Tryz.prog 175 #[.string nS, .int .i32 (r : Int)] w fun e w' => e = .returned (.int .i64 (-1)) ∧ Below w.heap.size w w' := by
  have n1 : ¬ (r : Int) < 128 := by omega
  have n2 : ¬ (r : Int) = 65533 := by omega
  have n3 : 0 ≤ (r : Int) := by omega
  have HV := hid (fun w => Tryz.utf8_ValidRune (r : Int) w)
  rw [hv] at HV
  clear hv
  have HI := hid (fun w => Tryz.strings_IndexByte ⟨#[10, 9]⟩ (z.toNat : Int) w)
  have e1 : ((z.toNat : Int)).toNat.toUInt8 = z := by simp
  rw [e1] at HI
  have e2 : Lib.indexByte (⟨#[10, 9]⟩ : ByteArray).data.toList z = -1 := ib_3 z hy
  rw [e2] at HI
  have hn : ¬ (13 : Int) = (z.toNat : Int) := by omega
  have hn2 : ¬ (z.toNat : Int) = 13 := by omega
  have hb : ((13 : Int) == (z.toNat : Int)) = false := by rw [beq_eq_false_iff_ne]; exact hn
  have hne : (13 : UInt8) ≠ z := fun e => by rw [← e] at hy; exact absurd hy (by decide)
  have hnb : (((nS[2]'(by decide)).toNat : Int) != (((⟨#[x, y, z]⟩ : ByteArray)[2]'(by show 2 < 3; decide)).toNat : Int)) = true := by show ((13 : Int) != (z.toNat : Int)) = true; simp [hn]
  have q := run_r3
  clear e1 e2
  have hcv : ∀ w, (convert 21 9 (.int .i32 (r : Int))).run Tryz.prog w = .ok (.string ⟨#[x, y, z]⟩) w := fun w => by rw [← hE]; exact run_convert_int_string w _ _ _ _ (by kernel_rfl) Tryz.underlying9
  clear hE
  go_enter Tryz.func175, Tryz.ntmps175
  go_wp2_with fail
  refine (HV.out _).mono ?_
  rintro e w1 ⟨rfl, rfl⟩
  go_wp2_with fail
  go_step3
  go_wp2_with fail
  go_loopw [9] (fun i wr => i = .int .i64 2 ∧ wr = w1) (fun _ _ => 0)
  case atStart => exact ⟨rfl, rfl⟩
  case round =>
    obtain ⟨rfl, rfl⟩ := hrel
    go_wp2_with fail
    go_step3
    go_wp2_with fail
    go_quiet (fail)
    obtain ⟨wq, hwq⟩ : ∃ wq, wr.drewN nq = wq := ⟨_, rfl⟩
    have BQ := hid (show Below wr.heap.size wr wq by rw [← hwq]; exact below_drewN (Below.refl _ _) nq)
    rw [hwq]
    clear hwq nq
    go_wp2_with fail
    go_quiet ((go_at_call 209; exact Calls.quiet_of_same (HI.out _)))
    have BR := hid (BQ.out.trans ((below_drewN (Below.refl wq.heap.size wq) nq).mono BQ.out.size))
    go_wp2
    rw [Exit.noGoto_ret]
    go_wp2
    rw [Exit.noGoto_ret]
    go_wp2
    go_ret
    exact ⟨rfl, BR.out⟩
theorem ib_4 (y : UInt8) (h : 128 ≤ y.toNat) : Lib.indexByte [9] y = -1 := ib_none (by intro e; simp at e; rcases e with e <;> (rw [e] at h; exact absurd h (by decide)))
theorem run_r4 (w : World) : (Instr.slice 9 (.string nS) (some (.int .i64 4)) none none).run Tryz.prog w = .ok (.string ⟨#[9]⟩) w := by
  have h := run_fromI nS 4 4 rfl (by decide) w
  exact h
set_option maxHeartbeats 4000000 in
theorem irune_4 (r : Nat) (h : 128 ≤ r) (he : r ≠ 65533) (hv : Lib.validRune (r : Int) = true) (x y z v : UInt8) (hE : Utf8.encode (r : Int) = ⟨#[x, y, z, v]⟩) (hy : 128 ≤ v.toNat) (w : World) :
    Calls Tryz.prog 175 #[.string nS, .int .i32 (r : Int)] w fun e w' => e = .returned (.int .i64 (-1)) ∧ Below w.heap.size w w' := by
  have n1 : ¬ (r : Int) < 128 := by omega
  have n2 : ¬ (r : Int) = 65533 := by omega
  have n3 : 0 ≤ (r : Int) := by omega
  have HV := hid (fun w => Tryz.utf8_ValidRune (r : Int) w)
  rw [hv] at HV
  clear hv
  have HI := hid (fun w => Tryz.strings_IndexByte ⟨#[9]⟩ (v.toNat : Int) w)
  have e1 : ((v.toNat : Int)).toNat.toUInt8 = v := by simp
  rw [e1] at HI
  have e2 : Lib.indexByte (⟨#[9]⟩ : ByteArray).data.toList v = -1 := ib_4 v hy
  rw [e2] at HI
  have hn : ¬ (10 : Int) = (v.toNat : Int) := by omega
  have hn2 : ¬ (v.toNat : Int) = 10 := by omega
  have hb : ((10 : Int) == (v.toNat : Int)) = false := by rw [beq_eq_false_iff_ne]; exact hn
  have hne : (10 : UInt8) ≠ v := fun e => by rw [← e] at hy; exact absurd hy (by decide)
  have hnb : (((nS[3]'(by decide)).toNat : Int) != (((⟨#[x, y, z, v]⟩ : ByteArray)[3]'(by show 3 < 4; decide)).toNat : Int)) = true := by show ((10 : Int) != (v.toNat : Int)) = true; simp [hn]
  have q := run_r4
  clear e1 e2
  have hcv : ∀ w, (convert 21 9 (.int .i32 (r : Int))).run Tryz.prog w = .ok (.string ⟨#[x, y, z, v]⟩) w := fun w => by rw [← hE]; exact run_convert_int_string w _ _ _ _ (by kernel_rfl) Tryz.underlying9
  clear hE
  go_enter Tryz.func175, Tryz.ntmps175
  go_wp2_with fail
  refine (HV.out _).mono ?_
  rintro e w1 ⟨rfl, rfl⟩
  go_wp2_with fail
  go_step3
  go_wp2_with fail
  go_loopw [9] (fun i wr => i = .int .i64 3 ∧ wr = w1) (fun _ _ => 0)
  case atStart => exact ⟨rfl, rfl⟩
  case round =>
    obtain ⟨rfl, rfl⟩ := hrel
    go_wp2_with fail
    go_step3
    go_wp2_with fail
    go_quiet (fail)
    obtain ⟨wq, hwq⟩ : ∃ wq, wr.drewN nq = wq := ⟨_, rfl⟩
    have BQ := hid (show Below wr.heap.size wr wq by rw [← hwq]; exact below_drewN (Below.refl _ _) nq)
    rw [hwq]
    clear hwq nq
    go_wp2_with fail
    go_quiet ((go_at_call 209; exact Calls.quiet_of_same (HI.out _)))
    have BR := hid (BQ.out.trans ((below_drewN (Below.refl wq.heap.size wq) nq).mono BQ.out.size))
    go_wp2
    rw [Exit.noGoto_ret]
    go_wp2
    rw [Exit.noGoto_ret]
    go_wp2
    go_ret
    exact ⟨rfl, BR.out⟩
theorem irune_any (r : Nat) (h : 128 ≤ r) (w : World) :
    Calls Tryz.prog 175 #[.string nS, .int .i32 (r : Int)] w fun e w' => e = .returned (.int .i64 (-1)) ∧ Below w.heap.size w w' := by
  by_cases he : r = 65533
  · subst he
    exact irune_err w
  cases hv : Lib.validRune (r : Int)
  · exact irune_bad r h he hv w
  · rcases enc_cases r h with ⟨x, y, hE, hy⟩ | ⟨x, y, z, hE, hz⟩ | ⟨x, y, z, v, hE, hv4⟩
    · exact irune_2 r h he hv x y hE hy w
    · exact irune_3 r h he hv x y z hE hz w
    · exact irune_4 r h he hv x y z v hE hv4 w
theorem below_iterAt {B : Nat} {w w' : World} (h : Below B w w') (k : Nat) (hk : B ≤ k) (s : ByteArray) (p : Nat) : Below B w (w'.iterAt k s p) :=
  ⟨h.os, h.tape, h.output, by rw [Lib.iterAt_size]; exact h.size, fun j hj => (Lib.iterAt_other w' k j s p (by omega)).trans (h.block j hj)⟩
/-- a byte of a rune that is no byte -/
def Hi (s : ByteArray) (j : Nat) : Prop := ∃ hj : j < s.size, 128 ≤ (s[j]'hj).toNat
theorem get_hi (s : ByteArray) (j : Nat) (hj : j < s.size) : s.get! j = s[j]'hj := by
  have := get_at s j hj
  simpa using this
theorem cont_hi {s : ByteArray} {j : Nat} (h : (decide (j < s.size) && ((s.get! j).toNat / 64 == 2)) = true) : Hi s j := by
  rw [Bool.and_eq_true] at h
  have hj : j < s.size := of_decide_eq_true h.1
  have h2 : (s.get! j).toNat / 64 = 2 := by simpa using h.2
  rw [get_hi s j hj] at h2
  exact ⟨hj, by omega⟩
theorem decode_cont (s : ByteArray) (i : Nat) (h : i < s.size) (ha : 128 ≤ (s[i]'h).toNat) : ∀ j, i ≤ j → j < i + (Utf8.decode s i).2 → Hi s j := by
  have h0 : Hi s i := ⟨h, ha⟩
  have key : (Utf8.decode s i).2 = 1 ∨ ((Utf8.decode s i).2 = 2 ∧ Hi s (i + 1)) ∨ ((Utf8.decode s i).2 = 3 ∧ Hi s (i + 1) ∧ Hi s (i + 2)) ∨ ((Utf8.decode s i).2 = 4 ∧ Hi s (i + 1) ∧ Hi s (i + 2) ∧ Hi s (i + 3)) := by
    unfold Utf8.decode
    simp only []
    split
    · exact .inl rfl
    · split
      · rename_i hc
        rw [Bool.and_eq_true] at hc
        split
        · exact .inr (.inl ⟨rfl, cont_hi hc.2⟩)
        · exact .inl rfl
      · split
        · rename_i hc
          rw [Bool.and_eq_true, Bool.and_eq_true] at hc
          split
          · exact .inr (.inr (.inl ⟨rfl, cont_hi hc.1.2, cont_hi hc.2⟩))
          · exact .inl rfl
        · split
          · rename_i hc
            rw [Bool.and_eq_true, Bool.and_eq_true, Bool.and_eq_true] at hc
            split
            · exact .inr (.inr (.inr ⟨rfl, cont_hi hc.1.1.2, cont_hi hc.1.2, cont_hi hc.2⟩))
            · exact .inl rfl
          · exact .inl rfl
  intro j h1 h2
  obtain ⟨k, rfl⟩ : ∃ k, j = i + k := ⟨j - i, by omega⟩
  have hk : k < (Utf8.decode s i).2 := by omega
  rcases key with e | ⟨e, a⟩ | ⟨e, a, b⟩ | ⟨e, a, b, c⟩
  · rw [e] at hk
    obtain rfl : k = 0 := by omega
    exact h0
  · rw [e] at hk
    match k, hk with
    | 0, _ => exact h0
    | 1, _ => exact a
  · rw [e] at hk
    match k, hk with
    | 0, _ => exact h0
    | 1, _ => exact a
    | 2, _ => exact b
  · rw [e] at hk
    match k, hk with
    | 0, _ => exact h0
    | 1, _ => exact a
    | 2, _ => exact b
    | 3, _ => exact c
theorem high_not (x : UInt8) (h : 128 ≤ x.toNat) : ([44, 34, 13, 10, 9] : List UInt8).contains x = false := by
  have n0 : ¬ x = 44 := fun e => by rw [e] at h; exact absurd h (by decide)
  have n1 : ¬ x = 34 := fun e => by rw [e] at h; exact absurd h (by decide)
  have n2 : ¬ x = 13 := fun e => by rw [e] at h; exact absurd h (by decide)
  have n3 : ¬ x = 10 := fun e => by rw [e] at h; exact absurd h (by decide)
  have n4 : ¬ x = 9 := fun e => by rw [e] at h; exact absurd h (by decide)
  simp [n0, n1, n2, n3, n4]
theorem noAny_on (s : ByteArray) (i n : Nat) (h : Lib.NoAny s.data.toList [44, 34, 13, 10, 9] i) (hc : ∀ j, i ≤ j → j < i + n → Hi s j) : Lib.NoAny s.data.toList [44, 34, 13, 10, 9] (i + n) := by
  intro j b hj hb
  by_cases hji : j < i
  · exact h j b hji hb
  · obtain ⟨hjs, hjb⟩ := hc j (by omega) hj
    have e : s.data.toList[j]? = some (s[j]'hjs) := Lib.data_getElem? s j hjs
    rw [e] at hb
    cases hb
    exact high_not _ hjb
set_option maxHeartbeats 8000000 in
theorem iany_short (s : ByteArray) (h8 : s.size ≤ 8) (w : World) :
    Calls Tryz.prog 153 #[.string s, .string nS] w fun e w' => e = .returned (.int .i64 (Lib.indexAny s.data.toList [44, 34, 13, 10, 9])) ∧ Below w.heap.size w w' := by
  have h8z : decide ((8 : Int) < (s.size : Int)) = false := decide_eq_false (by omega)
  have HU := hid (fun w => Tryz.strings_shouldUseASCIISet (s.size : Int) w)
  rw [h8z] at HU
  clear h8z
  go_enter Tryz.func153, Tryz.ntmps153
  go_wp2_with fail
  refine (HU.out _).mono ?_
  rintro e w1 ⟨rfl, rfl⟩
  go_wp2_with fail
  go_loopg [9, 10] s.size (fun g _ _ wx => ∃ i : Nat, i + g = s.size ∧ wx.heap[w1.heap.size]? = some (.stringIter s i) ∧ Below w1.heap.size w1 wx ∧ Lib.NoAny s.data.toList [44, 34, 13, 10, 9] i)
  case atStart => exact ⟨0, by omega, heap_alloc_new w1 (.stringIter s 0), (Below.refl _ _).alloc (Nat.le_refl _) _, Lib.NoAny.zero _ _⟩
  case round =>
    obtain ⟨i, hig, hit, hbl, hno⟩ := hrel
    have HN := hid hno
    have HB := hid hbl
    have HI := hid hit
    clear hno hbl hit
    cases gk with
    | zero =>
      obtain rfl : i = s.size := by omega
      have hnx := fun ty => Lib.run_next_end_at (P := Tryz.prog) wr w1.heap.size s s.size ty HI.out (by omega)
      go_wp2
      go_ret
      exact ⟨by rw [Lib.indexAny_none (by rw [← Lib.size_eq]; exact HN.out)]; rfl, HB.out⟩
    | succ g =>
      have hi : i < s.size := by omega
      obtain ⟨x, hx⟩ : ∃ x : UInt8, s[i]'hi = x := ⟨_, rfl⟩
      have hxl : s.data.toList[i]? = some x := by rw [← hx]; exact Lib.data_getElem? s i hi
      by_cases hx128 : x.toNat < 128
      · have hnx := fun ty => Lib.run_next_ascii_at (P := Tryz.prog) wr w1.heap.size s i ty HI.out hi (by rw [hx]; exact hx128)
        rw [hx] at hnx
        have HR := hid (fun w => Tryz.strings_IndexRune_ascii nS (x.toNat : Int) w (by omega) (by omega))
        have hback : ((x.toNat : Int)).toNat.toUInt8 = x := by simp
        rw [hback] at HR
        have hcon := Lib.contains_iff_indexByte [44, 34, 13, 10, 9] x
        have HX := hid hxl
        have I2 := hid (Lib.iterAt_heap wr w1.heap.size s i (i + 1) HI.out)
        have B2 := hid (below_iterAt HB.out w1.heap.size (Nat.le_refl _) s (i + 1))
        generalize wr.iterAt w1.heap.size s (i + 1) = w2 at *
        have ezs : nS.data.toList = [44, 34, 13, 10, 9] := rfl
        rw [ezs] at HR
        clear hxl hx hback HI HB ezs
        cases hin : ([44, 34, 13, 10, 9] : List UInt8).contains x
        · rw [hin] at hcon
          have hlt : ¬ ((0 : Int) ≤ Lib.indexByte [44, 34, 13, 10, 9] x) := of_decide_eq_false hcon.symm
          clear hcon
          generalize Lib.indexByte [44, 34, 13, 10, 9] x = v at *
          go_wp2_with fail
          refine (HR.out _).mono ?_
          rintro e w3 ⟨rfl, rfl⟩
          go_wp2
          go_roundg g
          case measure => omega
          case rel => exact ⟨i + 1, by omega, I2.out, B2.out, HN.out.succ HX.out hin⟩
        · rw [hin] at hcon
          have hge : (0 : Int) ≤ Lib.indexByte [44, 34, 13, 10, 9] x := of_decide_eq_true hcon.symm
          clear hcon
          generalize Lib.indexByte [44, 34, 13, 10, 9] x = v at *
          go_wp2_with fail
          refine (HR.out _).mono ?_
          rintro e w3 ⟨rfl, rfl⟩
          go_wp2
          go_ret
          exact ⟨by rw [Lib.indexAny_hit HN.out HX.out hin]; rfl, B2.out⟩
      · have ha : 128 ≤ (s[i]'hi).toNat := by rw [hx]; omega
        have hnx := fun ty => Lib.run_next_any_at (P := Tryz.prog) wr w1.heap.size s i ty HI.out hi
        obtain ⟨d1, d2⟩ := decode_high s i hi ha
        have hcn := decode_cont s i hi ha
        obtain ⟨hls, _⟩ := hcn (i + (Utf8.decode s i).2 - 1) (by omega) (by omega)
        have N2 := hid (noAny_on s i _ HN.out hcn)
        have I2 := hid (Lib.iterAt_heap wr w1.heap.size s i (i + (Utf8.decode s i).2) HI.out)
        have B2 := hid (below_iterAt HB.out w1.heap.size (Nat.le_refl _) s (i + (Utf8.decode s i).2))
        have HR := hid (fun w => irune_any (Utf8.decode s i).1 d1 w)
        generalize wr.iterAt w1.heap.size s (i + (Utf8.decode s i).2) = w2 at *
        generalize (Utf8.decode s i).1 = rn at *
        generalize (Utf8.decode s i).2 = wd at *
        clear hxl hx HI HB ha hcn HN
        go_wp2_with fail
        refine (HR.out _).mono ?_
        rintro e w3 ⟨rfl, hb3⟩
        have I3 := hid ((hb3.block w1.heap.size (Array.getElem?_eq_some_iff.1 I2.out).1).trans I2.out)
        have B3 := hid (B2.out.trans (hb3.mono B2.out.size))
        clear hb3 HR I2 B2
        go_wp2
        go_roundg (s.size - (i + wd))
        case measure => omega
        case rel => exact ⟨i + wd, by omega, I3.out, B3.out, N2.out⟩
theorem iany (s : ByteArray) (hs : s.size ≤ 4096) (w : World) :
    Calls Tryz.prog 153 #[.string s, .string nS] w fun e w' => e = .returned (.int .i64 (Lib.indexAny s.data.toList [44, 34, 13, 10, 9])) ∧ Below w.heap.size w w' := by
  by_cases h8 : s.size ≤ 8
  · exact iany_short s h8 w
  · refine (Tryz.strings_IndexAny_long (fun w => by kernel_rfl) s nS w (by decide) (by omega) (by omega) (by decide) (fun j b hb => by
      match j, hb with
      | 0, hb => cases hb; decide
      | 1, hb => cases hb; decide
      | 2, hb => cases hb; decide
      | 3, hb => cases hb; decide
      | 4, hb => cases hb; decide)).mono ?_
    rintro e w' ⟨rfl, rfl⟩
    exact ⟨rfl, ((Below.refl _ _).alloc (Nat.le_refl _) _).alloc (by simp) _⟩
theorem nq_in (c : UInt8) : ([44, 34, 13, 10, 9] : List UInt8).contains c = nqB c.toNat := by
  have key : ∀ n : Fin 256, ([44, 34, 13, 10, 9] : List UInt8).contains (UInt8.ofNat n.1) = nqB (UInt8.ofNat n.1).toNat := by decide +kernel
  have := key ⟨c.toNat, c.toNat_lt⟩
  simpa using this
theorem any_nq (l : List UInt8) : decide (0 ≤ Lib.indexAny l [44, 34, 13, 10, 9]) = l.any (fun c => nqB c.toNat) := by
  induction l with
  | nil => rfl
  | cons b l ih =>
    have hg := Lib.indexAny_ge [44, 34, 13, 10, 9] l
    rw [Lib.indexAny, List.any_cons, nq_in, ← ih]
    cases hb : nqB b.toNat
    · rw [if_neg (by decide), Bool.false_or]
      by_cases h1 : Lib.indexAny l [44, 34, 13, 10, 9] = -1
      · rw [h1]; rfl
      · rw [if_neg (by simpa using h1)]
        by_cases h0 : 0 ≤ Lib.indexAny l [44, 34, 13, 10, 9]
        · rw [decide_eq_true h0, decide_eq_true (by omega)]
        · omega
    · rw [if_pos rfl]; rfl
set_option maxHeartbeats 1000000 in
theorem cany (s : ByteArray) (hs : s.size ≤ 4096) (w : World) :
    Calls Tryz.prog 115 #[.string s, .string nS] w fun e w' => e = .returned (.bool (s.data.toList.any (fun c => nqB c.toNat))) ∧ Below w.heap.size w w' := by
  have HI := hid (iany s hs w)
  have hx := any_nq s.data.toList
  generalize s.data.toList.any (fun c => nqB c.toNat) = X at *
  generalize Lib.indexAny s.data.toList [44, 34, 13, 10, 9] = v at *
  go_enter Tryz.func115, Tryz.ntmps115
  go_wp2_with fail
  refine Calls.mono HI.out ?_
  rintro e w1 ⟨rfl, hb⟩
  cases X
  · have h0 : ¬ (0 : Int) ≤ v := of_decide_eq_false hx
    go_wp2
    go_ret
    exact ⟨rfl, hb⟩
  · have h0 : (0 : Int) ≤ v := of_decide_eq_true hx
    go_wp2
    go_ret
    exact ⟨rfl, hb⟩
end Go.Proofs.YtmgfdnccmeahjaaGreatDoor

namespace Go.Proofs.YtmgfdnccmeahjaaGreatDoor
open Go.RowKit
set_option maxRecDepth 100000
set_option linter.unusedVariables false
set_option linter.unusedSimpArgs false

theorem q34 (c : UInt8) : c = 34 ↔ c.toNat = 34 := ⟨fun h => by rw [h]; rfl, fun h => UInt8.toNat_inj.1 (by rw [h]; rfl)⟩
theorem dbl_none (l : List UInt8) (h : Lib.countByte l 34 = 0) : dbl l = l := by
  unfold Lib.countByte at h
  induction l with
  | nil => rfl
  | cons c t ih =>
    rw [List.count_cons] at h
    by_cases hc : c = 34
    · subst hc; simp at h
    · rw [dbl, if_neg (fun e => hc ((q34 c).2 e)), ih (by omega)]
theorem count_some (l : List UInt8) (k : Nat) (h : Lib.countByte l 34 = k + 1) : ∃ a r, l = a ++ 34 :: r ∧ dbl a = a ∧ Lib.indexByte l 34 = (a.length : Int) ∧ Lib.countByte r 34 = k := by
  unfold Lib.countByte at *
  induction l with
  | nil => simp at h
  | cons c t ih =>
    by_cases hc : c = 34
    · subst hc
      refine ⟨[], t, rfl, rfl, ?_, by simpa using h⟩
      unfold Lib.indexByte
      simp
    · rw [List.count_cons, if_neg (by simpa using hc), Nat.add_zero] at h
      obtain ⟨a, r, h1, h2, h3, h4⟩ := ih h
      refine ⟨c :: a, r, by rw [h1]; rfl, ?_, ?_, h4⟩
      · rw [dbl, if_neg (fun e => hc ((q34 c).2 e)), h2]
      · unfold Lib.indexByte
        rw [if_neg (by simpa using hc), h3, if_neg (by simp)]
        simp
theorem ext_list (s : ByteArray) (i j : Nat) : (s.extract i j).data.toList = (s.data.toList.take j).drop i := by
  rw [ByteArray.data_extract, Array.toList_extract, List.extract_eq_take_drop, List.drop_take]
theorem slice_mid (s : ByteArray) (i j : Nat) (y z : Int) (hy : y = (i : Int)) (hz : z = (j : Int)) (h1 : i ≤ j) (h2 : j ≤ s.size) (w : World) : (Instr.slice 9 (.string s) (some (.int .i64 y)) (some (.int .i64 z)) none).run Tryz.prog w = .ok (.string (s.extract i j)) w := by
  subst hy hz
  have := run_slice_string (P := Tryz.prog) w 9 s .i64 .i64 (i : Int) (j : Int) Tryz.underlying9 (by omega) (by omega) (by omega)
  rw [this]
  congr 3
set_option maxHeartbeats 800000 in
theorem replace_q (s : ByteArray) (hs : s.size ≤ 4096) (w : World) :
    Calls Tryz.prog 154 #[.string s, .string ⟨#[34]⟩, .string ⟨#[34, 34]⟩, .int .i64 (-1)] w fun e w' => e = .returned (.string ⟨(dbl s.data.toList).toArray⟩) ∧ Below w.heap.size w w' := by
  have hds : s.data.toList.length = s.size := by rw [Array.length_toList]; rfl
  have hcl : Lib.countByte s.data.toList 34 ≤ s.size := by rw [← hds]; exact List.count_le_length
  have HC := hid (fun w => Tryz.strings_Count_one s 34 w)
  have heq : ((⟨#[34]⟩ : ByteArray).toList == (⟨#[34, 34]⟩ : ByteArray).toList) = false := by rw [ByteArray.toList_eq, ByteArray.toList_eq]; rfl
  obtain ⟨m, hm⟩ : ∃ m, m = Lib.countByte s.data.toList 34 := ⟨_, rfl⟩
  rw [← hm] at HC hcl
  have HM := hid hm
  have HD := hid hds
  obtain ⟨X, hX⟩ : ∃ X : ByteArray, X = ⟨(dbl s.data.toList).toArray⟩ := ⟨_, rfl⟩
  rw [← hX]
  have HX := hid hX
  clear hm hds hX
  by_cases h0 : m = 0
  · have hx : X = s := by
      rw [HX.out, dbl_none _ (HM.out.symm.trans h0)]
    subst h0 hx
    go_enter Tryz.func154, Tryz.ntmps154
    go_wp2_with fail
    refine Calls.mono (HC.out _) ?_
    rintro e w1 ⟨rfl, hw⟩
    replace hw := hw.symm
    subst hw
    go_wp2
    go_ret
    exact ⟨rfl, Below.refl _ _⟩
  · have g0 : ¬ (m : Int) = 0 := by omega
    have b0 : ((m : Int) == 0) = false := by rw [beq_eq_false_iff_ne]; exact g0
    have HG := hid (Tryz.Builder_Grow_fresh w.heap.size w.heap.size (s.size + m) (w.alloc (.cells #[.pointer none, .slice none 0 0] 94)) (Nat.le_refl _) (heap_alloc_new w _) (by simp) (by omega))
    have hcast : ((s.size + m : Nat) : Int) = (s.size : Int) + (m : Int) := by omega
    rw [hcast] at HG
    clear hcast h0
    go_enter Tryz.func154, Tryz.ntmps154
    go_wp2_with fail
    refine Calls.mono (HC.out _) ?_
    rintro e w1 ⟨rfl, hw⟩
    replace hw := hw.symm
    subst hw
    go_wp2_with fail
    refine Calls.mono HG.out ?_
    rintro e w2 ⟨rfl, hb2, hl2⟩
    have HI2 := hid (show Isb w.heap.size w.heap.size [] w2 from .inr hb2)
    have HB2 := hid (show Below w.heap.size w w2 from ((Below.refl _ _).alloc (Nat.le_refl _) _).trans hl2)
    clear hb2 hl2 HG HC
    go_wp2_with fail
    go_loopw [53, 11] (fun t st wr => ∃ (k : Nat) (P l : List UInt8), k ≤ m ∧ t = .int .i64 (k : Int) ∧ s.data.toList = P ++ l ∧ st = .int .i64 (P.length : Int) ∧ Isb w.heap.size w.heap.size (dbl P) wr ∧ Below w.heap.size w wr ∧ Lib.countByte l 34 = m - k) (fun t _ _ => m - (intOf t).toNat)
    case atStart => exact ⟨0, [], s.data.toList, Nat.zero_le _, rfl, rfl, rfl, HI2.out, HB2.out, by rw [HM.out]; omega⟩
    case round =>
      obtain ⟨k, P, l, hk, rfl, hPl, rfl, hB, hBl, hct⟩ := hrel
      have hd := HD.out
      have hPL : P.length + l.length = s.size := by rw [← hd, hPl, List.length_append]
      have hdP := dbl_len P
      have HPl := hid hPl
      have hYl : (s.extract P.length s.size).data.toList = l := by
        rw [ext_list, hPl, List.take_of_length_le (by simp; omega), List.drop_left]
      have q1 := fun w => run_fromI s P.length (P.length : Int) rfl (by omega) w
      by_cases hlt : k < m
      · have hI : (k : Int) < (m : Int) := by omega
        obtain ⟨a, r, hl, ha, hix, hcr⟩ := count_some l (m - (k + 1)) (by omega)
        have hal : P.length + a.length + 1 + r.length = s.size := by rw [← hPL, hl]; simp; omega
        have hZl : (s.extract P.length (P.length + a.length)).data.toList = a := by
          rw [ext_list, hPl, hl, List.take_append, List.take_of_length_le (by omega), List.drop_left]
          simp
        have hZs : (s.extract P.length (P.length + a.length)).size = a.length := by rw [ByteArray.size_extract]; omega
        have q2 := fun w => slice_mid s P.length (P.length + a.length) (P.length : Int) ((P.length : Int) + (a.length : Int)) rfl (by omega) (by omega) (by omega) w
        have HIx := hid (fun w => Tryz.strings_Index_one (s.extract P.length s.size) 34 w)
        rw [hYl, hix] at HIx
        have HZl := hid hZl
        have HBI := hid hB
        have HBl := hid hBl
        have HN := hid (show s.data.toList = (P ++ a ++ [34]) ++ r by rw [hPl, hl]; simp)
        have HDb := hid (show dbl (P ++ a ++ [34]) = dbl P ++ a ++ [34, 34] by rw [dbl_app, dbl_app, ha]; rfl)
        have HCr := hid hcr
        have hp1 : (P.length : Int) + (a.length : Int) ≤ 4096 := by omega
        have hsz := hBl.size
        generalize s.extract P.length s.size = Y at *
        generalize s.extract P.length (P.length + a.length) = Z at *
        clear hPl hYl hl ha hix hcr hct hZl hd hB hBl hPL
        go_wp2_with fail
        refine Calls.mono (HIx.out _) ?_
        rintro e w3 ⟨rfl, hw⟩
        replace hw := hw.symm
        subst hw
        go_wp2_with fail
        refine Calls.mono (wStrb w.heap.size w.heap.size (dbl P) Z _ HBI.out (by omega) hsz) ?_
        rintro e w4 ⟨rfl, hb4, hl4⟩
        rw [HZl.out] at hb4
        have HB4 := hid hb4
        have HL4 := hid (HBl.out.trans hl4)
        have hsz4 := HL4.out.size
        clear hb4 hl4
        go_wp2_with fail
        refine Calls.mono (wStrb w.heap.size w.heap.size (dbl P ++ a) ⟨#[34, 34]⟩ _ HB4.out (by have h2 : (⟨#[34, 34]⟩ : ByteArray).size = 2 := rfl; rw [h2, List.length_append]; omega) hsz4) ?_
        rintro e w5 ⟨rfl, hb5, hl5⟩
        have HB5 := hid hb5
        have HL5 := hid (HL4.out.trans hl5)
        clear hb5 hl5
        go_wp2
        go_roundw
        case rel =>
          refine ⟨k + 1, P ++ a ++ [34], r, by omega, by go_num, HN.out, ?_, ?_, HL5.out, HCr.out⟩
          · have e3 : (P ++ a ++ [34]).length = P.length + a.length + 1 := by simp; omega
            rw [e3]
            rfl
          · rw [HDb.out]
            exact HB5.out
        case measure => simp [intOf]; omega
      · have hI : ¬ (k : Int) < (m : Int) := by omega
        have hx : X = ⟨(dbl P ++ l).toArray⟩ := by
          rw [HX.out, hPl, dbl_app, dbl_none l (by omega)]
        have hYs : (s.extract P.length s.size).size = l.length := by rw [ByteArray.size_extract]; omega
        have HYl := hid hYl
        have HBI := hid hB
        have HBl := hid hBl
        have hsz := hBl.size
        have hsz2 : (dbl P).length + l.length ≤ 10000 := by omega
        generalize s.extract P.length s.size = Y at *
        subst hx
        clear hPl hYl hct hd hB hBl HX hPL
        go_wp2_with fail
        refine Calls.mono (wStrb w.heap.size w.heap.size (dbl P) Y _ HBI.out (by omega) hsz) ?_
        rintro e w4 ⟨rfl, hb4, hl4⟩
        rw [HYl.out] at hb4
        have HB4 := hid hb4
        have HL4 := hid (HBl.out.trans hl4)
        have hsz4 := HL4.out.size
        clear hb4 hl4
        go_wp2_with fail
        refine Calls.mono (strb w.heap.size w.heap.size (dbl P ++ l) _ HB4.out hsz4) ?_
        rintro e w5 ⟨rfl, hl5⟩
        have HL5 := hid (HL4.out.trans hl5)
        clear hl5
        go_wp2
        go_ret
        exact ⟨rfl, HL5.out⟩
set_option maxHeartbeats 1000000 in
theorem replaceAll_q (s : ByteArray) (hs : s.size ≤ 4096) (w : World) :
    Calls Tryz.prog 116 #[.string s, .string ⟨#[34]⟩, .string ⟨#[34, 34]⟩] w fun e w' => e = .returned (.string ⟨(dbl s.data.toList).toArray⟩) ∧ Below w.heap.size w w' := by
  have H := hid (replace_q s hs w)
  go_enter Tryz.func116, Tryz.ntmps116
  go_wp2_with fail
  refine Calls.mono H.out ?_
  rintro e w1 ⟨rfl, hb⟩
  go_wp2
  go_ret
  exact ⟨rfl, hb⟩
end Go.Proofs.YtmgfdnccmeahjaaGreatDoor

namespace Go.Proofs.YtmgfdnccmeahjaaGreatDoor
open Go.RowKit
set_option maxRecDepth 100000
set_option linter.unusedVariables false
set_option linter.unusedSimpArgs false

set_option maxHeartbeats 2000000 in
theorem writeCell_any (B b : Nat) (l : List UInt8) (s : ByteArray) (w : World) (h : Isg B b l w) (hl : l.length ≤ 100000000) (hs : s.size ≤ 4096) (hBw : B ≤ w.heap.size) :
    Calls Tryz.prog 84 #[.pointer (some ⟨b, 0, none⟩), .string s] w fun e w' => e = .returned (.tuple #[]) ∧ Isg B b (l ++ pcl s.data.toList) w' ∧ Below B w w' := by
  have hds : s.data.toList.length = s.size := by rw [Array.length_toList]; rfl
  have hdl := dbl_len s.data.toList
  rw [hds] at hdl
  have HC := hid (cany s hs w)
  have HI := hid h
  obtain ⟨X, hX⟩ : ∃ X, X = pcl s.data.toList := ⟨_, rfl⟩
  rw [← hX]
  have HX := hid hX
  clear h hX hds
  cases hq : s.data.toList.any (fun c => nqB c.toNat)
  · rw [hq] at HC
    have hx : X = s.data.toList := by rw [HX.out]; unfold pcl; rw [if_neg (by rw [hq]; decide)]
    subst hx
    clear hq HX
    go_enter Tryz.func84, Tryz.ntmps84
    go_wp2_with fail
    refine Calls.mono HC.out ?_
    rintro e w1 ⟨rfl, hb1⟩
    have HI1 := hid (HI.out.kept hb1)
    have HB1 := hid (hb1.mono hBw)
    have hz1 : B ≤ w1.heap.size := Nat.le_trans hBw hb1.size
    clear hb1
    go_wp2_with fail
    refine Calls.mono (wStrg B b l s _ HI1.out (by omega) hz1) ?_
    rintro e w2 ⟨rfl, hi2, hb2⟩
    have HI2 := hid hi2
    have HB2 := hid (HB1.out.trans hb2)
    clear hi2 hb2
    go_wp2
    refine bodyPost_ret (by simp [results, Tryz.results84, go_sem]; try rfl) rfl ?_
    exact ⟨rfl, HI2.out, HB2.out⟩
  · rw [hq] at HC
    have hx : X = [34] ++ (dbl s.data.toList ++ [34]) := by rw [HX.out]; unfold pcl; rw [if_pos hq]; rfl
    have HR := hid (fun w => replaceAll_q s hs w)
    obtain ⟨D, hD⟩ : ∃ D, D = dbl s.data.toList := ⟨_, rfl⟩
    rw [← hD] at hx hdl HR
    have hDs : (⟨D.toArray⟩ : ByteArray).size = D.length := by simp [ByteArray.size]
    have hDl : (⟨D.toArray⟩ : ByteArray).data.toList = D := by simp
    subst hx
    clear hq HX hD
    go_enter Tryz.func84, Tryz.ntmps84
    go_wp2_with fail
    refine Calls.mono HC.out ?_
    rintro e w1 ⟨rfl, hb1⟩
    have HI1 := hid (HI.out.kept hb1)
    have HB1 := hid (hb1.mono hBw)
    have hz1 : B ≤ w1.heap.size := Nat.le_trans hBw hb1.size
    clear hb1
    go_wp2_with fail
    refine Calls.mono (wByteg B b l 34 34 _ HI1.out rfl (by omega) hz1) ?_
    rintro e w2 ⟨rfl, hi2, hb2⟩
    have HI2 := hid hi2
    have HB2 := hid (HB1.out.trans hb2)
    have hz2 : B ≤ w2.heap.size := Nat.le_trans hz1 hb2.size
    clear hi2 hb2
    have HRd := hid (HR.out w2.drew)
    have HI2d := hid (show Isg B b (l ++ [34]) w2.drew from HI2.out)
    go_wp2_with fail
    go_region_with (first | (go_at_call 116; refine Calls.mono HRd.out ?_; rintro e w3 ⟨rfl, hb3⟩; have HI3 := hid (HI2d.out.kept hb3); have HB3 := hid (HB2.out.drew.trans (hb3.mono hz2)); have hz3 : B ≤ w3.heap.size := (Nat.le_trans hz2 hb3.size); clear hb3) | (go_at_call 85; refine Calls.mono (wStrg B b (l ++ [34]) ⟨D.toArray⟩ _ HI3.out (by rw [hDs]; simp; omega) hz3) ?_; rintro e w4 ⟨rfl, hi4, hb4⟩; have HI4 := hid hi4; have HB4 := hid (HB3.out.trans hb4); have hz4 : B ≤ w4.heap.size := (Nat.le_trans hz3 hb4.size); clear hi4 hb4))
    all_goals
      go_wp2_with fail
      refine Calls.mono (wByteg B b (l ++ [34] ++ D) 34 34 _ HI4.out rfl (by simp; omega) hz4) ?_
      rintro e w5 ⟨rfl, hi5, hb5⟩
      have HI5 := hid hi5
      have HB5 := hid (HB4.out.trans hb5)
      clear hi5 hb5
      go_wp2
      go_end0
      refine ⟨rfl, ?_, HB5.out⟩
      have := HI5.out
      simpa using this
theorem pcl_len (T : List UInt8) (h : T.length ≤ 4096) : (pcl T).length ≤ 8194 := by
  unfold pcl
  have := dbl_len T
  split
  · simp; omega
  · omega
theorem pcs_len (cs : List (List UInt8)) (h : ∀ T ∈ cs, okC T) : (pcs cs).length ≤ cs.length * 8195 := by
  cases cs with
  | nil => simp [pcs]
  | cons T r =>
    have h1 := pcl_len T (h T (by simp)).1
    have h2 : (r.flatMap (fun U => 44 :: pcl U)).length ≤ r.length * 8195 := by
      have hr : ∀ U ∈ r, okC U := fun U hU => h U (by simp [hU])
      clear h h1
      induction r with
      | nil => simp
      | cons U r ih =>
        have h3 := pcl_len U (hr U (by simp)).1
        have := ih (fun V hV => hr V (by simp [hV]))
        simp at this ⊢
        omega
    rw [pcs, List.length_append, List.length_cons]
    omega
set_option maxHeartbeats 2000000 in
theorem writeRow_any (w0 : World) (b : Nat) (l : List UInt8) (v : Value) (cs : List (List UInt8)) (w : World) (hT : Tx w0 v cs) (hb : Below w0.heap.size w0 w) (h : Isg w0.heap.size b l w) (hl : l.length ≤ 10000000) (hc : ∀ T ∈ cs, okC T) (h64 : cs.length ≤ 64) :
    Calls Tryz.prog 37 #[.pointer (some ⟨b, 0, none⟩), v] w fun e w' => e = .returned (.tuple #[]) ∧ Isg w0.heap.size b (l ++ prw cs) w' ∧ Below w0.heap.size w0 w' := by
  have HT := hid hT
  have HI := hid h
  have HB := hid hb
  have HC := hid hc
  obtain ⟨ao, cap, rfl⟩ := hT.form
  clear hT h hb hc
  go_enter Tryz.func37, Tryz.ntmps37
  go_wp2_with fail
  go_loopw [8] (fun i wr => ∃ k : Nat, k ≤ cs.length ∧ i = .int .i64 (k : Int) ∧ Isg w0.heap.size b (l ++ pcs (cs.take k)) wr ∧ Below w0.heap.size w0 wr) (fun i _ => cs.length - (intOf i).toNat)
  case atStart => exact ⟨0, by omega, rfl, by simpa [pcs] using HI.out, HB.out⟩
  case round =>
    obtain ⟨k, hk, rfl, hi, hbl⟩ := hrel
    have hpl : (l ++ pcs (cs.take k)).length ≤ 10000000 + 64 * 8195 := by
      have h1 := pcs_len (cs.take k) (fun T hT => HC.out T (List.mem_of_mem_take hT))
      have h2 : (cs.take k).length ≤ 64 := by simp; omega
      rw [List.length_append]
      have h3 : (cs.take k).length * 8195 ≤ 64 * 8195 := Nat.mul_le_mul_right _ h2
      omega
    have hz := hbl.size
    by_cases hlt : k < cs.length
    · have hI : (k : Int) < (cs.length : Int) := by omega
      obtain ⟨g, off, c, e1, hcp, c0⟩ := (HT.out.below hbl).at k hlt
      cases e1
      have hok : okC cs[k] := HC.out _ (List.getElem_mem hlt)
      obtain ⟨X, hX⟩ : ∃ X, X = cs[k]'hlt := ⟨_, rfl⟩
      rw [← hX] at c0 hok
      have hXs : (⟨X.toArray⟩ : ByteArray).size ≤ 4096 := by have := hok.1; simpa [ByteArray.size] using this
      have hXl : (⟨X.toArray⟩ : ByteArray).data.toList = X := rfl
      have htk : cs.take (k + 1) = cs.take k ++ [X] := by rw [hX]; exact List.take_succ_eq_append_getElem hlt
      have HI2 := hid hi
      have HBL := hid hbl
      by_cases h0 : k = 0
      · have g0 : ¬ (0 : Int) < (k : Int) := by omega
        have hN : l ++ pcs (cs.take (k + 1)) = l ++ pcl X := by rw [htk, h0]; simp [pcs]
        have hl0 : l ++ pcs (cs.take k) = l := by rw [h0]; simp [pcs]
        rw [hl0] at HI2
        have HN := hid hN
        clear hX htk hok hi hbl hpl hN hl0 h0
        go_wp2_with fail
        refine Calls.mono (writeCell_any w0.heap.size b l ⟨X.toArray⟩ _ HI2.out (by omega) hXs hz) ?_
        rintro e w2 ⟨rfl, hi2, hb2⟩
        have HI3 := hid hi2
        have HB3 := hid (HBL.out.trans hb2)
        clear hi2 hb2
        go_wp2
        go_roundw
        case rel => exact ⟨k + 1, by omega, by go_num, by rw [HN.out]; exact HI3.out, HB3.out⟩
        case measure => simp [intOf]; omega
      · have g0 : (0 : Int) < (k : Int) := by omega
        obtain ⟨M, hM⟩ : ∃ M, M = l ++ pcs (cs.take k) := ⟨_, rfl⟩
        have hN : l ++ pcs (cs.take (k + 1)) = M ++ [44] ++ pcl X := by
          rw [htk, pcs_snoc _ _ (by intro e; have h9 := congrArg List.length e; rw [List.length_take, List.length_nil] at h9; omega), hM]
          simp
        have HN := hid hN
        have hM1 : M.length ≤ 90000000 := by rw [hM]; omega
        rw [← hM] at HI2
        clear hX htk hok hi hbl hN h0 hM hpl
        go_wp2_with fail
        refine Calls.mono (wByteg w0.heap.size b M 44 44 _ HI2.out rfl (by omega) hz) ?_
        rintro e w2 ⟨rfl, hi2, hb2⟩
        have HI3 := hid hi2
        have HB3 := hid (HBL.out.trans hb2)
        have hz2 := HB3.out.size
        clear hi2 hb2
        go_wp2_with fail
        refine Calls.mono (writeCell_any w0.heap.size b (M ++ [44]) ⟨X.toArray⟩ _ HI3.out (by simp; omega) hXs hz2) ?_
        rintro e w3 ⟨rfl, hi3, hb3⟩
        have HI4 := hid hi3
        have HB4 := hid (HB3.out.trans hb3)
        clear hi3 hb3
        go_wp2
        go_roundw
        case rel => exact ⟨k + 1, by omega, by go_num, by rw [HN.out]; exact HI4.out, HB4.out⟩
        case measure => simp [intOf]; omega
    · have hI : ¬ (k : Int) < (cs.length : Int) := by omega
      have htk : cs.take k = cs := List.take_of_length_le (by omega)
      rw [htk] at hi hpl
      have HI2 := hid hi
      have HBL := hid hbl
      clear hi hbl htk
      go_wp2_with fail
      refine Calls.mono (wStrg w0.heap.size b (l ++ pcs cs) ⟨#[13, 10]⟩ _ HI2.out (by have h2 : (⟨#[13, 10]⟩ : ByteArray).size = 2 := rfl; rw [h2]; omega) hz) ?_
      rintro e w2 ⟨rfl, hi2, hb2⟩
      have HI3 := hid hi2
      have HB3 := hid (HBL.out.trans hb2)
      clear hi2 hb2
      go_wp2
      go_end0
      refine ⟨rfl, ?_, HB3.out⟩
      have := HI3.out
      simpa [prw] using this
/-- what Print answers -/
def PrR (A : Nat → Addr) (w' : World) (R : List (List (List UInt8))) (sv ev : Value) : Prop :=
  ((rck (R.headD []).length R 0).1 ≠ 0 ∧ sv = .string ⟨#[]⟩ ∧ FT A w' ev (rck (R.headD []).length R 0).1 ((rck (R.headD []).length R 0).2.1, (rck (R.headD []).length R 0).2.2))
  ∨ (okR R ∧ 262144 < (prt R).length ∧ sv = .string ⟨#[]⟩ ∧ FT A w' ev 20 (0, 0))
  ∨ (okR R ∧ (prt R).length ≤ 262144 ∧ sv = .string ⟨(prt R).toArray⟩ ∧ ev = .nilIface)
theorem prt_take (R : List (List (List UInt8))) (k : Nat) : (prt (R.take k)).length ≤ (prt R).length := by
  have : prt R = prt (R.take k) ++ prt (R.drop k) := by
    unfold prt
    rw [← List.flatMap_append, List.take_append_drop]
  rw [this, List.length_append]
  omega
theorem rck_is {R : List (List (List UInt8))} (h : (rck (R.headD []).length R 0).1 = 0) : okR R := by
  have := (rck_ok (n := (R.headD []).length) (R := R) 0 (.inr (by omega))).1 h
  exact ⟨by omega, this.2⟩
set_option maxHeartbeats 4000000 in
theorem print_any (A : Nat → Addr) (v : Value) (R : List (List (List UInt8))) (w : World) (hE : HE A w) (hT : ErT w) (hr : Rw w v R) :
    Calls Tryz.prog 11 #[v] w fun e w' => ∃ sv ev, e = .returned (.tuple #[sv, ev]) ∧ PrR A w' R sv ev ∧ Below w.heap.size w w' := by
  have HK := hid (checkRows_any A v R w hE hT hr)
  have HE := hid hE
  have HR := hid hr
  have hl := hr.len
  obtain ⟨ao, cap, rfl⟩ := hr.form
  clear hE hT hr
  go_enter Tryz.func11, Tryz.ntmps11
  go_wp2_with fail
  refine Calls.mono HK.out ?_
  rintro e w1 ⟨ev, rfl, hf, hb, hsame⟩
  by_cases hq : (rck (R.headD []).length R 0).1 = 0
  · have hok := rck_is hq
    replace hsame := (hsame hq).symm
    subst hsame
    rcases hf with ⟨_, rfl⟩ | ⟨hne, _⟩
    · have HO := hid hok
      clear hq hb
      have HI0 := hid (freshg w)
      have HB0 := hid (show Below w.heap.size w (w.alloc (.cells #[.pointer none, .slice none 0 0] 96)) from (Below.refl _ _).alloc (Nat.le_refl _) _)
      have hEl := HE.out.e20
      clear hok
      go_wp2_with fail
      generalize (w.alloc (.cells #[.pointer none, .slice none 0 0] 96)) = wp at *
      go_loopw [15] (fun i wr => ∃ k : Nat, k ≤ R.length ∧ i = .int .i64 (k : Int) ∧ Isg w.heap.size w.heap.size (prt (R.take k)) wr ∧ Below w.heap.size w wr ∧ (prt (R.take k)).length ≤ 262144) (fun i _ => R.length - (intOf i).toNat)
      case atStart => exact ⟨0, by omega, rfl, by simpa [prt] using HI0.out, HB0.out, by simp [prt]⟩
      case round =>
        obtain ⟨k, hk, rfl, hi, hbl, hpl⟩ := hrel
        by_cases hlt : k < R.length
        · have hI : (k : Int) < (R.length : Int) := by omega
          obtain ⟨g, off, c, u, e1, hcp, c0, t0⟩ := (HR.out.below hbl).at k hlt
          cases e1
          obtain ⟨g2, off2, c2, u2, e2, hcp2, c20, t2⟩ := HR.out.at k hlt
          have hbl' := hbl
          cases e2
          have hu : u = u2 := by
            have := cellB hbl c20
            rw [c0] at this
            exact Option.some.inj this
          subst hu
          have hcs := HO.out.2 _ (List.getElem_mem hlt)
          have HW := hid (writeRow_any w w.heap.size (prt (R.take k)) u _ wr t2 hbl hi (by omega) hcs.2.2.2 hcs.2.1)
          have htk : prt (R.take (k + 1)) = prt (R.take k) ++ prw (R[k]'hlt) := by
            rw [List.take_succ_eq_append_getElem hlt, prt_snoc]
          rw [← htk] at HW
          obtain ⟨ua, uc, rfl⟩ := t0.form
          clear t0 t2 hbl hbl' hi hcs htk c20
          have HPT := hid (prt_take R (k + 1))
          obtain ⟨M, hM⟩ : ∃ M, M = prt (R.take (k + 1)) := ⟨_, rfl⟩
          rw [← hM] at HW HPT
          have HM := hid hM
          clear hM
          go_wp2_with fail
          refine Calls.mono HW.out ?_
          rintro e w2 ⟨rfl, hi2, hb2⟩
          have HI2 := hid hi2
          have HB2 := hid hb2
          have HL := hid (leng w.heap.size w.heap.size M w2 hi2)
          clear hi2 hb2
          go_wp2_with fail
          refine Calls.mono HL.out ?_
          rintro e w3 ⟨rfl, hw⟩
          replace hw := hw.symm
          subst hw
          by_cases hbig : 262144 < M.length
          · have hbI : (262144 : Int) < (M.length : Int) := by omega
            have hE2 : w2.drew.cell? ⟨0, 0, none⟩ = some (.iface 312 (.pointer (some (A 20)))) := (HE.out.grown HB2.out).e20
            have HBg := hid hbig
            clear hbig
            go_wp2_with fail
            go_region
            all_goals
              go_wp2
              go_ret2
              refine ⟨_, _, rfl, .inr (.inl ⟨HO.out, by have := HPT.out; have := HBg.out; omega, rfl, .inr ⟨by decide, _, rfl, ?_⟩⟩), ?_⟩
              · exact heap_alloc_new w2 _
              · exact (HB2.out.alloc HB2.out.size _).drew
          · have hbI : ¬ (262144 : Int) < (M.length : Int) := by omega
            have HBg := hid hbig
            clear hbig
            go_wp2
            go_roundw
            case rel =>
              refine ⟨k + 1, by omega, by go_num, ?_, HB2.out, ?_⟩
              · rw [← HM.out]; exact HI2.out
              · rw [← HM.out]; have := HBg.out; omega
            case measure => simp [intOf]; omega
        · have hI : ¬ (k : Int) < (R.length : Int) := by omega
          have htk : R.take k = R := List.take_of_length_le (by omega)
          rw [htk] at hi hpl
          have HS := hid (strg w.heap.size w.heap.size (prt R) wr hi hbl.size)
          have HBL := hid hbl
          have HP := hid hpl
          clear htk hi hbl hpl
          go_wp2_with fail
          refine Calls.mono HS.out ?_
          rintro e w2 ⟨rfl, hb2⟩
          have HB2 := hid (HBL.out.trans hb2)
          clear hb2
          go_wp2
          go_ret2
          exact ⟨_, _, rfl, .inr (.inr ⟨HO.out, HP.out, rfl, rfl⟩), HB2.out⟩
    · exact absurd hq hne
  · rcases hf with ⟨hz, _⟩ | ⟨hne, f, rfl, hh⟩
    · exact absurd hz hq
    · have HQ := hid hq
      have HH := hid hh
      have HB := hid hb
      clear hq hh hb hne hsame
      go_wp2
      go_ret2
      exact ⟨_, _, rfl, .inl ⟨HQ.out, rfl, .inr ⟨HQ.out, f, rfl, HH.out⟩⟩, HB.out⟩
end Go.Proofs.YtmgfdnccmeahjaaGreatDoor

namespace Go.Proofs.YtmgfdnccmeahjaaGreatDoor
open Go.RowKit
set_option maxRecDepth 100000
set_option linter.unusedVariables false
set_option linter.unusedSimpArgs false

theorem strCells_is (l : List UInt8) : Lib.strCells ⟨l.toArray⟩ = Lib.byteCells l := by
  simp [Lib.strCells, Lib.byteCells]
theorem pcs_pre (cs : List (List UInt8)) (j : Nat) : (pcs (cs.take j)).length ≤ (pcs cs).length := by
  cases cs with
  | nil => simp
  | cons T r =>
    cases j with
    | zero => simp [pcs]
    | succ j =>
      rw [List.take_succ_cons, pcs, pcs]
      have e : r.flatMap (fun U => 44 :: pcl U) = (r.take j).flatMap (fun U => 44 :: pcl U) ++ (r.drop j).flatMap (fun U => 44 :: pcl U) := by rw [← List.flatMap_append, List.take_append_drop]
      rw [e]
      simp only [List.length_append]
      omega
theorem prt_pre (R : List (List (List UInt8))) (i j : Nat) (hi : i < R.length) : (prt (R.take i) ++ pcs (R[i].take j)).length ≤ (prt R).length := by
  have h1 : prt (R.take (i + 1)) = prt (R.take i) ++ prw R[i] := by
    rw [List.take_add_one, List.getElem?_eq_getElem hi]
    exact prt_snoc _ _
  have h2 := prt_take R (i + 1)
  rw [h1] at h2
  have h3 := pcs_pre R[i] j
  simp only [List.length_append, prw] at h2 ⊢
  omega
theorem pcs_up (cs : List (List UInt8)) (j : Nat) (h : j < cs.length) : pcs (cs.take (j + 1)) = pcs (cs.take j) ++ (if j = 0 then [] else [44]) ++ pcl cs[j] := by
  rw [List.take_add_one, List.getElem?_eq_getElem h]
  by_cases h0 : j = 0
  · subst h0
    simp [pcs]
  · rw [if_neg h0, show (some cs[j]).toList = [cs[j]] from rfl, pcs_snoc _ _ (by intro e; have := congrArg List.length e; rw [List.length_take] at this; simp only [List.length_nil] at this; omega)]
    simp
/-- append of a text, kept whole -/
def appS (a : Array Value) : Sem Value := Builtin.append_ #[92, 9] 92 a
theorem appS_op (a : Array Value) : Builtin.append_ #[92, 9] 92 a = appS a := rfl
attribute [local go_sem ↓] appS_op
/-- what text answers -/
def TxA (R : List (List (List UInt8))) (t : List UInt8) : Prop := t = prt R ∨ (262144 < t.length ∧ 262144 < (prt R).length)
def TxR (w : World) (R : List (List (List UInt8))) (e : Ending) (w' : World) : Prop := ∃ tv t, e = .returned tv ∧ w'.ownsRow w.heap.size 5 1 tv t.length (Lib.byteCells t) ∧ TxA R t ∧ t.length ≤ 300000 ∧ Below w.heap.size w w'
set_option maxHeartbeats 12000000 in
theorem text_any (v : Value) (R : List (List (List UInt8))) (w : World) (hr : Rw w v R) (hc : ∀ cs ∈ R, ∀ T ∈ cs, okC T) :
    Calls Tryz.prog 101 #[v] w fun e w' => TxR w R e w' := by
  have HR := hid hr
  have hRl := hr.len
  have HC := hid hc
  obtain ⟨ra, rc, rfl⟩ := hr.form
  have HWr := hid (fun (s : ByteArray) wx (h : s.size ≤ 4096) => written_any s wx h)
  clear hr hc
  go_enter Tryz.func101, Tryz.ntmps101
  go_wp2_with fail
  go_loopw [3, 4] (fun tv j wr => ∃ (i : Nat) (t : List UInt8), i ≤ R.length ∧ j = .int .i64 (i : Int) ∧ wr.ownsRow w.heap.size 5 1 tv t.length (Lib.byteCells t) ∧ (t = prt (R.take i) ∨ (262144 < t.length ∧ 262144 < (prt R).length)) ∧ t.length ≤ 300000 ∧ Below w.heap.size w wr) (fun _ j _ => R.length - (intOf j).toNat)
  case atStart => exact ⟨0, [], Nat.zero_le _, rfl, World.ownsRow_nil _ _ _ _, .inl rfl, by simp, Below.refl _ _⟩
  case round =>
    obtain ⟨i, t, hi, rfl, hown, ht, htl, hbl⟩ := hrel
    obtain ⟨ta, tc, rfl⟩ := own_slice hown
    have HO := hid hown
    have HB := hid hbl
    have HT := hid ht
    clear hown hbl ht
    by_cases hlt : i < R.length ∧ t.length ≤ 262144
    · have hI : (i : Int) < (R.length : Int) := by omega
      have hS : (t.length : Int) ≤ 262144 := by omega
      have dS : decide ((t.length : Int) ≤ 262144) = true := decide_eq_true hS
      have HT1 := hid (show t = prt (R.take i) by rcases HT.out with h | ⟨h, _⟩; exact h; omega)
      have hCi : ∀ T ∈ R[i]'hlt.1, okC T := HC.out _ (List.getElem_mem hlt.1)
      have HPre := hid (fun j => prt_pre R i j hlt.1)
      have HUp := hid (fun j h => pcs_up (R[i]'hlt.1) j h)
      have HSn := hid (show prt (R.take (i + 1)) = prt (R.take i) ++ prw (R[i]'hlt.1) by rw [List.take_add_one, List.getElem?_eq_getElem hlt.1]; exact prt_snoc _ _)
      have HAt := hid (fun wx (h : Below w.heap.size w wx) => (HR.out.below h).at i hlt.1)
      obtain ⟨cs, hcs⟩ : ∃ cs, cs = R[i]'hlt.1 := ⟨_, rfl⟩
      rw [← hcs] at hCi HPre HUp HSn HAt
      have HCi := hid hCi
      have hI' := hlt.1
      clear hCi hcs hlt HT
      have hcl : cs.length ≤ 9223372036854775807 := by
        obtain ⟨g, off, cap, u, _, _, _, tx⟩ := HAt.out w (Below.refl _ _)
        exact tx.len
      obtain ⟨t0, ht0⟩ : ∃ t0, t0 = prt (R.take i) := ⟨_, rfl⟩
      rw [← ht0] at HT1 HPre HSn
      clear ht0
      go_wp2_with fail
      go_loopw [3, 5] (fun tv j wr2 => ∃ (k : Nat) (t2 : List UInt8), k ≤ cs.length ∧ j = .int .i64 (k : Int) ∧ wr2.ownsRow w.heap.size 5 1 tv t2.length (Lib.byteCells t2) ∧ t2 = t0 ++ pcs (cs.take k) ∧ t2.length ≤ 290000 ∧ Below w.heap.size w wr2) (fun _ j _ => cs.length - (intOf j).toNat)
      case atStart => exact ⟨0, t, Nat.zero_le _, rfl, HO.out, by rw [HT1.out]; simp [pcs], by omega, HB.out⟩
      case round =>
        rename_i wo _
        obtain ⟨k, t2, hk, rfl, hown2, ht2, htl2, hbl2⟩ := hrel
        obtain ⟨ta2, tc2, rfl⟩ := own_slice hown2
        have HO2 := hid hown2
        have HB2 := hid hbl2
        have HT2 := hid ht2
        obtain ⟨g, off, cap, u, e1, hcap, c0, tx⟩ := HAt.out _ hbl2
        cases e1
        have HTx := hid tx
        clear hown2 hbl2 ht2
        by_cases hlt2 : k < cs.length ∧ t2.length ≤ 262144
        · have hK : (k : Int) < (cs.length : Int) := by omega
          have hS2 : (t2.length : Int) ≤ 262144 := by omega
          have dS2 : decide ((t2.length : Int) ≤ 262144) = true := decide_eq_true hS2
          by_cases hk0 : k = 0
          · have hk1 : ¬ (0 : Int) < (k : Int) := by omega
            have HK0 := hid hk0
            clear hk0
            obtain ⟨g2, off2, cap2, e2, hcap2, c2⟩ := tx.at k hlt2.1
            subst e2
            have hok := HCi.out _ (List.getElem_mem hlt2.1)
            have HU := hid (HUp.out k hlt2.1)
            obtain ⟨T, hT⟩ : ∃ T, T = cs[k]'hlt2.1 := ⟨_, rfl⟩
            rw [← hT] at c2 hok HU
            have hTs : (⟨T.toArray⟩ : ByteArray).size ≤ 4096 := by have := hok.1; simpa [ByteArray.size] using this
            have HW := hid (fun wx => HWr.out ⟨T.toArray⟩ wx hTs)
            have hpl : (pcl T).length ≤ 8194 := by
              unfold pcl
              have := dbl_len T
              have := hok.1
              split
              · simp only [List.length_cons, List.length_append, List.length_nil]; omega
              · omega
            have hX : (⟨(pcl T).toArray⟩ : ByteArray).size = (pcl T).length := by simp [ByteArray.size]
            have HXc := hid (strCells_is (pcl T))
            obtain ⟨X, hXe⟩ : ∃ X : ByteArray, X = ⟨(pcl T).toArray⟩ := ⟨_, rfl⟩
            have HW2 := hid (fun wx => show Calls Tryz.prog 126 #[.string ⟨T.toArray⟩] wx fun e w' => e = .returned (.string X) ∧ Below wx.heap.size wx w' by rw [hXe]; exact HW.out wx)
            rw [← hXe] at hX HXc
            have hXl : X.size ≤ 8194 := by omega
            have HX := hid hX
            generalize (⟨T.toArray⟩ : ByteArray) = TT at c2 HW2
            clear tx hok hT hTs HW hXe hX
            go_wp2_with fail
            refine Calls.mono (HW2.out _) ?_
            rintro e w3 ⟨rfl, hb3⟩
            have HB3 := hid (HB2.out.trans (hb3.mono HB2.out.size))
            have HO3 := hid (own_of HO2.out fun g hg => hb3.block g (World.ownsRow.lt HO2.out g hg).2)
            clear hb3
            obtain ⟨v4, w4, hr4, hown4, hgrow4, _⟩ := Lib.run_append_own_string (P := Tryz.prog) w3 w.heap.size 92 9 92 5 _ Tryz.underlying92 Tryz.underlying9 (info_parts u8i).choose_spec.1 (info_parts u8i).choose_spec.2.1 (info_parts u8i).choose_spec.2.2.1 (info_parts u8i).choose_spec.2.2.2 _ _ _ HO3.out X (by unfold maxLen; omega) (by omega) HB3.out.size
            rw [appS_op] at hr4
            obtain ⟨a4, c4, rfl⟩ := own_slice hown4
            have HB4 := hid (HB3.out.grown hgrow4 HB3.out.size (fun k hk => (World.ownsRow.lt HO3.out k hk).1))
            have HO4 := hid hown4
            clear hgrow4 hown4
            go_wp2
            go_roundw
            case rel =>
              refine ⟨k + 1, t2 ++ pcl T, by omega, by go_num, ?_, ?_, by have := HX.out; simp; omega, HB4.out⟩
              · have := HO4.out
                rw [HXc.out] at this
                rw [show (t2 ++ pcl T).length = t2.length + X.size by have := HX.out; simp; omega, show Lib.byteCells (t2 ++ pcl T) = Lib.byteCells t2 ++ Lib.byteCells (pcl T) by simp [Lib.byteCells]]
                exact this
              · rw [HT2.out]
                have := HU.out
                rw [if_pos HK0.out] at this
                rw [this]
                simp
            case measure => simp [intOf]; omega
          · have hk1 : (0 : Int) < (k : Int) := by omega
            obtain ⟨ua, uc, hu⟩ := tx.form
            subst hu
            clear tx
            go_wp2_with (at_builtin; refine wpList_append_own_at _ rfl _ _ 92 rfl w.heap.size 5 _ (.int .u8 0) 1 1 Tryz.underlying92 (info_parts u8i).choose_spec.1 (info_parts u8i).choose_spec.2.1 (info_parts u8i).choose_spec.2.2.1 (info_parts u8i).choose_spec.2.2.2 rfl (by decide) _ _ _ rfl (HO2.out.alloc _) ⟨wr.heap.size, 0, none⟩ 1 1 [.int .u8 44] rfl rfl (by intro j u hj; cases j with | zero => simp at hj; subst hj; simp [Addr.add] | succ j => simp at hj) (by intro u hu; simp at hu; subst hu; rfl) (by unfold maxLen; omega) (by omega) (by have := HB2.out.size; simp; omega) ?_)
            intro v5 w5 hown5 hgrow5 _ _
            obtain ⟨a5, c5, rfl⟩ := own_slice hown5
            have HB5 := hid ((HB2.out.alloc HB2.out.size _).grown hgrow5 (by simp; have := HB2.out.size; omega) (fun k hk => (World.ownsRow.lt HO2.out k hk).1))
            clear hgrow5
            have HO5 := hid (show w5.ownsRow w.heap.size 5 1 (.slice a5 (t2.length + 1) c5) (t2 ++ [44]).length (Lib.byteCells (t2 ++ [44])) by simpa [Lib.byteCells] using hown5)
            clear hown5 c0
            obtain ⟨g', off', cap', u', e1, hcap', c0, tx⟩ := HAt.out _ HB5.out
            injection e1 with e1a _ e1c
            injection e1a with e1b
            injection e1b with e1d e1e
            subst e1d e1e e1c
            obtain ⟨g2, off2, cap2, e2, hcap2, c2⟩ := tx.at k hlt2.1
            subst e2
            have hok := HCi.out _ (List.getElem_mem hlt2.1)
            have HU := hid (HUp.out k hlt2.1)
            obtain ⟨T, hT⟩ : ∃ T, T = cs[k]'hlt2.1 := ⟨_, rfl⟩
            rw [← hT] at c2 hok HU
            have hTs : (⟨T.toArray⟩ : ByteArray).size ≤ 4096 := by have := hok.1; simpa [ByteArray.size] using this
            have HW := hid (fun wx => HWr.out ⟨T.toArray⟩ wx hTs)
            have hpl : (pcl T).length ≤ 8194 := by
              unfold pcl
              have := dbl_len T
              have := hok.1
              split
              · simp only [List.length_cons, List.length_append, List.length_nil]; omega
              · omega
            have hX : (⟨(pcl T).toArray⟩ : ByteArray).size = (pcl T).length := by simp [ByteArray.size]
            have HXc := hid (strCells_is (pcl T))
            obtain ⟨X, hXe⟩ : ∃ X : ByteArray, X = ⟨(pcl T).toArray⟩ := ⟨_, rfl⟩
            have HW2 := hid (fun wx => show Calls Tryz.prog 126 #[.string ⟨T.toArray⟩] wx fun e w' => e = .returned (.string X) ∧ Below wx.heap.size wx w' by rw [hXe]; exact HW.out wx)
            rw [← hXe] at hX HXc
            have hXl : X.size ≤ 8194 := by omega
            have HX := hid hX
            generalize (⟨T.toArray⟩ : ByteArray) = TT at c2 HW2
            clear tx hok hT hTs HW hXe hX
            go_wp2_with fail
            refine Calls.mono (HW2.out _) ?_
            rintro e w3 ⟨rfl, hb3⟩
            have HB3 := hid (HB5.out.trans (hb3.mono HB5.out.size))
            have HO3' := hid (own_of HO5.out fun g hg => hb3.block g (World.ownsRow.lt HO5.out g hg).2)
            have HO3 := hid (show w3.ownsRow w.heap.size 5 1 (.slice a5 (t2.length + 1) c5) (t2.length + 1) (Lib.byteCells (t2 ++ [44])) by have := HO3'.out; rwa [List.length_append] at this)
            clear hb3
            obtain ⟨v4, w4, hr4, hown4, hgrow4, _⟩ := Lib.run_append_own_string (P := Tryz.prog) w3 w.heap.size 92 9 92 5 _ Tryz.underlying92 Tryz.underlying9 (info_parts u8i).choose_spec.1 (info_parts u8i).choose_spec.2.1 (info_parts u8i).choose_spec.2.2.1 (info_parts u8i).choose_spec.2.2.2 _ _ _ HO3.out X (by unfold maxLen; omega) (by omega) HB3.out.size
            rw [appS_op] at hr4
            obtain ⟨a4, c4, rfl⟩ := own_slice hown4
            have HB4 := hid (HB3.out.grown hgrow4 HB3.out.size (fun k hk => (World.ownsRow.lt HO3.out k hk).1))
            have HO4 := hid hown4
            clear hgrow4 hown4
            go_wp2
            go_roundw
            case rel =>
              refine ⟨k + 1, t2 ++ [44] ++ pcl T, by omega, by go_num, ?_, ?_, by have := HX.out; simp; omega, HB4.out⟩
              · have := HO4.out
                rw [HXc.out] at this
                rw [show (t2 ++ ([44] : List UInt8) ++ pcl T).length = t2.length + 1 + X.size by have := HX.out; simp; omega, show Lib.byteCells (t2 ++ ([44] : List UInt8) ++ pcl T) = Lib.byteCells (t2 ++ [44]) ++ Lib.byteCells (pcl T) by simp [Lib.byteCells]]
                exact this
              · rw [HT2.out]
                have := HU.out
                rw [if_neg hk0] at this
                rw [this]
                simp
            case measure => simp [intOf]; omega
        · obtain ⟨ua, uc, hu⟩ := tx.form
          subst hu
          clear tx
          have hEnd : ∀ t3, t3 = t2 ++ [13, 10] → (t3 = t0 ++ prw cs ∨ (262144 < t3.length ∧ 262144 < (prt R).length)) := by
            intro t3 h3
            by_cases hk3 : k = cs.length
            · left
              rw [h3, HT2.out, hk3, List.take_length]
              simp [prw]
            · right
              have h1 := HPre.out k
              rw [← HT2.out] at h1
              have : 262144 < t2.length := by omega
              rw [h3, List.length_append]
              omega
          have HEnd := hid hEnd
          clear hEnd
          by_cases hk3 : k < cs.length
          · have hK : (k : Int) < (cs.length : Int) := by omega
            have hS2 : ¬ (t2.length : Int) ≤ 262144 := by omega
            have dS2 : decide ((t2.length : Int) ≤ 262144) = false := decide_eq_false hS2
            clear hlt2
            go_wp2_with (at_builtin; refine wpList_append_own_at _ rfl _ _ 92 rfl w.heap.size 5 _ (.int .u8 0) 1 1 Tryz.underlying92 (info_parts u8i).choose_spec.1 (info_parts u8i).choose_spec.2.1 (info_parts u8i).choose_spec.2.2.1 (info_parts u8i).choose_spec.2.2.2 rfl (by decide) _ _ _ rfl (HO2.out.alloc _) ⟨wr.heap.size, 0, none⟩ 2 2 [.int .u8 13, .int .u8 10] rfl rfl (by intro j u hj; match j, hj with | 0, hj => simp at hj; subst hj; simp [Addr.add] | 1, hj => simp at hj; subst hj; simp [Addr.add] | j + 2, hj => simp at hj) (by intro u hu; simp at hu; rcases hu with rfl | rfl <;> rfl) (by unfold maxLen; omega) (by omega) (by have := HB2.out.size; simp; omega) ?_)
            intro v5 w5 hown5 hgrow5 _ _
            obtain ⟨a5, c5, rfl⟩ := own_slice hown5
            have HB5 := hid ((HB2.out.alloc HB2.out.size _).grown hgrow5 (by simp; have := HB2.out.size; omega) (fun k hk => (World.ownsRow.lt HO2.out k hk).1))
            clear hgrow5
            have HO5 := hid hown5
            clear hown5
            go_wp2
            go_roundw
            case rel =>
              refine ⟨i + 1, t2 ++ [13, 10], by omega, by go_num, ?_, ?_, by simp; omega, HB5.out⟩
              · have := HO5.out
                simpa [Lib.byteCells] using this
              · rw [HSn.out]; exact HEnd.out _ rfl
            case measure => simp [intOf]; omega
          · have hK : ¬ (k : Int) < (cs.length : Int) := by omega
            clear hlt2
            go_wp2_with (at_builtin; refine wpList_append_own_at _ rfl _ _ 92 rfl w.heap.size 5 _ (.int .u8 0) 1 1 Tryz.underlying92 (info_parts u8i).choose_spec.1 (info_parts u8i).choose_spec.2.1 (info_parts u8i).choose_spec.2.2.1 (info_parts u8i).choose_spec.2.2.2 rfl (by decide) _ _ _ rfl (HO2.out.alloc _) ⟨wr.heap.size, 0, none⟩ 2 2 [.int .u8 13, .int .u8 10] rfl rfl (by intro j u hj; match j, hj with | 0, hj => simp at hj; subst hj; simp [Addr.add] | 1, hj => simp at hj; subst hj; simp [Addr.add] | j + 2, hj => simp at hj) (by intro u hu; simp at hu; rcases hu with rfl | rfl <;> rfl) (by unfold maxLen; omega) (by omega) (by have := HB2.out.size; simp; omega) ?_)
            intro v5 w5 hown5 hgrow5 _ _
            obtain ⟨a5, c5, rfl⟩ := own_slice hown5
            have HB5 := hid ((HB2.out.alloc HB2.out.size _).grown hgrow5 (by simp; have := HB2.out.size; omega) (fun k hk => (World.ownsRow.lt HO2.out k hk).1))
            clear hgrow5
            have HO5 := hid hown5
            clear hown5
            go_wp2
            go_roundw
            case rel =>
              refine ⟨i + 1, t2 ++ [13, 10], by omega, by go_num, ?_, ?_, by simp; omega, HB5.out⟩
              · have := HO5.out
                simpa [Lib.byteCells] using this
              · rw [HSn.out]; exact HEnd.out _ rfl
            case measure => simp [intOf]; omega
    · have HTx := hid (show TxA R t by
        rcases HT.out with h | h
        · by_cases hi2 : i = R.length
          · left; rw [h, hi2, List.take_length]
          · right
            have h1 := prt_take R i
            rw [← h] at h1
            omega
        · exact .inr h)
      by_cases hi3 : i < R.length
      · have hI : (i : Int) < (R.length : Int) := by omega
        have hS : ¬ (t.length : Int) ≤ 262144 := by omega
        have dS : decide ((t.length : Int) ≤ 262144) = false := decide_eq_false hS
        clear hlt
        go_wp2
        go_ret
        unfold TxR
        exact ⟨_, t, rfl, HO.out, HTx.out, htl, HB.out⟩
      · have hI : ¬ (i : Int) < (R.length : Int) := by omega
        clear hlt
        go_wp2
        go_ret
        unfold TxR
        exact ⟨_, t, rfl, HO.out, HTx.out, htl, HB.out⟩
end Go.Proofs.YtmgfdnccmeahjaaGreatDoor

namespace Go.Proofs.YtmgfdnccmeahjaaGreatDoor
open Go.RowKit
set_option maxRecDepth 100000
set_option linter.unusedVariables false
set_option linter.unusedSimpArgs false

theorem FW.drew {w : World} {b c l k i : Nat} (h : FW w b c l k i) : FW w.drew b c l k i := h
theorem run_fStN (w : World) (c l k i : Nat) :
    ∃ W, (fSt ⟨w.heap.size, 0, none⟩ (fV c l k i)).run Tryz.prog (w.alloc (.cells #[.int .i64 0, .int .i64 0, .int .i64 0, .int .i64 0, .int .i64 0] 62)) = .ok () W ∧ FW W w.heap.size c l k i ∧ Below w.heap.size w W ∧ w.heap.size < W.heap.size := by
  obtain ⟨W, h1, h2, h3⟩ := run_fSt (FW.new w) c l k i
  exact ⟨W, h1, h2, ((Below.refl _ w).alloc (Nat.le_refl _) _).grown h3 (by simp) (fun b hb => by cases hb; exact Nat.le_refl _), h2.lt⟩
theorem rck_okC {R : List (List (List UInt8))} (h : (rck (R.headD []).length R 0).1 = 0) : ∀ cs ∈ R, ∀ T ∈ cs, okC T := fun cs hcs T hT => ((rck_is h).2 cs hcs).2.2.2 T hT
/-- what is wrong with rows, at last -/
def wgA (R : List (List (List UInt8))) : Nat × Nat × Nat := if (rck (R.headD []).length R 0).1 = 0 then (if 262144 < (prt R).length then (20, 0, 0) else (0, 0, 0)) else rck (R.headD []).length R 0
theorem rck_zero (n : Nat) : ∀ (R : List (List (List UInt8))) (i : Nat), (rck n R i).1 = 0 → rck n R i = (0, 0, 0) := by
  intro R
  induction R with
  | nil => intro i _; rfl
  | cons cs r ih =>
    intro i h
    rw [rck] at h ⊢
    by_cases h4 : i = 4096
    · rw [if_pos h4] at h; exact absurd h (by simp)
    · rw [if_neg h4] at h ⊢
      by_cases hw : (wfl n cs).1 = 0
      · rw [if_pos hw] at h ⊢; exact ih _ h
      · rw [if_neg hw] at h; exact absurd h hw
attribute [local go_sem ↓] fLd_op fSt_op
set_option maxHeartbeats 8000000 in
theorem Wrong_any (v : Value) (R : List (List (List UInt8))) (w : World) (hr : Rw w v R) :
    Calls Tryz.prog 57 #[v] w fun e w' => e = .returned (wgV (wgA R)) ∧ Below w.heap.size w w' := by
  have HW := hid (fun wx (h : Below w.heap.size w wx) => wrong_any v R wx (hr.below h))
  have HT := hid (fun wx (h : Below w.heap.size w wx) hc => text_any v R wx (hr.below h) hc)
  have HAt := hid (fun w => at_any 20 0 0 w)
  obtain ⟨ra, rc, rfl⟩ := hr.form
  have B0 : Below w.heap.size w (w.alloc (.cells #[.int .i64 0, .int .i64 0, .int .i64 0, .int .i64 0, .int .i64 0] 62)) := (Below.refl _ _).alloc (Nat.le_refl _) _
  have HW1 := hid (HW.out _ B0)
  have HC := hid (rck_okC (R := R))
  have HZ := hid (rck_zero (R.headD []).length R 0)
  obtain ⟨Q, hQ⟩ : ∃ Q, Q = rck (R.headD []).length R 0 := ⟨_, rfl⟩
  have HG := hid (show wgA R = (if Q.1 = 0 then (if 262144 < (prt R).length then (20, 0, 0) else (0, 0, 0)) else Q) by rw [hQ]; rfl)
  rw [← hQ] at HW1 HC HZ
  generalize wgA R = AA at *
  clear hr hQ HW
  obtain ⟨c, l, k⟩ := Q
  go_enter Tryz.func57, Tryz.ntmps57
  go_wp2_with fail
  refine Calls.mono HW1.out ?_
  rintro e w1 ⟨rfl, hb1⟩
  have hB1 : Below w.heap.size w w1 := B0.trans (hb1.mono (by simp))
  have hF1 : FW w1 w.heap.size 0 0 0 0 := (FW.new w).big hb1
  unfold wgV
  simp only []
  obtain ⟨W1, ES1, hW1, hbW, hzW⟩ := run_fStN w1 c l k 0
  have EL1 := run_fLd hW1
  have HB := hid (hB1.trans (hbW.mono hB1.size))
  have HF := hid (hF1.big hbW)
  have HW1' := hid hW1
  have hc0 := hW1.cell
  obtain ⟨fv, hfv⟩ : ∃ fv, fv = fV c l k 0 := ⟨_, rfl⟩
  have HFv := hid hfv
  rw [← hfv] at ES1 EL1
  try rw [← hfv]
  clear hb1 hB1 hF1 hbW hW1 hfv B0 HW1
  by_cases h0 : c = 0
  · subst h0
    have hQ0 := HZ.out rfl
    have hc0' : W1.cell? ⟨w1.heap.size, 0, none⟩ = some (.int .i64 0) := hc0
    have HT1 := hid (HT.out W1 HB.out (HC.out rfl))
    have HQ0 := hid hQ0
    have HG0 := hid (show AA = (if 262144 < (prt R).length then (20, 0, 0) else (0, 0, 0)) by rw [HG.out, if_pos rfl])
    clear hc0 hQ0 HG
    go_wp2_with fail
    refine Calls.mono HT1.out ?_
    rintro e w2 ⟨tv, t, rfl, hown, hta, htl, hb2⟩
    obtain ⟨ta, tc, rfl⟩ := own_slice hown
    have HB2 := hid (HB.out.trans (hb2.mono HB.out.size))
    have HF2 := hid (HF.out.big hb2)
    have EL2 := run_fLd (HW1'.out.big hb2)
    rw [← HFv.out] at EL2
    clear hown hb2 EL1
    by_cases hbig : 262144 < t.length
    · have hI : (262144 : Int) < (t.length : Int) := by omega
      have dI : decide ((262144 : Int) < (t.length : Int)) = true := decide_eq_true hI
      have HV := hid (show AA = (20, 0, 0) by
        rw [HG0.out, if_pos]
        rcases hta with h | h
        · rw [← h]; exact hbig
        · exact h.2)
      clear hta
      go_wp2_with fail
      refine Calls.mono (HAt.out _) ?_
      rintro e w3 ⟨rfl, hb3⟩
      obtain ⟨W, ES, hW, gW⟩ := run_fSt (HF2.out.big hb3) 20 0 0 0
      have EL := run_fLd hW
      have BF := hid ((HB2.out.trans (hb3.mono HB2.out.size)).grown gW (Nat.le_trans HB2.out.size hb3.size) (fun b hb => by cases hb; exact Nat.le_refl _))
      obtain ⟨gv, hgv⟩ : ∃ gv, gv = fV 20 0 0 0 := ⟨_, rfl⟩
      rw [← hgv] at ES EL ⊢
      have HGv := hid hgv
      clear hW gW hb3 hgv
      go_wp2
      refine bodyPost_ret (by simp [results, Tryz.results57, asAddr, ↓fLd_op, EL]; try rfl) rfl ?_
      rw [HV.out, HGv.out]
      exact ⟨rfl, BF.out⟩
    · have hI : ¬ (262144 : Int) < (t.length : Int) := by omega
      have dI : decide ((262144 : Int) < (t.length : Int)) = false := decide_eq_false hI
      have HV := hid (show AA = (0, 0, 0) by
        rw [HG0.out, if_neg]
        rcases hta with h | h
        · rw [← h]; exact hbig
        · exact absurd h.1 hbig)
      obtain ⟨W, ES, hW, gW⟩ := run_fSt HF2.out 0 l k 0
      have EL := run_fLd hW
      have BF := hid (HB2.out.grown gW HB2.out.size (fun b hb => by cases hb; exact Nat.le_refl _))
      rw [← HFv.out] at ES EL
      clear hW gW hta
      go_wp2
      refine bodyPost_ret (by simp [results, Tryz.results57, asAddr, ↓fLd_op, EL]; try rfl) rfl ?_
      have hlk := HQ0.out
      injection hlk with _ hlk
      injection hlk with hl hk
      rw [HV.out, HFv.out, hl, hk]
      exact ⟨rfl, BF.out⟩
  · have hcn : ((c : Int) == 0) = false := by rw [beq_eq_false_iff_ne]; omega
    have hcp : ¬ (c : Int) = 0 := by omega
    have HV := hid (show AA = (c, l, k) by rw [HG.out, if_neg h0])
    obtain ⟨W, ES, hW, gW⟩ := run_fSt HF.out c l k 0
    have EL := run_fLd hW
    have BF := hid (HB.out.grown gW HB.out.size (fun b hb => by cases hb; exact Nat.le_refl _))
    rw [← HFv.out] at ES EL
    clear hW gW h0
    go_wp2
    refine bodyPost_ret (by simp [results, Tryz.results57, asAddr, ↓fLd_op, EL]; try rfl) rfl ?_
    rw [HV.out, HFv.out]
    exact ⟨rfl, BF.out⟩
end Go.Proofs.YtmgfdnccmeahjaaGreatDoor
