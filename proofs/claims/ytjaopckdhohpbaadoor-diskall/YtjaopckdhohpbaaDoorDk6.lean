/-
  Clone, Read, Image, New; sectors of one byte.
-/
import Derived.Test.YtjaopckdhohpbaaDoorDk5
import Derived.Laws.MakeOwn
import Derived.Lib.LazyBuf
namespace Go.Proofs.YtjaopckdhohpbaaDoor
open Go.RowKit
set_option maxRecDepth 100000

theorem u8info : (Tryd.prog.info? 5).map (fun i => (i.zero, i.size, i.bytes)) = some (some (.int .u8 0), 1, 1) := by kernel_rfl
def zs (n : Nat) : List UInt8 := List.replicate n 0
theorem zs_len (n : Nat) : (zs n).length = n := by simp [zs]
theorem made_is (n : Nat) : madeCells #[.int .u8 0] n = (bc (zs n)).toArray := by
  apply Array.ext
  · rw [size_madeCells]; simp [bc, zs]
  · intro i h1 h2
    simp [madeCells, bc, zs, Nat.mod_one]
def mkB (a b : Value) : Sem Value := Instr.makeSlice 34 a b
theorem mk_op (a b : Value) : Instr.makeSlice 34 a b = mkB a b := rfl
theorem run_mkB (n : Nat) (hn : n ≤ 1000000) (w : World) : (mkB (.int .i64 (n : Int)) (.int .i64 (n : Int))).run Tryd.prog w = .ok (.slice (some ⟨w.heap.size, 0, none⟩) n n) (w.alloc (.cells (bc (zs n)).toArray 5)) := by
  obtain ⟨i, hi, hz, hs, hb⟩ := info_parts u8info
  have := run_make (P := Tryd.prog) w 34 5 i _ Tryd.underlying34 hi hz .i64 .i64 (n : Int) (n : Int) (by omega) (by omega) (by rw [hb]; omega) (by omega)
  unfold mkB
  rw [this, hs, Nat.mul_one]
  simp only [Int.toNat_natCast]
  rw [show (Value.int IntKind.u8 0).cells = #[.int .u8 0] from rfl, made_is]
attribute [local go_sem ↓] mk_op
theorem owns_empty (w : World) : Owns (w.alloc (.cells #[] 5)) w.heap.size (.slice (some ⟨w.heap.size, 0, none⟩) 0 0) [] := by
  refine ⟨rfl, .inr ⟨w.heap.size, 0, #[], rfl, Nat.le_refl _, heap_alloc_new _ _, Nat.le_refl _, by decide, rfl, rfl⟩⟩
set_option maxHeartbeats 2000000 in
theorem clone_any (b off cap : Nat) (l : List UInt8) (w : World) (hr : Reads w (.slice (some ⟨b, off, none⟩) l.length cap) l) (hl : l.length ≤ 1000000) :
    Calls Tryd.prog 32 #[.slice (some ⟨b, off, none⟩) l.length cap] w fun e w' => (∃ v', e = .returned v' ∧ Owns w' w.heap.size v' l) ∧ Below w.heap.size w w' := by
  have bA := (Below.refl w.heap.size w).alloc (Nat.le_refl _) (.cells #[] 5)
  have HR := hid (hr.below bA)
  have HO := hid (owns_empty w)
  have HB := hid bA
  clear hr bA
  have ke := fun w a l c => run_eql_slice_nil (P := Tryd.prog) w 34 5 a l c Tryd.underlying34
  go_enter Tryd.func32, Tryd.ntmps32
  go_wp2_with (at_builtin; refine wpList_app rfl _ _ 34 rfl Tryd.underlying34 u8info w.heap.size _ [] rfl HO.out _ l rfl HR.out ?hlen HB.out.size ?hnext)
  case hlen => simp; omega
  case hnext =>
    intro v1 w1 ho hg
    have HO1 := hid ho
    have B1 := hid (HB.out.grown hg HB.out.size (fun k hk => by cases hk; exact Nat.le_refl _))
    clear ho hg
    go_wp2
    go_ret
    exact ⟨⟨_, rfl, HO1.out⟩, B1.out⟩
theorem DK.imgR {w : World} {base d f s cap : Nat} {tail : List Value} {F S : List UInt8} {dv : Value} {O : List Opn} (h : DK w base d f s cap tail F S dv O) (n m c : Nat) (hm : n + m ≤ S.length) (hc : m ≤ c) : Reads w (.slice (some ⟨s, n, none⟩) ((S.drop n).take m).length c) ((S.drop n).take m) := by
  have hl : ((S.drop n).take m).length = m := by rw [List.length_take, List.length_drop]; omega
  refine .inr ⟨s, n, c, rfl, by omega, fun j hj => ?_⟩
  rw [cell_of_row w s (n + j) _ _ _ h.seen]
  have hj2 : n + j < S.length := by omega
  simp only [List.getElem?_toArray, List.getElem_take, List.getElem_drop]
  rw [List.getElem?_append_left (by rw [bc_length]; omega), bc_at S (n + j) hj2]
set_option maxHeartbeats 2000000 in
theorem read_any (base d f s cap n : Nat) (tail : List Value) (F S : List UInt8) (dv : Value) (O : List Opn) (w : World) (h : DK w base d f s cap tail F S dv O) (hn : n < F.length / 128) (hFS : F.length = S.length) :
    Calls Tryd.prog 16 #[.pointer (some ⟨d, 0, none⟩), .int .i64 (n : Int)] w fun e w' => (∃ v', e = .returned (.tuple #[v', .int .i64 0]) ∧ Owns w' w.heap.size v' ((S.drop (n * 128)).take 128)) ∧ Below w.heap.size w w' := by
  have HH := hid (has_any base d f s cap n tail F S dv O w h hn)
  obtain ⟨c0, c1, c2, c3⟩ := h.cells
  have HS := hid (sector_any s 0 n S.length cap w (by have := h.cp; omega) h.cm)
  rw [Nat.zero_add] at HS
  have hR := h.imgR (n * 128) 128 128 (by omega) (Nat.le_refl _)
  have hl : ((S.drop (n * 128)).take 128).length = 128 := by rw [List.length_take, List.length_drop]; omega
  have HC := hid (clone_any s (n * 128) 128 _ w hR (by omega))
  rw [hl] at HC
  clear h hR hl
  generalize (S.drop (n * 128)).take 128 = X at *
  go_enter Tryd.func16, Tryd.ntmps16
  go_wp2_with fail
  refine HH.out.mono ?_
  rintro e wz ⟨rfl, hwz⟩
  have hws := hwz.symm
  clear hwz HH
  subst hws
  go_wp2_with fail
  refine HS.out.mono ?_
  rintro e wz ⟨rfl, hwz⟩
  have hws := hwz.symm
  clear hwz HS
  subst hws
  go_wp2_with fail
  refine HC.out.mono ?_
  rintro e w1 ⟨⟨v', rfl, ho⟩, hb⟩
  have H1 := hid ho
  have B1 := hid hb
  clear ho hb
  go_wp2
  go_ret2
  exact ⟨⟨_, rfl, H1.out⟩, B1.out⟩
end Go.Proofs.YtjaopckdhohpbaaDoor
