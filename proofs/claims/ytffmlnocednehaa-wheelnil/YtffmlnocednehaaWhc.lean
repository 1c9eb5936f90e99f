/-
  wheel: Advance(5) with one name at 5.
-/
import Derived.Test.YtffmlnocednehaaWhb
import Derived.Deep.RegionHeld3
namespace Go.Proofs.Ytffmlnocednehaa
open Go.RowKit Go.Maps Go.WideMaps
set_option maxRecDepth 100000

theorem wpList_delN {w w' : World} {ops : Array Oper} {rest : List Oper} {o : Oper} {a : Act} {Q : Exit → Act → World → Prop} (hg : o.guard = none) (m x : Operand) (hop : o.op = Op.call { callee := Callee.builtin Builtin.delete, args := #[m, x], argTypes := #[61, 9] })
    {mv key : Value} (hm : a.eval m = mv) (hx : a.eval x = key) (hrun : (Builtin.delete_ #[61, 9] o.type #[mv, key]).run Try.prog w = .ok (.tuple #[]) w') (hK : wpList Try.prog ops Q rest (a.put o.dst (.tuple #[])) w') :
    wpList Try.prog ops Q (o :: rest) a w := by
  refine wpList_plain hg fun K' hK' => ?_
  unfold Oper.wp
  simp [execOp, hop, resolve, invoke, builtin, hm, hx, hrun, Result.andThen]
  exact hK' _ _ hK
theorem stinfo : (Try.prog.info? 9).map (fun i => (i.zero, i.size, i.bytes)) = some (some (.string ⟨#[]⟩), 1, 16) := by kernel_rfl
theorem run_names (w : World) : (Instr.makeSlice 29 (.int .i64 1) (.int .i64 1)).run Try.prog w = .ok (.slice (some ⟨w.heap.size, 0, none⟩) 1 1) (w.alloc (.cells #[.string ⟨#[]⟩] 9)) := by
  obtain ⟨i, hi, hz, hs, hb⟩ := info_parts stinfo
  have := run_make (P := Try.prog) w 29 9 i _ Try.underlying29 hi hz .i64 .i64 1 1 (by decide) (by decide) (by rw [hb]; decide) (by decide)
  rw [hs] at this
  rw [this]
  have e : madeCells (Value.string ⟨#[]⟩).cells (Int.toNat 1 * 1) = #[.string ⟨#[]⟩] := by
    apply Array.ext
    · rw [size_madeCells]; rfl
    · intro i h1 h2
      simp [madeCells, Value.cells, Nat.mod_one]
  rw [e]
  rfl
set_option maxHeartbeats 4000000 in
theorem advance_five (g t mb : Nat) (w : World) (h : One 0 g t mb w) (hgm : g < mb) :
    Calls Try.prog 13 #[.pointer (some ⟨g, 0, none⟩), .int .i64 5] w fun e w' => ∃ nb, e = .returned (.tuple #[.slice (some ⟨nb, 0, none⟩) 1 1, .int .i64 0]) ∧ w'.cell? ⟨nb, 0, none⟩ = some (.string ⟨#[97, 97, 97]⟩) ∧ Below g w w' := by
  have hl := h.lt
  have c0 : w.cell? ⟨g, 0, none⟩ = some (.int .i64 0) := by rw [Lib.cell_of_heap h.2.2.2.1]; exact whR_0 _ _ _
  have HT := hid (turn_five g t mb w h)
  obtain ⟨B, hB0⟩ : ∃ B, w.heap.size = B := ⟨_, rfl⟩
  rw [hB0] at HT hl
  have hmk := run_names
  clear h
  go_enter Try.func13, Try.ntmps13
  go_wp2_with (first
    | (go_at_call 26; refine (isTime_any 5 _ (by decide) (by decide)).mono ?_; rintro e w' ⟨rfl, rfl⟩))
  refine Calls.mono HT.out ?_
  rintro e w1 ⟨v1, rfl, ho1, he1, hb1⟩
  have hcs := fun g hg => World.ownsRow.cells ho1 (g := g) hg
  have hlt := ho1.lt
  rcases ho1.2 with ⟨_, h0⟩ | ⟨gb, cap, cur, rfl, _⟩
  · omega
  have hn := hcs gb rfl
  have n0 : w1.cell? ⟨gb, 0, none⟩ = some (.string ⟨#[97, 97, 97]⟩) := by simpa [Addr.add_lit] using hn 0 _ rfl
  have n1 : w1.cell? ⟨gb, 1, none⟩ = some (.int .i64 5) := by simpa [Addr.add_lit] using hn 1 _ rfl
  have hgb := hlt gb rfl
  have HE := hid he1
  have HB := hid hb1
  have z1 := hb1.size
  rw [hB0] at z1
  clear hcs hn ho1 he1 hb1 hlt HT c0 hB0
  go_wp2_with (first
    | (go_at_call 28; refine (sort_one _ _ _ _).mono ?_; rintro e w9 ⟨rfl, h9⟩; rw [h9]; clear h9))
  refine wp_loop_rounds 2 ?_
  rw [rounds_succ]
  go_upto_region 14 with fail
  obtain ⟨W5, hW5⟩ : ∃ W5, (w1.alloc (.cells #[.string ⟨#[97, 97, 97]⟩] 9)).alloc (.cells #[.string ⟨#[97, 97, 97]⟩, .int .i64 5] 69) = W5 := ⟨_, rfl⟩
  have z5 : W5.heap.size = w1.heap.size + 2 := by rw [← hW5, World.size_alloc, World.size_alloc]
  have b5 : Below w1.heap.size w1 W5 := by rw [← hW5]; exact ((Below.refl _ _).alloc (Nat.le_refl _) _).alloc (by simp) _
  have r5 : W5.heap[w1.heap.size]? = some (.cells #[.string ⟨#[97, 97, 97]⟩] 9 (0, 0)) := by
    rw [← hW5]
    exact (((Below.refl (w1.alloc (.cells #[.string ⟨#[97, 97, 97]⟩] 9)).heap.size _).alloc (Nat.le_refl _) _).block w1.heap.size (by simp)).trans (heap_alloc_new w1 _)
  have x5 : W5.heap[w1.heap.size + 1]? = some (.cells #[.string ⟨#[97, 97, 97]⟩, .int .i64 5] 69 (0, 0)) := by
    rw [← hW5]
    have := heap_alloc_new (w1.alloc (.cells #[.string ⟨#[97, 97, 97]⟩] 9)) (.cells #[.string ⟨#[97, 97, 97]⟩, .int .i64 5] 69)
    rwa [World.size_alloc] at this
  have e5 := HE.out.grown (Below.grew b5) (by simp) (by simp) (by omega)
  have hmb := HE.out.2.2.lt
  have K := hid (fun (wx : World) (hb : Below W5.heap.size W5 wx) => (show wx.cell? ⟨g, 449, none⟩ = some (.map (some mb)) ∧ wx.cell? ⟨w1.heap.size + 1, 0, none⟩ = some (.string ⟨#[97, 97, 97]⟩) from
    ⟨by rw [Lib.cell_of_heap ((hb.block g (by omega)).trans e5.2.1)]; exact whR_m (by simp [noR]), by rw [Lib.cell_of_heap ((hb.block _ (by omega)).trans x5)]; rfl⟩))
  have KD := hid (fun (wx : World) (hb : Below W5.heap.size W5 wx) (ty : TypeId) => (show ∃ w', (Builtin.delete_ #[61, 9] ty #[.map (some mb), .string ⟨#[97, 97, 97]⟩]).run Try.prog wx = .ok (.tuple #[]) w' ∧ w'.cell? ⟨w1.heap.size, 0, none⟩ = some (.string ⟨#[97, 97, 97]⟩) ∧ (w'.cell? ⟨g, 449, none⟩ = some (.map (some mb)) ∧ w'.cell? ⟨w1.heap.size + 1, 0, none⟩ = some (.string ⟨#[97, 97, 97]⟩)) ∧ Below g w1 w' by
    obtain ⟨w', h1, h2, h3⟩ := (e5.2.2.kept (Below.grew hb) (by simp)).del (k := ⟨#[97, 97, 97]⟩) (by decide) ty
    have hz := hb.size
    refine ⟨w', h1, ?_, ⟨?_, ?_⟩, ?_⟩
    · rw [Lib.cell_of_heap ((h3.block w1.heap.size (by omega) (by simp; omega)).trans ((hb.block _ (by omega)).trans r5))]
      rfl
    · rw [Lib.cell_of_heap ((h3.block g (by omega) (by simp; omega)).trans ((hb.block g (by omega)).trans e5.2.1))]
      exact whR_m (by simp [noR])
    · rw [Lib.cell_of_heap ((h3.block (w1.heap.size + 1) (by omega) (by simp; omega)).trans ((hb.block _ (by omega)).trans x5))]
      rfl
    · exact (b5.mono (by omega)).trans ((hb.mono (by omega)).trans ⟨h3.os, h3.tape, h3.output, h3.size, fun k hk => h3.block k (by omega) (by simp; omega)⟩)))
  have s00 : Below W5.heap.size W5 W5 := Below.refl _ _
  have s0 : Below W5.heap.size W5 W5.drew := (Below.refl _ _).drew
  obtain ⟨w6, hr6, hc6, hk6, hb6⟩ := KD.out _ s0 0
  have K6 := hid hk6
  have H6 := hid hc6
  have B6 := hid hb6
  rw [hW5]
  clear hc6 hk6 hb6 KD hW5 z5 b5 r5 x5 e5 n0 n1 hmk
  go_region_held3 (fun wx => wx.cell? ⟨g, 449, none⟩ = some (.map (some mb)) ∧ wx.cell? ⟨w1.heap.size + 1, 0, none⟩ = some (.string ⟨#[97, 97, 97]⟩)) (first | exact K.out _ (by assumption) | exact K6.out) (fail)
  all_goals
    clear hr6
    go_wp2_with fail
    rw [rounds_succ]
    go_wp2
    go_ret2
    exact ⟨_, rfl, H6.out, HB.out.trans B6.out⟩
end Go.Proofs.Ytffmlnocednehaa
