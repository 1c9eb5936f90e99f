/-
  stock: the state of a new ledger.
-/
import Derived.Test.YtdodockemkmmpaaGreatNwc
import Derived.Test.YtdodockemkmmpaaGreatNw9
import Derived.Deep.CutRange
import Derived.Deep.RegionLaw
namespace Go.Proofs.YtdodockemkmmpaaGreat
open Go.RowKit
set_option maxRecDepth 100000

attribute [local go_sem ↓] stLd_op stSt_op
theorem ltb_gb {w w1 W : World} {g : Nat} (h : LtB w w1) (hg : w1.grownBy W (some g)) (hB : w.heap.size ≤ g) : LtB w W := Below.grown h hg (Below.size h) (fun k hk => by cases hk; exact hB)
theorem now0_any (wh : Nat) (w : World) (h : Hb w wh (.cells (whR 0 noR (.map none)) 99 (0, 0))) : Calls Tryz.prog 26 #[.pointer (some ⟨wh, 0, none⟩)] w fun e w' => e = .returned (.int .i64 0) ∧ w' = w := by
  have c0 : w.cell? ⟨wh, 0, none⟩ = some (.int .i64 0) := by rw [Lib.cell_of_heap h]; rfl
  clear h
  go_enter Tryz.func26, Tryz.ntmps26
  go_wp2
  go_ret
  exact ⟨rfl, rfl⟩
theorem vc_reads {w : World} {g : Nat} {L : List Lv} (h : Hb w g (.cells (vc L).toArray 46 (0, 0))) (hl : L.length ≤ 9223372036854775807) : RLv w (.slice (some ⟨g, 0, none⟩) L.length L.length) L := by
  refine .inr ⟨g, 0, L.length, rfl, ⟨Nat.le_refl _, hl⟩, fun j hj => ?_⟩
  have e := vc_at L j hj
  have t : ∀ o u, (vc L)[o]? = some u → w.cell? ⟨g, 0 + o, none⟩ = some u := fun o u h2 => by rw [Lib.cell_of_heap h, Nat.zero_add]; simpa using h2
  exact ⟨t _ _ e.1, by have := t _ _ e.2.1; rwa [← Nat.add_assoc] at this, by have := t _ _ e.2.2; rwa [← Nat.add_assoc] at this⟩
theorem len_map0 {t k e : TypeId} (ht : Tryz.prog.underlying t = some (.map k e)) (w : World) (b : Nat) (hb : w.heap[b]? = some (.map #[] 0)) (ty : TypeId) : (Builtin.len_ #[t] ty #[.map (some b)]).run Tryz.prog w = .ok (.int .i64 0) w := by
  simp [Builtin.len_, run_underlying ht, MapKept.run_getObj_map hb]
  rfl
theorem step_len {t : TypeId} {ops : Array Oper} {o : Oper} {a : Act} {w : World} {K : Act → World → Prop} {Q : Exit → Act → World → Prop} {E : Prop} {v r : Value}
    (hg : o.guard = none) (s : Operand) (hop : o.op = Op.call { callee := Callee.builtin Builtin.len, args := #[s], argTypes := #[t] })
    (hs : a.eval s = v) (hrun : (Builtin.len_ #[t] o.type #[v]).run Tryz.prog w = .ok r w) (hK : K (a.put o.dst r) w) :
    if Region.wanted o (yielded ops a.tmps) = true then Oper.wp Tryz.prog o a w K Q else E := by
  have hw : Region.wanted o (yielded ops a.tmps) = true := by simp [Region.wanted, hg]
  rw [if_pos hw]
  unfold Oper.wp
  simp [execOp, hop, resolve, invoke, builtin, hs, hrun, Result.andThen]
  exact hK
theorem clear_none0 (w : World) (ao : Option Addr) (c : Nat) (ty : TypeId) : (Builtin.clear_ #[22] ty #[.slice ao 0 c]).run Tryz.prog w = .ok (.tuple #[]) w := by
  cases ao <;> simp [Builtin.clear_, run_underlying Tryz.underlying22]
theorem make0 (w : World) : ∃ W, (Instr.makeSlice 22 (.int .i64 0) (.int .i64 0)).run Tryz.prog w = .ok (.slice (some ⟨w.heap.size, 0, none⟩) 0 0) W ∧ Below w.heap.size w W := by
  obtain ⟨i, hi, hz, hs, hb⟩ := info_parts tinfo
  have := run_make (P := Tryz.prog) w 22 9 i _ Tryz.underlying22 hi hz .i64 .i64 0 0 (by omega) (by omega) (by rw [hb]; omega) (by omega)
  exact ⟨_, this, (Below.refl _ _).alloc (Nat.le_refl _) _⟩
set_option maxHeartbeats 2000000 in
theorem state0_any (l : Nat) (room n : Int) (L : List Lv) (w : World) (h : LD0 w l room n L) (hL : LOk L) :
    Calls Tryz.prog 10 #[.pointer (some ⟨l, 0, none⟩)] w fun e w' => (∃ u, e = .returned (s0V room u) ∧ RLv w' u L) ∧ Below w.heap.size w w' := by
  obtain ⟨g, m1, wh, m2, hl, hg, hm1, hwh, hm2⟩ := h
  obtain ⟨W0, hW0⟩ : ∃ W0, w.alloc (.cells (stC 0 (.slice none 0 0)) 32) = W0 := ⟨_, rfl⟩
  have B0 := hid (show Below w.heap.size w W0 by rw [← hW0]; exact (Below.refl _ _).alloc (Nat.le_refl _) _)
  have R0 := hid (show Hb W0 w.heap.size (.cells (stC 0 (.slice none 0 0)) 32 (0, 0)) by rw [← hW0]; exact heap_alloc_new w _)
  have z0 := hid (show W0.heap.size = w.heap.size + 1 by rw [← hW0]; simp)
  have HL := hid (hl.later B0.out)
  have HG := hid (hg.later B0.out)
  have HM1 := hid (hm1.later B0.out)
  have HM2 := hid (hm2.later B0.out)
  have HWh := hid (hwh.later B0.out)
  have HK := hid (show ∀ wx, LtB W0 wx → wx.cell? ⟨l, 0, none⟩ = some (.int .i64 room) ∧ wx.cell? ⟨l, 1, none⟩ = some (.int .i64 0) ∧ wx.cell? ⟨l, 3, none⟩ = some (.slice (some ⟨g, 0, none⟩) L.length L.length) ∧ wx.cell? ⟨l, 5, none⟩ = some (.pointer (some ⟨wh, 0, none⟩)) from fun wx hx => by
    have h1 := HL.out.later hx
    unfold Hb at h1
    exact ⟨by rw [Lib.cell_of_heap h1]; rfl, by rw [Lib.cell_of_heap h1]; rfl, by rw [Lib.cell_of_heap h1]; rfl, by rw [Lib.cell_of_heap h1]; rfl⟩)
  have CN := hid (fun wx (hx : LtB W0 wx) => now0_any wh wx (HWh.out.later hx))
  have CC := hid (fun wx (hx : LtB W0 wx) => copiedLv_any (some ⟨g, 0, none⟩) L.length L wx (vc_reads (HG.out.later hx) (by have := hL.2.1; omega)) (by have := hL.2.1; omega) hL.1)
  have hst : ∀ (wx : World) (a : Option Addr) (p q : Nat), (stSt ⟨wx.heap.size, 0, none⟩ (.agg #[.int .i64 room, .int .i64 0, .int .i64 0, .slice a p q, .slice none 0 0, .slice none 0 0])).run Tryz.prog (wx.alloc (.cells #[.int .i64 0, .int .i64 0, .int .i64 0, .slice none 0 0, .slice none 0 0, .slice none 0 0] 32)) = .ok () (wx.alloc (.cells #[.int .i64 room, .int .i64 0, .int .i64 0, .slice a p q, .slice none 0 0, .slice none 0 0] 32)) :=
    fun wx a p q => run_storeVar_new wx _ _ _ stsize rfl (by simp [Value.oneCell'])
  have s00 : LtB W0 W0 := Below.refl _ _
  have s0 : LtB W0 W0.drew := (Below.refl _ _).drew
  unfold stC at hW0
  have hLn := hid (show L.length ≤ 9223372036854775807 by have := hL.2.1; omega)
  clear hl hg hm1 hwh hm2 hL
  go_enter Tryz.func10, Tryz.ntmps10
  go_wp2_with fail
  try rw [hW0]
  clear hW0
  go_cut [3] from 14 to 32 (fun p wx => ∃ sb gg, p = .pointer (some ⟨sb, 0, none⟩) ∧ Hb wx sb (.cells (stC room (.slice (some ⟨gg, 0, none⟩) L.length L.length)) 32 (0, 0)) ∧ Hb wx gg (.cells (vc L).toArray 46 (0, 0)) ∧ LtB W0 wx)
  case first =>
    go_region_held3 (fun wx => wx.cell? ⟨l, 0, none⟩ = some (.int .i64 room) ∧ wx.cell? ⟨l, 1, none⟩ = some (.int .i64 0) ∧ wx.cell? ⟨l, 3, none⟩ = some (.slice (some ⟨g, 0, none⟩) L.length L.length) ∧ wx.cell? ⟨l, 5, none⟩ = some (.pointer (some ⟨wh, 0, none⟩))) ((refine HK.out _ ?_; repeat (first | assumption | refine LtB.alloc ?_ _ | refine LtB.drew ?_))) (first
      | (go_at_call 26; refine (CN.out _ ?_).mono ?_; (repeat (first | assumption | refine LtB.alloc ?_ _ | refine LtB.drew ?_)); rintro e w3 ⟨rfl, hw3⟩; replace hw3 := hw3.symm; subst hw3)
      | (go_at_call 27; refine (CC.out _ ?_).mono ?_; (repeat (first | assumption | refine LtB.alloc ?_ _ | refine LtB.drew ?_)); rintro e w5 ⟨rfl, h5, z5, s5⟩; have h5' : Hb w5 _ _ := h5; (try simp only [World.size_alloc] at h5'); clear h5 z5; have s6 : LtB W0 w5 := (by (refine LtB.step ?_ s5; repeat (first | assumption | refine LtB.alloc ?_ _ | refine LtB.drew ?_))); (first | (have hz := Hb.later (Hb.drew (Hb.new W0 (.cells (stC 0 (.slice none 0 0)) 32 (0, 0)))) s5; obtain ⟨W6, E6, R6, g6, z6⟩ := run_stSt hz room (.slice (some ⟨W0.heap.size + 1, 0, none⟩) L.length L.length) rfl; unfold s0V at E6; have s7 : LtB W0 W6 := ltb_gb s6 g6 (Nat.le_refl _); have h6 : Hb w5 (W0.alloc (.cells (stC 0 (.slice none 0 0)) 32 (0, 0))).heap.size (.cells (vc L).toArray 46 (0, 0)) := h5'; rw [World.size_alloc] at h6) | skip)))
    all_goals
      go_wp2_with fail
      go_meet
      first
        | exact ⟨_, _, rfl, R6, (g6.block _ (Array.getElem?_eq_some_iff.1 h6).1 (by intro e; have := Option.some.inj e; omega)).trans h6, s7⟩
        | exact ⟨_, _, rfl, Hb.new _ _, Hb.alloc h5' _, LtB.alloc s6 _⟩
        | exact ⟨_, _, rfl, Hb.drew (Hb.new _ _), Hb.drew (Hb.alloc h5' _), LtB.drew (LtB.alloc s6 _)⟩
  case rest =>
    obtain ⟨sb, gg, rfl, hsb, hgg, hlt⟩ := hcut
    have HSB := hid hsb
    have HGG := hid hgg
    have HLt := hid hlt
    have HC := hid (show ∀ wx, LtB W0 wx → wx.cell? ⟨l, 4, none⟩ = some (.map (some m1)) ∧ wx.cell? ⟨l, 6, none⟩ = some (.map (some m2)) from fun wx hx => by
      have h1 := HL.out.later hx
      unfold Hb at h1
      exact ⟨by rw [Lib.cell_of_heap h1]; rfl, by rw [Lib.cell_of_heap h1]; rfl⟩)
    have x1 : wc.heap[m1]? = some (.map #[] 0) := HM1.out.later hlt
    have x2 : wc.heap[m2]? = some (.map #[] 0) := HM2.out.later hlt
    have HI1 := hid (fun g c wx (hx : LtB W0 wx) => inOrderL_nil g c m1 wx (HM1.out.later hx))
    have HI2 := hid (fun g c wx (hx : LtB W0 wx) => inOrderD_nil g c m2 wx (HM2.out.later hx))
    obtain ⟨e4, e6⟩ := HC.out wc.drew hlt.drew
    have y1 : wc.drew.heap[m1]? = some (.map #[] 0) := x1
    have y2 : wc.drew.heap[m2]? = some (.map #[] 0) := x2
    have n1 := len_map0 Tryz.underlying67 wc.drew m1 y1
    have n2 := len_map0 Tryz.underlying69 wc.drew m2 y2
    obtain ⟨W4, mk4, b4⟩ := make0 wc.drew
    have t4 := hid (LtB.step hlt.drew b4)
    obtain ⟨f4, f6⟩ := HC.out W4 t4.out
    have B4 := hid b4
    clear hsb hgg hlt HK CN CC s00 s0 hst b4 x1 x2 y1 y2
    go_wp2_with fail
    go_region_law (first
      | (refine step_len rfl _ rfl rfl (n1 _) ?_)
      | (refine step_len rfl _ rfl rfl (n2 _) ?_))
    all_goals
      clear mk4 n1 n2 e4 e6
      go_wp2_with fail
      refine Calls.mono (HI1.out _ _ _ t4.out) ?_
      rintro e w5 ⟨rfl, s5⟩
      have t5 := hid (LtB.step t4.out s5)
      have D5 := hid s5
      obtain ⟨g4, g6⟩ := HC.out w5 t5.out
      clear s5 f4 f6
      go_wp2_with fail
      refine wp_loop_rounds 1 ?_
      rw [rounds_succ]
      go_wp2_with fail
      rw [clear_none0]
      go_wp2_with fail
      refine Calls.mono (HI2.out _ _ _ t5.out) ?_
      rintro e w7 ⟨rfl, s7⟩
      have t7 := hid (LtB.step t5.out s7)
      have hlow := hid (show LtB wc w7 from LtB.step (LtB.step (LtB.step (LtB.drew (Below.refl _ _)) B4.out) D5.out) s7)
      have E7 := run_stLd (HSB.out.later hlow.out)
      obtain ⟨W8, E8, R8, g8, z8⟩ := run_stSt (R0.out.later t7.out) room (.slice (some ⟨gg, 0, none⟩) L.length L.length) rfl
      have E9 := hid (run_stLd R8)
      have GG7 := hid (HGG.out.later hlow.out)
      have HG8 := hid g8
      have hne := hid (show gg ≠ w.heap.size from fun e => by
        have a1 := HGG.out
        have a2 := R0.out.later HLt.out
        unfold Hb at a1 a2
        rw [e, a2] at a1
        simp at a1)
      clear s7 R8 g8 z8 g4 g6
      go_wp2_with fail
      refine wp_loop_rounds 1 ?_
      rw [rounds_succ]
      go_wp2_with fail
      have E9' := E9.out
      refine bodyPost_ret (v := s0V room (.slice (some ⟨gg, 0, none⟩) L.length L.length)) (by simp [results, Tryz.results10, asAddr, ↓stLd_op, E9']) rfl ?_
      have hgl : Hb W8 gg (.cells (vc L).toArray 46 (0, 0)) := (HG8.out.block _ (Array.getElem?_eq_some_iff.1 GG7.out).1 (fun e => hne.out (by have := Option.some.inj e; omega))).trans GG7.out
      refine ⟨⟨_, rfl, vc_reads hgl hLn.out⟩, ?_⟩
      have h7 : Below w.heap.size w w7 := Below.trans B0.out (t7.out.mono (by have := z0.out; omega))
      exact Below.grown h7 HG8.out (Below.size h7) (fun k hk => by cases hk; exact Nat.le_refl _)
end Go.Proofs.YtdodockemkmmpaaGreat
