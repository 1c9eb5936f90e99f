/-
  The document's CopyState. Laid by mksd5.py.
-/
import Derived.Test.YtfhicemfhkhjaabSd4
import Derived.Test.YtfhicemfhkhjaabSb2
namespace Go.Proofs.Ytfhicemfhkhjaab
open Go.RowKit
set_option maxRecDepth 100000

theorem cells_of_vc {w : World} {b off : Nat} {M : List Lv} (h : ∀ j (hj : j < M.length), w.cell? ⟨b, off + j * 3, none⟩ = some (.string M[j].1) ∧ w.cell? ⟨b, off + j * 3 + 1, none⟩ = some (.int .i64 M[j].2.1) ∧ w.cell? ⟨b, off + j * 3 + 2, none⟩ = some (.int .i64 M[j].2.2)) :
    ∀ j u, (vc M)[j]? = some u → w.cell? ((⟨b, off, none⟩ : Addr).add j) = some u := by
  intro j u hu
  have hj : j < M.length * 3 := by
    have := (List.getElem?_eq_some_iff.1 hu).1
    rwa [vc_len] at this
  rw [Addr.add_lit]
  obtain ⟨i, hi⟩ : ∃ i, j = i * 3 ∨ j = i * 3 + 1 ∨ j = i * 3 + 2 := ⟨j / 3, by omega⟩
  have hin : i < M.length := by omega
  have e := vc_at M i hin
  rcases hi with rfl | rfl | rfl
  · rw [e.1] at hu
    cases hu
    exact (h i hin).1
  · rw [e.2.1] at hu
    cases hu
    exact (h i hin).2.1
  · rw [e.2.2] at hu
    cases hu
    exact (h i hin).2.2
/-- append of levels, of lines that are read, to nothing -/
theorem run_levels0 {w : World} {xv : Value} {M : List Lv} {base : Nat} (hr : RLv w xv M) (hlen : M.length ≤ 1000000000000) (hbase : base ≤ w.heap.size) : ∃ v' w', (Builtin.append_ #[26, 26] 26 #[.slice none 0 0, xv]).run Try.prog w = .ok v' w' ∧ OLv w' base v' M ∧ w.grownBy w' none := by
  obtain ⟨i, hi, hz, hsz, hby⟩ := info_parts lvinfo
  have key : ∀ ad cap, xv = .slice (some ad) M.length cap → (∀ j u, (vc M)[j]? = some u → w.cell? (ad.add j) = some u) → ∃ v' w', (Builtin.append_ #[26, 26] 26 #[.slice none 0 0, xv]).run Try.prog w = .ok v' w' ∧ OLv w' base v' M ∧ w.grownBy w' none := by
    intro ad cap hxv hnews
    obtain ⟨v', w', h1, h2, h3, _⟩ := run_append_own (P := Try.prog) w base 26 26 77 i (.agg #[.string ⟨#[]⟩, .int .i64 0, .int .i64 0]) 3 32 Try.underlying26 hi hz hsz hby rfl (by decide) (.slice none 0 0) 0 [] (World.ownsRow_nil _ _ _ _) ad M.length cap (vc M) (vc_len M) hnews (vc_one _) (by unfold maxLen; omega) (by omega) hbase
    rw [hxv]
    exact ⟨v', w', h1, by simpa [OLv] using h2, h3⟩
  rcases hr with ⟨rfl, ao, cap, rfl, hcap⟩ | ⟨b, off, cap, rfl, hl, hcell⟩
  · cases ao with
    | none =>
      obtain rfl := hcap rfl
      exact ⟨.slice none 0 0, w, by kernel_rfl, World.ownsRow_nil _ _ _ _, ⟨rfl, rfl, rfl, Nat.le_refl _, fun _ _ _ => rfl⟩⟩
    | some ad => exact key ad cap rfl (fun j u hj => by simp [vc] at hj)
  · exact key _ cap rfl (cells_of_vc hcell)
theorem run_lines0 {w : World} {xv : Value} {M : List Ln} {base : Nat} (hr : RLn w xv M) (hlen : M.length ≤ 1000000000000) (hbase : base ≤ w.heap.size) : ∃ v' w', (Builtin.append_ #[22, 22] 22 #[.slice none 0 0, xv]).run Try.prog w = .ok v' w' ∧ OLn w' base v' M ∧ w.grownBy w' none := by
  obtain ⟨i, hi, hz, hsz, hby⟩ := info_parts lninfo
  have key : ∀ ad cap, xv = .slice (some ad) M.length cap → (∀ j u, (lc M)[j]? = some u → w.cell? (ad.add j) = some u) → ∃ v' w', (Builtin.append_ #[22, 22] 22 #[.slice none 0 0, xv]).run Try.prog w = .ok v' w' ∧ OLn w' base v' M ∧ w.grownBy w' none := by
    intro ad cap hxv hnews
    obtain ⟨v', w', h1, h2, h3, _⟩ := run_append_own (P := Try.prog) w base 22 22 75 i (.agg #[.string ⟨#[]⟩, .int .i64 0]) 2 24 Try.underlying22 hi hz hsz hby rfl (by decide) (.slice none 0 0) 0 [] (World.ownsRow_nil _ _ _ _) ad M.length cap (lc M) (lc_len M) hnews (lc_one _) (by unfold maxLen; omega) (by omega) hbase
    rw [hxv]
    exact ⟨v', w', h1, by simpa [OLn] using h2, h3⟩
  rcases hr with ⟨rfl, ao, cap, rfl, hcap⟩ | ⟨b, off, cap, rfl, hl, hcell⟩
  · cases ao with
    | none =>
      obtain rfl := hcap rfl
      exact ⟨.slice none 0 0, w, by kernel_rfl, World.ownsRow_nil _ _ _ _, ⟨rfl, rfl, rfl, Nat.le_refl _, fun _ _ _ => rfl⟩⟩
    | some ad => exact key ad cap rfl (fun j u hj => by simp [lc] at hj)
  · exact key _ cap rfl (cells_of_lc hcell)
theorem wpList_appV0 {w : World} {ops : Array Oper} {rest : List Oper} {o : Oper} {a : Act} {Q : Exit → Act → World → Prop} (hgd : o.guard = none) (s x : Operand)
    (ho : o.op = .call { callee := .builtin .append, args := #[s, x], argTypes := #[26, 26] }) (hty : o.type = 26) (xv : Value) (hs : a.eval s = .slice none 0 0) (hx : a.eval x = xv) {v' : Value} {w' : World} (hrun : (Builtin.append_ #[26, 26] 26 #[.slice none 0 0, xv]).run Try.prog w = .ok v' w')
    (h : wpList Try.prog ops Q rest (a.put o.dst v') w') : wpList Try.prog ops Q (o :: rest) a w := by
  refine wpList_plain hgd fun _ hK => ?_
  unfold Oper.wp
  simp [execOp, ho, hty, resolve, invoke, builtin, hs, hx, hrun, Result.andThen]
  exact hK _ _ h
set_option maxHeartbeats 16000000 in
theorem copyState_any (s : Sx) (a1 : Option Addr) (p1 : Nat) (a2 : Option Addr) (p2 : Nat) (a3 : Option Addr) (p3 : Nat) (w : World) (h1 : RLv w (.slice a1 s.levels.length p1) s.levels) (h2 : RHl w a2 s.holds) (h3 : RDn w a3 s.done) (hs : ShortS s) :
    Calls Try.prog 25 #[sxV s a1 p1 a2 p2 a3 p3] w fun e w' => ∃ v1 v2 v3, e = .returned (.agg (sxC s v1 v2 v3)) ∧ OS w' w.heap.size v1 v2 v3 s ∧ Below w.heap.size w w' := by
  unfold sxV
  obtain ⟨W, hW⟩ : ∃ W, ((w.alloc (.cells #[.int .i64 s.room, .int .i64 s.lsn, .int .i64 s.now, .slice a1 s.levels.length p1, .slice a2 s.holds.length p2, .slice a3 s.done.length p3] 32)).alloc (.cells #[.int .i64 0, .int .i64 0, .int .i64 0, .slice none 0 0, .slice none 0 0, .slice none 0 0] 32)).alloc (.cells #[.int .i64 s.room, .int .i64 s.lsn, .int .i64 s.now, .slice none 0 0, .slice none 0 0, .slice none 0 0] 32) = W := ⟨_, rfl⟩
  have BW := hid (show Below w.heap.size w W by rw [← hW]; exact (((Below.refl _ _).alloc (Nat.le_refl _) _).alloc (by rw [World.size_alloc]; omega) _).alloc (by rw [World.size_alloc, World.size_alloc]; omega) _)
  have zW : W.heap.size = w.heap.size + 3 := by rw [← hW]; simp only [World.size_alloc]
  have R0 := hid (show W.heap[w.heap.size]? = some (.cells #[.int .i64 s.room, .int .i64 s.lsn, .int .i64 s.now, .slice a1 s.levels.length p1, .slice a2 s.holds.length p2, .slice a3 s.done.length p3] 32 (0, 0)) by
    rw [← hW, heap_alloc_old _ _ (by simp only [World.size_alloc]; omega), heap_alloc_old _ _ (by simp only [World.size_alloc]; omega)]
    exact heap_alloc_new w _)
  have R1 := hid (show W.heap[w.heap.size + 1]? = some (.cells #[.int .i64 0, .int .i64 0, .int .i64 0, .slice none 0 0, .slice none 0 0, .slice none 0 0] 32 (0, 0)) by
    rw [← hW, heap_alloc_old _ _ (by simp only [World.size_alloc]; omega)]
    have := heap_alloc_new (w.alloc (.cells #[.int .i64 s.room, .int .i64 s.lsn, .int .i64 s.now, .slice a1 s.levels.length p1, .slice a2 s.holds.length p2, .slice a3 s.done.length p3] 32)) (.cells #[.int .i64 0, .int .i64 0, .int .i64 0, .slice none 0 0, .slice none 0 0, .slice none 0 0] 32)
    rwa [World.size_alloc] at this)
  have R2 := hid (show W.heap[w.heap.size + 2]? = some (.cells #[.int .i64 s.room, .int .i64 s.lsn, .int .i64 s.now, .slice none 0 0, .slice none 0 0, .slice none 0 0] 32 (0, 0)) by
    rw [← hW]
    have := heap_alloc_new ((w.alloc (.cells #[.int .i64 s.room, .int .i64 s.lsn, .int .i64 s.now, .slice a1 s.levels.length p1, .slice a2 s.holds.length p2, .slice a3 s.done.length p3] 32)).alloc (.cells #[.int .i64 0, .int .i64 0, .int .i64 0, .slice none 0 0, .slice none 0 0, .slice none 0 0] 32)) (.cells #[.int .i64 s.room, .int .i64 s.lsn, .int .i64 s.now, .slice none 0 0, .slice none 0 0, .slice none 0 0] 32)
    rwa [World.size_alloc, World.size_alloc] at this)
  have HW := hid hW
  obtain ⟨l1, l2, l3, l4, l5⟩ := hs
  have H2 := hid h2
  have H3 := hid h3
  have L4 := hid l4
  have L5 := hid l5
  obtain ⟨lv, wA, hrun, hOl, hgr⟩ := run_levels0 (base := W.heap.size) (h1.below BW.out) l1 (Nat.le_refl _)
  obtain ⟨lo, ln, lp, rfl⟩ := hOl.form
  have bA : Below W.heap.size W wA := ⟨hgr.os, hgr.tape, hgr.output, hgr.size, fun k hk => hgr.block k hk (fun e => by cases e)⟩
  have zA := bA.size
  have HRun := hid hrun
  have c3 : W.cell? ⟨w.heap.size, 3, none⟩ = some (.slice a1 s.levels.length p1) := by rw [Lib.cell_of_heap R0.out]; rfl
  have d3 : W.cell? ⟨w.heap.size + 2, 3, none⟩ = some (.slice none 0 0) := by rw [Lib.cell_of_heap R2.out]; rfl
  have RA := hid ((bA.block (w.heap.size + 2) (by omega)).trans R2.out)
  have e3 : wA.cell? ⟨w.heap.size + 2, 3, none⟩ = some (.slice none 0 0) := by rw [Lib.cell_of_heap RA.out]; rfl
  have e3f : wA.frozen? ⟨w.heap.size + 2, 3, none⟩ = false := Lib.frozen_of_heap RA.out 3
  obtain ⟨W1, hW1⟩ : ∃ W1, wA.setCell ⟨w.heap.size + 2, 3, none⟩ (.slice lo ln lp) = W1 := ⟨_, rfl⟩
  have Q2 := hid (show W1.heap[w.heap.size + 2]? = some (.cells #[.int .i64 s.room, .int .i64 s.lsn, .int .i64 s.now, .slice lo ln lp, .slice none 0 0, .slice none 0 0] 32 (0, 0)) by rw [← hW1]; exact heap_setCell_same wA _ 3 _ _ _ RA.out)
  have K1 : Tb (w.heap.size + 2) (w.heap.size + 2) wA W1 := by rw [← hW1]; exact Tb.set wA ⟨w.heap.size + 2, 3, none⟩ _ (.inl rfl)
  have Q0 := hid (show W1.heap[w.heap.size]? = some (.cells #[.int .i64 s.room, .int .i64 s.lsn, .int .i64 s.now, .slice a1 s.levels.length p1, .slice a2 s.holds.length p2, .slice a3 s.done.length p3] 32 (0, 0)) from (K1.block _ (by omega) (by omega) (by omega)).trans ((bA.block _ (by omega)).trans R0.out))
  have Q1 := hid (show W1.heap[w.heap.size + 1]? = some (.cells #[.int .i64 0, .int .i64 0, .int .i64 0, .slice none 0 0, .slice none 0 0, .slice none 0 0] 32 (0, 0)) from (K1.block _ (by omega) (by omega) (by omega)).trans ((bA.block _ (by omega)).trans R1.out))
  have OL := hid (show OLv W1 W.heap.size (.slice lo ln lp) s.levels from hOl.keep (fun k h1 h2 => K1.block k h2 (by omega) (by omega)))
  have z1 : W1.heap.size = wA.heap.size := by rw [← hW1]; simp
  have B1 := hid ((BW.out.trans (bA.mono (by omega))).trans (K1.lows (B := w.heap.size) (by omega) (by omega)))
  have HW1 := hid hW1
  have zWl : w.heap.size + 3 ≤ W1.heap.size := by omega
  clear h1 h2 h3 hW hrun hOl hgr bA K1 hW1 l4 l5 R0 R1 R2 z1 zA
  go_enter Try.func25, Try.ntmps25
  go_upto_region 2 with fail
  rw [HW.out]
  go_wp2_with (at_builtin; go_loud (refine wpList_appV0 rfl _ _ rfl rfl _ rfl rfl HRun.out ?_))
  rw [HW1.out]
  clear c3 d3 e3 e3f HRun HW HW1 RA
  have c4' : W1.cell? ⟨w.heap.size, 4, none⟩ = some (.slice a2 s.holds.length p2) := by rw [Lib.cell_of_heap Q0.out]; rfl
  have c5' : W1.cell? ⟨w.heap.size, 5, none⟩ = some (.slice a3 s.done.length p3) := by rw [Lib.cell_of_heap Q0.out]; rfl
  go_loopw [4] (fun vi wx => ∃ (j : Nat) (ho : Option Addr) (hn hp : Nat), j ≤ s.holds.length ∧ vi = .int .i64 (j : Int) ∧ wx.heap[w.heap.size + 2]? = some (.cells #[.int .i64 s.room, .int .i64 s.lsn, .int .i64 s.now, .slice lo ln lp, .slice ho hn hp, .slice none 0 0] 32 (0, 0)) ∧ OHl wx W1.heap.size (.slice ho hn hp) (s.holds.take j) ∧ Tb (w.heap.size + 2) (w.heap.size + 2) W1 wx) (fun vi _ => s.holds.length - (intOf vi).toNat)
  case atStart => exact ⟨0, none, 0, 0, Nat.zero_le _, rfl, Q2.out, OHl.nil _ _, Tb.of_below (Below.refl _ _)⟩
  case round =>
    obtain ⟨j, ho, hn, hp, hj, rfl, hR, hO, ht⟩ := hrel
    have HR := hid hR
    have HO := hid hO
    have HTb := hid ht
    have hzw := ht.size
    have hBw : Below w.heap.size w wr := B1.out.trans (ht.lows (B := w.heap.size) (by omega) (by omega))
    have q0 : wr.heap[w.heap.size]? = some (.cells #[.int .i64 s.room, .int .i64 s.lsn, .int .i64 s.now, .slice a1 s.levels.length p1, .slice a2 s.holds.length p2, .slice a3 s.done.length p3] 32 (0, 0)) := (ht.block _ (by omega) (by omega) (by omega)).trans Q0.out
    have c4 : wr.cell? ⟨w.heap.size, 4, none⟩ = some (.slice a2 s.holds.length p2) := by rw [Lib.cell_of_heap q0]; rfl
    by_cases h : j < s.holds.length
    · have hI : (j : Int) < (s.holds.length : Int) := by omega
      obtain ⟨b8, o8, u8, v8, rfl, e0, e1, er, e2⟩ := H2.out.below hBw j h
      have bz : Below wr.heap.size wr (wr.alloc (.cells #[.string ⟨#[]⟩, .slice none 0 0, .int .i64 0] 79)) := (Below.refl _ _).alloc (Nat.le_refl _) _
      have zc4 := below_cells bz _ _ c4
      have ze0 := below_cells bz _ _ e0
      have ze2 := below_cells bz _ _ e2
      have yc4 : (wr.alloc (.cells #[.string ⟨#[]⟩, .slice none 0 0, .int .i64 0] 79)).drew.cell? ⟨w.heap.size, 4, none⟩ = _ := zc4
      have ye0 : (wr.alloc (.cells #[.string ⟨#[]⟩, .slice none 0 0, .int .i64 0] 79)).drew.cell? ⟨b8, o8 + j * 3, none⟩ = _ := ze0
      have ye2 : (wr.alloc (.cells #[.string ⟨#[]⟩, .slice none 0 0, .int .i64 0] 79)).drew.cell? ⟨b8, o8 + j * 3 + 2, none⟩ = _ := ze2
      have HB := hid hBw
      have HE1 := hid e1
      have HEr := hid er
      clear hR hO ht q0 er hBw e1
      go_upto_region 6 with fail
      go_region
      obtain ⟨Y, hY⟩ : ∃ Y, (wr.alloc (.cells #[.string (s.holds[j]'h).id, .slice none 0 0, .int .i64 (s.holds[j]'h).dead] 79)).drew = Y := ⟨_, rfl⟩
      rw [hY]
      have bY : Below wr.heap.size wr Y := by rw [← hY]; exact ((Below.refl _ _).alloc (Nat.le_refl _) _).drew
      have rY : Y.heap[wr.heap.size]? = some (.cells #[.string (s.holds[j]'h).id, .slice none 0 0, .int .i64 (s.holds[j]'h).dead] 79 (0, 0)) := by rw [← hY]; exact heap_alloc_new wr _
      have zY : Y.heap.size = wr.heap.size + 1 := by rw [← hY]; exact World.size_alloc _ _
      clear zc4 ze0 ze2 yc4 ye0 ye2 bz e0 e2 c4'
      have hln := L4.out j h
      obtain ⟨lv, wB, hrun, hOl, hgr⟩ := run_lines0 (w := Y.drew) (base := Y.heap.size) (show RLn Y.drew (.slice u8 (s.holds[j]'h).lines.length v8) (s.holds[j]'h).lines from (HEr.out.below bY).below ((Below.refl _ _).drew)) hln (Nat.le_refl _)
      obtain ⟨xo, xn, xp, rfl⟩ := hOl.form
      have bB : Below Y.heap.size Y wB := (show Below Y.heap.size Y Y.drew from (Below.refl _ _).drew).trans ⟨hgr.os, hgr.tape, hgr.output, hgr.size, fun k hk => hgr.block k hk (fun e => by cases e)⟩
      have zB := bB.size
      have rB : wB.heap[wr.heap.size]? = some (.cells #[.string (s.holds[j]'h).id, .slice none 0 0, .int .i64 (s.holds[j]'h).dead] 79 (0, 0)) := (bB.block _ (by omega)).trans rY
      have HAP := hid hrun
      have x1 : Y.drew.cell? ⟨wr.heap.size, 1, none⟩ = some (.slice none 0 0) := by show Y.cell? _ = _; rw [Lib.cell_of_heap rY]; rfl
      have x2 : Y.drew.cell? ⟨w.heap.size, 4, none⟩ = some (.slice (some ⟨b8, o8, none⟩) s.holds.length p2) := below_cells bY _ _ c4
      have x3 : Y.drew.cell? ⟨b8, o8 + j * 3 + 1, none⟩ = some (.slice u8 (s.holds[j]'h).lines.length v8) := below_cells bY _ _ HE1.out
      have x4 : wB.cell? ⟨wr.heap.size, 1, none⟩ = some (.slice none 0 0) := by rw [Lib.cell_of_heap rB]; rfl
      have x4f : wB.frozen? ⟨wr.heap.size, 1, none⟩ = false := Lib.frozen_of_heap rB 1
      obtain ⟨Y2, hY2⟩ : ∃ Y2, wB.setCell ⟨wr.heap.size, 1, none⟩ (.slice xo xn xp) = Y2 := ⟨_, rfl⟩
      have rY2 : Y2.heap[wr.heap.size]? = some (.cells #[.string (s.holds[j]'h).id, .slice xo xn xp, .int .i64 (s.holds[j]'h).dead] 79 (0, 0)) := by rw [← hY2]; exact heap_setCell_same wB _ 1 _ _ _ rB
      have zY2 : Y2.heap.size = wB.heap.size := by rw [← hY2]; simp
      have bY2 : Below wr.heap.size wr Y2 := (bY.trans (bB.mono (by omega))).trans (by rw [← hY2]; exact (Below.refl _ _).setCell (p := ⟨wr.heap.size, 1, none⟩) (Nat.le_refl _) _)
      have oY2 : OLn Y2 Y.heap.size (.slice xo xn xp) (s.holds[j]'h).lines := hOl.own (fun kk hk => by rw [← hY2]; exact heap_setCell_other wB ⟨wr.heap.size, 1, none⟩ kk _ (by show kk ≠ wr.heap.size; have := (World.ownsRow.lt hOl kk hk).1; omega))
      have rs : Y2.heap[w.heap.size + 2]? = some (.cells #[.int .i64 s.room, .int .i64 s.lsn, .int .i64 s.now, .slice lo ln lp, .slice ho hn hp, .slice none 0 0] 32 (0, 0)) := (bY2.block _ (by have := (Array.getElem?_eq_some_iff.1 HR.out).1; omega)).trans HR.out
      have HO9 : OHl Y2 W1.heap.size (.slice ho hn hp) (s.holds.take j) := HO.out.old (fun k _ h2 => bY2.block k h2)
      obtain ⟨W6, hW6⟩ : ∃ W6, Y2.alloc (.cells #[.string (s.holds[j]'h).id, .slice xo xn xp, .int .i64 (s.holds[j]'h).dead] 79) = W6 := ⟨_, rfl⟩
      have R6 := hid (show W6.heap[Y2.heap.size]? = some (.cells #[.string (s.holds[j]'h).id, .slice xo xn xp, .int .i64 (s.holds[j]'h).dead] 79 (0, 0)) by rw [← hW6]; exact heap_alloc_new Y2 _)
      have b6 : Below Y2.heap.size Y2 W6 := by rw [← hW6]; exact (Below.refl _ _).alloc (Nat.le_refl _) _
      have z6 : W6.heap.size = Y2.heap.size + 1 := by rw [← hW6, World.size_alloc]
      have HO6 := hid (HO9.old (fun k _ h2 => b6.block k h2))
      have OL6 := hid (show OLn W6 W1.heap.size (.slice xo xn xp) (s.holds[j]'h).lines from (oY2.own (fun kk hk => b6.block kk (World.ownsRow.lt oY2 kk hk).2)).lower (by omega))
      have hnn : ∀ k, (Value.slice xo xn xp).ownBlock = some k → (Value.slice ho hn hp).ownBlock ≠ some k := fun k g1 g2 => by
        have a1 := (World.ownsRow.lt oY2 k g1).1
        have a2 := (HO.out.block_ge k g2).2
        omega
      have qq0 : Y2.cell? ⟨wr.heap.size, 0, none⟩ = some (.string (s.holds[j]'h).id) := by rw [Lib.cell_of_heap rY2]; rfl
      have qq1 : Y2.cell? ⟨wr.heap.size, 1, none⟩ = some (.slice xo xn xp) := by rw [Lib.cell_of_heap rY2]; rfl
      have qq2 : Y2.cell? ⟨wr.heap.size, 2, none⟩ = some (.int .i64 (s.holds[j]'h).dead) := by rw [Lib.cell_of_heap rY2]; rfl
      have qs : Y2.cell? ⟨w.heap.size + 2, 4, none⟩ = some (.slice ho hn hp) := by rw [Lib.cell_of_heap rs]; rfl
      have HLt := hid (show s.holds.take (j + 1) = s.holds.take j ++ [(s.holds[j]'h)] from List.take_succ_eq_append_getElem h)
      have hJl : (s.holds.take j).length ≤ 1000000000000 := by rw [List.length_take]; omega
      have hbz : W1.heap.size ≤ W6.heap.size := by omega
      have HY2 := hid hY2
      have HT6 := hid (show Tb (w.heap.size + 2) (w.heap.size + 2) W1 W6 from HTb.out.trans (Tb.of_below (bY2.trans (b6.mono (by have := bY2.size; omega)))))
      have R9 := hid (show W6.heap[w.heap.size + 2]? = some (.cells #[.int .i64 s.room, .int .i64 s.lsn, .int .i64 s.now, .slice lo ln lp, .slice ho hn hp, .slice none 0 0] 32 (0, 0)) from (b6.block _ (by have := (Array.getElem?_eq_some_iff.1 rs).1; omega)).trans rs)
      have hx6 : w.heap.size + 2 < W1.heap.size := by have := (Array.getElem?_eq_some_iff.1 Q2.out).1; omega
      clear rs HO9 oY2 bY2 b6 hY2 rB bB hgr hOl hrun rY hY bY rY2 HO hln zY2
      go_upto_region 7 with fail
      go_cut [50] from 41 to 50 (fun _ wx => wx = Y2)
      case first =>
        go_region_law (refine step_app rfl _ _ rfl rfl rfl rfl HAP.out ?_)
        all_goals (go_wp2_with fail; go_meet; exact HY2.out)
      case rest =>
      have hcu := hcut.symm
      clear hcut
      subst hcu
      clear x1 x2 x3 x4 x4f HAP HY2
      go_wp2_with (at_builtin; go_loud (refine wpList_appHl rfl _ _ rfl W1.heap.size _ (s.holds.take j) rfl HO6.out Y2.heap.size (s.holds[j]'h) (.slice xo xn xp) rfl R6.out OL6.out hnn hJl hbz ?hnext))
      case hnext =>
      intro v7 w7 ho7 hg7 _
      have T7 := hid (HT6.out.grow2 hg7 (fun k hk => (HO6.out.block_ge k hk).1))
      have R7 := hid (show w7.heap[w.heap.size + 2]? = some (.cells #[.int .i64 s.room, .int .i64 s.lsn, .int .i64 s.now, .slice lo ln lp, .slice ho hn hp, .slice none 0 0] 32 (0, 0)) from (hg7.block _ (by omega) (fun e => by have := (HO6.out.block_ge _ e.symm).1; omega)).trans R9.out)
      obtain ⟨vo, vn, vp, rfl⟩ := ho7.form
      obtain ⟨W8, hW8⟩ : ∃ W8, w7.setCell ⟨w.heap.size + 2, 4, none⟩ (.slice vo vn vp) = W8 := ⟨_, rfl⟩
      have R8 := hid (show W8.heap[w.heap.size + 2]? = some (.cells #[.int .i64 s.room, .int .i64 s.lsn, .int .i64 s.now, .slice lo ln lp, .slice vo vn vp, .slice none 0 0] 32 (0, 0)) by rw [← hW8]; exact heap_setCell_same w7 _ 4 _ _ _ R7.out)
      have T8 := hid (show Tb (w.heap.size + 2) (w.heap.size + 2) W1 W8 from T7.out.trans (by rw [← hW8]; exact Tb.set w7 ⟨w.heap.size + 2, 4, none⟩ _ (.inl rfl)))
      have o9 : OHl w7 W1.heap.size (.slice vo vn vp) (s.holds.take (j + 1)) := by first | exact ho7 | (rw [HLt.out]; exact ho7)
      have o8' : OHl W8 W1.heap.size (.slice vo vn vp) (s.holds.take (j + 1)) := o9.old (fun k hk _ => by rw [← hW8]; exact heap_setCell_other w7 ⟨w.heap.size + 2, 4, none⟩ k _ (by show k ≠ w.heap.size + 2; omega))
      have O8 := hid o8'
      have qt : w7.cell? ⟨w.heap.size + 2, 4, none⟩ = some (.slice ho hn hp) := by rw [Lib.cell_of_heap R7.out]; rfl
      have qtf : w7.frozen? ⟨w.heap.size + 2, 4, none⟩ = false := Lib.frozen_of_heap R7.out 4
      have HW8 := hid hW8
      clear ho7 hg7 HO6 R6 OL6 hnn T7 R7 R9 HT6 hW8 o9 o8'
      go_wp2_with fail
      rw [HW8.out]
      go_roundw
      case rel => exact ⟨j + 1, _, _, _, by omega, by go_num, R8.out, O8.out, T8.out⟩
      case measure => simp [intOf]; omega
    · obtain rfl : j = s.holds.length := by omega
      rw [List.take_length] at HO
      clear hR hO ht q0 hBw
      generalize ho = ko at *
      generalize hn = kn at *
      generalize hp = kp at *
      have Q3 := HR
      have P0 := hid (show wr.heap[w.heap.size]? = some (.cells #[.int .i64 s.room, .int .i64 s.lsn, .int .i64 s.now, .slice a1 s.levels.length p1, .slice a2 s.holds.length p2, .slice a3 s.done.length p3] 32 (0, 0)) from (HTb.out.block _ (by omega) (by omega) (by omega)).trans Q0.out)
      have P1 := hid (show wr.heap[w.heap.size + 1]? = some (.cells #[.int .i64 0, .int .i64 0, .int .i64 0, .slice none 0 0, .slice none 0 0, .slice none 0 0] 32 (0, 0)) from (HTb.out.block _ (by omega) (by omega) (by omega)).trans Q1.out)
      have OL2 := hid (OL.out.keep (fun k h1 h2 => HTb.out.block k h2 (by omega) (by omega)))
      have B2 := hid (B1.out.trans (HTb.out.lows (B := w.heap.size) (by omega) (by omega)))
      have OH2 := HO
      clear HR HO HTb Q0 Q1 OL B1 h hj
      go_wp2_with fail
      clear c4 c4' c5'
      generalize wr = W2 at *
      go_loopw [6] (fun vi wx => ∃ (j : Nat) (ho : Option Addr) (hn hp : Nat), j ≤ s.done.length ∧ vi = .int .i64 (j : Int) ∧ wx.heap[w.heap.size + 2]? = some (.cells #[.int .i64 s.room, .int .i64 s.lsn, .int .i64 s.now, .slice lo ln lp, .slice ko kn kp, .slice ho hn hp] 32 (0, 0)) ∧ ODn wx W2.heap.size (.slice ho hn hp) (s.done.take j) ∧ Tb (w.heap.size + 2) (w.heap.size + 2) W2 wx) (fun vi _ => s.done.length - (intOf vi).toNat)
      case atStart => exact ⟨0, none, 0, 0, Nat.zero_le _, rfl, Q3.out, ODn.nil _ _, Tb.of_below (Below.refl _ _)⟩
      case round =>
        obtain ⟨j, ho, hn, hp, hj, rfl, hR, hO, ht⟩ := hrel
        have HR := hid hR
        have HO := hid hO
        have HTb := hid ht
        have hzx := ht.size
        have hBw : Below w.heap.size w wr := B2.out.trans (ht.lows (B := w.heap.size) (by omega) (by omega))
        have q0 : wr.heap[w.heap.size]? = some (.cells #[.int .i64 s.room, .int .i64 s.lsn, .int .i64 s.now, .slice a1 s.levels.length p1, .slice a2 s.holds.length p2, .slice a3 s.done.length p3] 32 (0, 0)) := (ht.block _ (by omega) (by omega) (by omega)).trans P0.out
        have c5 : wr.cell? ⟨w.heap.size, 5, none⟩ = some (.slice a3 s.done.length p3) := by rw [Lib.cell_of_heap q0]; rfl
        by_cases h : j < s.done.length
        · have hI : (j : Int) < (s.done.length : Int) := by omega
          obtain ⟨b8, o8, u8, v8, rfl, e0, e1, e2, er, e3, e4, e5, e6⟩ := H3.out.below hBw j h
          have bz : Below wr.heap.size wr (wr.alloc (.cells #[.string ⟨#[]⟩, .int .i64 0, .slice none 0 0, .string ⟨#[]⟩, .int .i64 0, .int .i64 0, .int .i64 0] 81)) := (Below.refl _ _).alloc (Nat.le_refl _) _
          have zc5 := below_cells bz _ _ c5
          have ze0 := below_cells bz _ _ e0
          have ze1 := below_cells bz _ _ e1
          have ze2 := below_cells bz _ _ e2
          have ze3 := below_cells bz _ _ e3
          have ze4 := below_cells bz _ _ e4
          have ze5 := below_cells bz _ _ e5
          have ze6 := below_cells bz _ _ e6
          have yc5 : (wr.alloc (.cells #[.string ⟨#[]⟩, .int .i64 0, .slice none 0 0, .string ⟨#[]⟩, .int .i64 0, .int .i64 0, .int .i64 0] 81)).drew.cell? ⟨w.heap.size, 5, none⟩ = _ := zc5
          have ye0 : (wr.alloc (.cells #[.string ⟨#[]⟩, .int .i64 0, .slice none 0 0, .string ⟨#[]⟩, .int .i64 0, .int .i64 0, .int .i64 0] 81)).drew.cell? ⟨b8, o8 + j * 7, none⟩ = _ := ze0
          have ye1 : (wr.alloc (.cells #[.string ⟨#[]⟩, .int .i64 0, .slice none 0 0, .string ⟨#[]⟩, .int .i64 0, .int .i64 0, .int .i64 0] 81)).drew.cell? ⟨b8, o8 + j * 7 + 1, none⟩ = _ := ze1
          have ye2 : (wr.alloc (.cells #[.string ⟨#[]⟩, .int .i64 0, .slice none 0 0, .string ⟨#[]⟩, .int .i64 0, .int .i64 0, .int .i64 0] 81)).drew.cell? ⟨b8, o8 + j * 7 + 2, none⟩ = _ := ze2
          have ye3 : (wr.alloc (.cells #[.string ⟨#[]⟩, .int .i64 0, .slice none 0 0, .string ⟨#[]⟩, .int .i64 0, .int .i64 0, .int .i64 0] 81)).drew.cell? ⟨b8, o8 + j * 7 + 3, none⟩ = _ := ze3
          have ye4 : (wr.alloc (.cells #[.string ⟨#[]⟩, .int .i64 0, .slice none 0 0, .string ⟨#[]⟩, .int .i64 0, .int .i64 0, .int .i64 0] 81)).drew.cell? ⟨b8, o8 + j * 7 + 4, none⟩ = _ := ze4
          have ye5 : (wr.alloc (.cells #[.string ⟨#[]⟩, .int .i64 0, .slice none 0 0, .string ⟨#[]⟩, .int .i64 0, .int .i64 0, .int .i64 0] 81)).drew.cell? ⟨b8, o8 + j * 7 + 5, none⟩ = _ := ze5
          have ye6 : (wr.alloc (.cells #[.string ⟨#[]⟩, .int .i64 0, .slice none 0 0, .string ⟨#[]⟩, .int .i64 0, .int .i64 0, .int .i64 0] 81)).drew.cell? ⟨b8, o8 + j * 7 + 6, none⟩ = _ := ze6
          have HB := hid hBw
          have HE1 := hid e2
          have HEr := hid er
          clear hR hO ht q0 er hBw
          go_upto_region 12 with fail
          go_region
          clear zc5 ze0 ze1 ze2 ze3 ze4 ze5 ze6 yc5 ye0 ye1 ye2 ye3 ye4 ye5 ye6 bz e0 e1 e2 e3 e4 e5 e6
          obtain ⟨Y0, hY0⟩ : ∃ Y0, (wr.alloc (.cells #[.string (s.done[j]'h).req.id, .int .i64 (s.done[j]'h).req.kind, .slice u8 (s.done[j]'h).req.lines.length v8, .string (s.done[j]'h).req.hold, .int .i64 (s.done[j]'h).req.ttl, .int .i64 (s.done[j]'h).req.now, .int .i64 (s.done[j]'h).at'] 81)).drew = Y0 := ⟨_, rfl⟩
          rw [hY0]
          have bY0 : Below wr.heap.size wr Y0 := by rw [← hY0]; exact ((Below.refl _ _).alloc (Nat.le_refl _) _).drew
          have rY0 : Y0.heap[wr.heap.size]? = some (.cells #[.string (s.done[j]'h).req.id, .int .i64 (s.done[j]'h).req.kind, .slice u8 (s.done[j]'h).req.lines.length v8, .string (s.done[j]'h).req.hold, .int .i64 (s.done[j]'h).req.ttl, .int .i64 (s.done[j]'h).req.now, .int .i64 (s.done[j]'h).at'] 81 (0, 0)) := by rw [← hY0]; exact heap_alloc_new wr _
          have zY0 : Y0.heap.size = wr.heap.size + 1 := by rw [← hY0]; exact World.size_alloc _ _
          have k0 : Y0.cell? ⟨wr.heap.size, 2, none⟩ = some (.slice u8 (s.done[j]'h).req.lines.length v8) := by rw [Lib.cell_of_heap rY0]; rfl
          have k0f : Y0.frozen? ⟨wr.heap.size, 2, none⟩ = false := Lib.frozen_of_heap rY0 2
          clear hY0
          go_wp2_with fail
          obtain ⟨Y, hY⟩ : ∃ Y, Y0.setCell ⟨wr.heap.size, 2, none⟩ (.slice none 0 0) = Y := ⟨_, rfl⟩
          rw [hY]
          have bY : Below wr.heap.size wr Y := bY0.trans (by rw [← hY]; exact (Below.refl _ _).setCell (p := ⟨wr.heap.size, 2, none⟩) (Nat.le_refl _) _)
          have rY : Y.heap[wr.heap.size]? = some (.cells #[.string (s.done[j]'h).req.id, .int .i64 (s.done[j]'h).req.kind, .slice none 0 0, .string (s.done[j]'h).req.hold, .int .i64 (s.done[j]'h).req.ttl, .int .i64 (s.done[j]'h).req.now, .int .i64 (s.done[j]'h).at'] 81 (0, 0)) := by rw [← hY]; exact heap_setCell_same Y0 _ 2 _ _ _ rY0
          have zY : Y.heap.size = wr.heap.size + 1 := by rw [← hY]; simp only [World.size_setCell]; exact zY0
          clear bY0 rY0 zY0 k0 k0f
          have hln := L5.out j h
          obtain ⟨lv, wB, hrun, hOl, hgr⟩ := run_lines0 (w := Y.drew) (base := Y.heap.size) (show RLn Y.drew (.slice u8 (s.done[j]'h).req.lines.length v8) (s.done[j]'h).req.lines from (HEr.out.below bY).below ((Below.refl _ _).drew)) hln (Nat.le_refl _)
          obtain ⟨xo, xn, xp, rfl⟩ := hOl.form
          have bB : Below Y.heap.size Y wB := (show Below Y.heap.size Y Y.drew from (Below.refl _ _).drew).trans ⟨hgr.os, hgr.tape, hgr.output, hgr.size, fun k hk => hgr.block k hk (fun e => by cases e)⟩
          have zB := bB.size
          have rB : wB.heap[wr.heap.size]? = some (.cells #[.string (s.done[j]'h).req.id, .int .i64 (s.done[j]'h).req.kind, .slice none 0 0, .string (s.done[j]'h).req.hold, .int .i64 (s.done[j]'h).req.ttl, .int .i64 (s.done[j]'h).req.now, .int .i64 (s.done[j]'h).at'] 81 (0, 0)) := (bB.block _ (by omega)).trans rY
          have HAP := hid hrun
          have x1 : Y.drew.cell? ⟨wr.heap.size, 2, none⟩ = some (.slice none 0 0) := by show Y.cell? _ = _; rw [Lib.cell_of_heap rY]; rfl
          have x2 : Y.drew.cell? ⟨w.heap.size, 5, none⟩ = some (.slice (some ⟨b8, o8, none⟩) s.done.length p3) := below_cells bY _ _ c5
          have x3 : Y.drew.cell? ⟨b8, o8 + j * 7 + 2, none⟩ = some (.slice u8 (s.done[j]'h).req.lines.length v8) := below_cells bY _ _ HE1.out
          have x4 : wB.cell? ⟨wr.heap.size, 2, none⟩ = some (.slice none 0 0) := by rw [Lib.cell_of_heap rB]; rfl
          have x4f : wB.frozen? ⟨wr.heap.size, 2, none⟩ = false := Lib.frozen_of_heap rB 2
          obtain ⟨Y2, hY2⟩ : ∃ Y2, wB.setCell ⟨wr.heap.size, 2, none⟩ (.slice xo xn xp) = Y2 := ⟨_, rfl⟩
          have rY2 : Y2.heap[wr.heap.size]? = some (.cells #[.string (s.done[j]'h).req.id, .int .i64 (s.done[j]'h).req.kind, .slice xo xn xp, .string (s.done[j]'h).req.hold, .int .i64 (s.done[j]'h).req.ttl, .int .i64 (s.done[j]'h).req.now, .int .i64 (s.done[j]'h).at'] 81 (0, 0)) := by rw [← hY2]; exact heap_setCell_same wB _ 2 _ _ _ rB
          have zY2 : Y2.heap.size = wB.heap.size := by rw [← hY2]; simp
          have bY2 : Below wr.heap.size wr Y2 := (bY.trans (bB.mono (by omega))).trans (by rw [← hY2]; exact (Below.refl _ _).setCell (p := ⟨wr.heap.size, 2, none⟩) (Nat.le_refl _) _)
          have oY2 : OLn Y2 Y.heap.size (.slice xo xn xp) (s.done[j]'h).req.lines := hOl.own (fun kk hk => by rw [← hY2]; exact heap_setCell_other wB ⟨wr.heap.size, 2, none⟩ kk _ (by show kk ≠ wr.heap.size; have := (World.ownsRow.lt hOl kk hk).1; omega))
          have rs : Y2.heap[w.heap.size + 2]? = some (.cells #[.int .i64 s.room, .int .i64 s.lsn, .int .i64 s.now, .slice lo ln lp, .slice ko kn kp, .slice ho hn hp] 32 (0, 0)) := (bY2.block _ (by have := (Array.getElem?_eq_some_iff.1 HR.out).1; omega)).trans HR.out
          have HO9 : ODn Y2 W2.heap.size (.slice ho hn hp) (s.done.take j) := HO.out.old (fun k _ h2 => bY2.block k h2)
          obtain ⟨W6, hW6⟩ : ∃ W6, Y2.alloc (.cells #[.string (s.done[j]'h).req.id, .int .i64 (s.done[j]'h).req.kind, .slice xo xn xp, .string (s.done[j]'h).req.hold, .int .i64 (s.done[j]'h).req.ttl, .int .i64 (s.done[j]'h).req.now, .int .i64 (s.done[j]'h).at'] 81) = W6 := ⟨_, rfl⟩
          have R6 := hid (show W6.heap[Y2.heap.size]? = some (.cells #[.string (s.done[j]'h).req.id, .int .i64 (s.done[j]'h).req.kind, .slice xo xn xp, .string (s.done[j]'h).req.hold, .int .i64 (s.done[j]'h).req.ttl, .int .i64 (s.done[j]'h).req.now, .int .i64 (s.done[j]'h).at'] 81 (0, 0)) by rw [← hW6]; exact heap_alloc_new Y2 _)
          have b6 : Below Y2.heap.size Y2 W6 := by rw [← hW6]; exact (Below.refl _ _).alloc (Nat.le_refl _) _
          have z6 : W6.heap.size = Y2.heap.size + 1 := by rw [← hW6, World.size_alloc]
          have HO6 := hid (HO9.old (fun k _ h2 => b6.block k h2))
          have OL6 := hid (show OLn W6 W2.heap.size (.slice xo xn xp) (s.done[j]'h).req.lines from (oY2.own (fun kk hk => b6.block kk (World.ownsRow.lt oY2 kk hk).2)).lower (by omega))
          have hnn : ∀ k, (Value.slice xo xn xp).ownBlock = some k → (Value.slice ho hn hp).ownBlock ≠ some k := fun k g1 g2 => by
            have a1 := (World.ownsRow.lt oY2 k g1).1
            have a2 := (HO.out.block_ge k g2).2
            omega
          have qq0 : Y2.cell? ⟨wr.heap.size, 0, none⟩ = some (.string (s.done[j]'h).req.id) := by rw [Lib.cell_of_heap rY2]; rfl
          have qq1 : Y2.cell? ⟨wr.heap.size, 1, none⟩ = some (.int .i64 (s.done[j]'h).req.kind) := by rw [Lib.cell_of_heap rY2]; rfl
          have qq2 : Y2.cell? ⟨wr.heap.size, 2, none⟩ = some (.slice xo xn xp) := by rw [Lib.cell_of_heap rY2]; rfl
          have qq3 : Y2.cell? ⟨wr.heap.size, 3, none⟩ = some (.string (s.done[j]'h).req.hold) := by rw [Lib.cell_of_heap rY2]; rfl
          have qq4 : Y2.cell? ⟨wr.heap.size, 4, none⟩ = some (.int .i64 (s.done[j]'h).req.ttl) := by rw [Lib.cell_of_heap rY2]; rfl
          have qq5 : Y2.cell? ⟨wr.heap.size, 5, none⟩ = some (.int .i64 (s.done[j]'h).req.now) := by rw [Lib.cell_of_heap rY2]; rfl
          have qq6 : Y2.cell? ⟨wr.heap.size, 6, none⟩ = some (.int .i64 (s.done[j]'h).at') := by rw [Lib.cell_of_heap rY2]; rfl
          have qs : Y2.cell? ⟨w.heap.size + 2, 5, none⟩ = some (.slice ho hn hp) := by rw [Lib.cell_of_heap rs]; rfl
          have HLt := hid (show s.done.take (j + 1) = s.done.take j ++ [(s.done[j]'h)] from List.take_succ_eq_append_getElem h)
          have hJl : (s.done.take j).length ≤ 1000000000000 := by rw [List.length_take]; omega
          have hbz : W2.heap.size ≤ W6.heap.size := by omega
          have HY2 := hid hY2
          have HT6 := hid (show Tb (w.heap.size + 2) (w.heap.size + 2) W2 W6 from HTb.out.trans (Tb.of_below (bY2.trans (b6.mono (by have := bY2.size; omega)))))
          have R9 := hid (show W6.heap[w.heap.size + 2]? = some (.cells #[.int .i64 s.room, .int .i64 s.lsn, .int .i64 s.now, .slice lo ln lp, .slice ko kn kp, .slice ho hn hp] 32 (0, 0)) from (b6.block _ (by have := (Array.getElem?_eq_some_iff.1 rs).1; omega)).trans rs)
          have hx6 : w.heap.size + 2 < W2.heap.size := by have := (Array.getElem?_eq_some_iff.1 Q3.out).1; omega
          clear rs HO9 oY2 bY2 b6 hY2 rB bB hgr hOl hrun rY hY bY rY2 HO hln zY2
          go_upto_region 14 with fail
          go_cut [91] from 79 to 91 (fun _ wx => wx = Y2)
          case first =>
            go_region_law (refine step_app rfl _ _ rfl rfl rfl rfl HAP.out ?_)
            all_goals (go_wp2_with fail; go_meet; exact HY2.out)
          case rest =>
          have hcu := hcut.symm
          clear hcut
          subst hcu
          clear x1 x2 x3 x4 x4f HAP HY2
          go_wp2_with (at_builtin; go_loud (refine wpList_appDn rfl _ _ rfl W2.heap.size _ (s.done.take j) rfl HO6.out Y2.heap.size (s.done[j]'h) (.slice xo xn xp) rfl R6.out OL6.out hnn hJl hbz ?hnext))
          case hnext =>
          intro v7 w7 ho7 hg7 _
          have T7 := hid (HT6.out.grow2 hg7 (fun k hk => (HO6.out.block_ge k hk).1))
          have R7 := hid (show w7.heap[w.heap.size + 2]? = some (.cells #[.int .i64 s.room, .int .i64 s.lsn, .int .i64 s.now, .slice lo ln lp, .slice ko kn kp, .slice ho hn hp] 32 (0, 0)) from (hg7.block _ (by omega) (fun e => by have := (HO6.out.block_ge _ e.symm).1; omega)).trans R9.out)
          obtain ⟨vo, vn, vp, rfl⟩ := ho7.form
          obtain ⟨W8, hW8⟩ : ∃ W8, w7.setCell ⟨w.heap.size + 2, 5, none⟩ (.slice vo vn vp) = W8 := ⟨_, rfl⟩
          have R8 := hid (show W8.heap[w.heap.size + 2]? = some (.cells #[.int .i64 s.room, .int .i64 s.lsn, .int .i64 s.now, .slice lo ln lp, .slice ko kn kp, .slice vo vn vp] 32 (0, 0)) by rw [← hW8]; exact heap_setCell_same w7 _ 5 _ _ _ R7.out)
          have T8 := hid (show Tb (w.heap.size + 2) (w.heap.size + 2) W2 W8 from T7.out.trans (by rw [← hW8]; exact Tb.set w7 ⟨w.heap.size + 2, 5, none⟩ _ (.inl rfl)))
          have o9 : ODn w7 W2.heap.size (.slice vo vn vp) (s.done.take (j + 1)) := by first | exact ho7 | (rw [HLt.out]; exact ho7)
          have o8' : ODn W8 W2.heap.size (.slice vo vn vp) (s.done.take (j + 1)) := o9.old (fun k hk _ => by rw [← hW8]; exact heap_setCell_other w7 ⟨w.heap.size + 2, 5, none⟩ k _ (by show k ≠ w.heap.size + 2; omega))
          have O8 := hid o8'
          have qt : w7.cell? ⟨w.heap.size + 2, 5, none⟩ = some (.slice ho hn hp) := by rw [Lib.cell_of_heap R7.out]; rfl
          have qtf : w7.frozen? ⟨w.heap.size + 2, 5, none⟩ = false := Lib.frozen_of_heap R7.out 5
          have HW8 := hid hW8
          clear ho7 hg7 HO6 R6 OL6 hnn T7 R7 R9 HT6 hW8 o9 o8'
          go_wp2_with fail
          rw [HW8.out]
          go_roundw
          case rel => exact ⟨j + 1, _, _, _, by omega, by go_num, R8.out, O8.out, T8.out⟩
          case measure => simp [intOf]; omega
        · obtain rfl : j = s.done.length := by omega
          rw [List.take_length] at HO
          have A7 := (ht.block _ (by omega) (by omega) (by omega)).trans P1.out
          have X7 := hR
          have p0' : wr.cell? ⟨w.heap.size + 2, 0, none⟩ = some (.int .i64 s.room) := by rw [Lib.cell_of_heap X7]; rfl
          have p1' : wr.cell? ⟨w.heap.size + 2, 1, none⟩ = some (.int .i64 s.lsn) := by rw [Lib.cell_of_heap X7]; rfl
          have p2' : wr.cell? ⟨w.heap.size + 2, 2, none⟩ = some (.int .i64 s.now) := by rw [Lib.cell_of_heap X7]; rfl
          have p3' : wr.cell? ⟨w.heap.size + 2, 3, none⟩ = some (.slice lo ln lp) := by rw [Lib.cell_of_heap X7]; rfl
          have p4' : wr.cell? ⟨w.heap.size + 2, 4, none⟩ = some (.slice ko kn kp) := by rw [Lib.cell_of_heap X7]; rfl
          have p5' : wr.cell? ⟨w.heap.size + 2, 5, none⟩ = some (.slice ho hn hp) := by rw [Lib.cell_of_heap X7]; rfl
          have r0' : wr.cell? ⟨w.heap.size + 1, 0, none⟩ = some (.int .i64 0) := by rw [Lib.cell_of_heap A7]; rfl
          have g0' : wr.frozen? ⟨w.heap.size + 1, 0, none⟩ = false := Lib.frozen_of_heap A7 0
          have r1' : wr.cell? ⟨w.heap.size + 1, 1, none⟩ = some (.int .i64 0) := by rw [Lib.cell_of_heap A7]; rfl
          have g1' : wr.frozen? ⟨w.heap.size + 1, 1, none⟩ = false := Lib.frozen_of_heap A7 1
          have r2' : wr.cell? ⟨w.heap.size + 1, 2, none⟩ = some (.int .i64 0) := by rw [Lib.cell_of_heap A7]; rfl
          have g2' : wr.frozen? ⟨w.heap.size + 1, 2, none⟩ = false := Lib.frozen_of_heap A7 2
          have r3' : wr.cell? ⟨w.heap.size + 1, 3, none⟩ = some (.slice none 0 0) := by rw [Lib.cell_of_heap A7]; rfl
          have g3' : wr.frozen? ⟨w.heap.size + 1, 3, none⟩ = false := Lib.frozen_of_heap A7 3
          have r4' : wr.cell? ⟨w.heap.size + 1, 4, none⟩ = some (.slice none 0 0) := by rw [Lib.cell_of_heap A7]; rfl
          have g4' : wr.frozen? ⟨w.heap.size + 1, 4, none⟩ = false := Lib.frozen_of_heap A7 4
          have r5' : wr.cell? ⟨w.heap.size + 1, 5, none⟩ = some (.slice none 0 0) := by rw [Lib.cell_of_heap A7]; rfl
          have g5' : wr.frozen? ⟨w.heap.size + 1, 5, none⟩ = false := Lib.frozen_of_heap A7 5
          have O7 := hid (OL2.out.keep (fun k h1 h2 => ht.block k h2 (by omega) (by omega)))
          have OH7 := hid (OH2.out.old (fun k h1 h2 => ht.block k h2 (by omega) (by omega)))
          have OD7 := HO
          have B7 := hid hBw
          clear hO ht q0 hBw
          go_wp2_with fail
          obtain ⟨W8, hW8⟩ : ∃ W8, (World.setCell (World.setCell (World.setCell (World.setCell (World.setCell (World.setCell wr ⟨w.heap.size + 1, 0, none⟩ (.int .i64 s.room)) ⟨w.heap.size + 1, 1, none⟩ (.int .i64 s.lsn)) ⟨w.heap.size + 1, 2, none⟩ (.int .i64 s.now)) ⟨w.heap.size + 1, 3, none⟩ (.slice lo ln lp)) ⟨w.heap.size + 1, 4, none⟩ (.slice ko kn kp)) ⟨w.heap.size + 1, 5, none⟩ (.slice ho hn hp)) = W8 := ⟨_, rfl⟩
          have E8 : W8.heap[w.heap.size + 1]? = some (.cells #[.int .i64 s.room, .int .i64 s.lsn, .int .i64 s.now, .slice lo ln lp, .slice ko kn kp, .slice ho hn hp] 32 (0, 0)) := by rw [← hW8]; exact six_same (rest := []) A7 _ _ _ _ _ _
          have K8 : Tb (w.heap.size + 1) (w.heap.size + 1) wr W8 := by rw [← hW8]; exact Tb.six _ _ _ _ _ _ _ _
          have t0' : W8.cell? ⟨w.heap.size + 1, 0, none⟩ = some (.int .i64 s.room) := by rw [Lib.cell_of_heap E8]; rfl
          have t1' : W8.cell? ⟨w.heap.size + 1, 1, none⟩ = some (.int .i64 s.lsn) := by rw [Lib.cell_of_heap E8]; rfl
          have t2' : W8.cell? ⟨w.heap.size + 1, 2, none⟩ = some (.int .i64 s.now) := by rw [Lib.cell_of_heap E8]; rfl
          have t3' : W8.cell? ⟨w.heap.size + 1, 3, none⟩ = some (.slice lo ln lp) := by rw [Lib.cell_of_heap E8]; rfl
          have t4' : W8.cell? ⟨w.heap.size + 1, 4, none⟩ = some (.slice ko kn kp) := by rw [Lib.cell_of_heap E8]; rfl
          have t5' : W8.cell? ⟨w.heap.size + 1, 5, none⟩ = some (.slice ho hn hp) := by rw [Lib.cell_of_heap E8]; rfl
          rw [hW8]
          refine bodyPost_ret (by simp [results, Try.results25, go_sem, t0', t1', t2', t3', t4', t5']; try rfl) rfl ?_
          exact ⟨_, _, _, rfl, ⟨(O7.out.keep (fun k h1 h2 => K8.block k h2 (by omega) (by omega))).lower2 (by omega), (OH7.out.old (fun k h1 h2 => K8.block k h2 (by omega) (by omega))).lower (by omega), (OD7.out.old (fun k h1 h2 => K8.block k h2 (by omega) (by omega))).lower (by omega)⟩, B7.out.trans (K8.lows (B := w.heap.size) (by omega) (by omega))⟩
end Go.Proofs.Ytfhicemfhkhjaab
