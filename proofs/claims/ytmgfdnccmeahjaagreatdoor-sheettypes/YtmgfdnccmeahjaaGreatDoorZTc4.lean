/-
  Tc4: Sheets: typedRow.
-/
import Derived.Test.YtmgfdnccmeahjaaGreatDoorZO
namespace Go.Proofs.YtmgfdnccmeahjaaGreatDoor
open Go.RowKit
set_option maxRecDepth 100000
set_option linter.unusedVariables false
set_option linter.unusedSimpArgs false
variable {rf : ByteArray → Nat → Rd}

theorem clinfo : (Tryz.prog.info? 52).map (fun i => (i.zero, i.size, i.bytes)) = some (some (.agg #[.int .i64 0, .string ⟨#[]⟩, .int .i64 0]), 3, 32) := by kernel_rfl
theorem RdP.split {A : Nat → Addr} {k : Nat} {r : Rd} {w w' : World} {kk : Nat} {n : Int} {t : ByteArray} {ev : Value} (h : RdP A k r w w' (.returned (.tuple #[.agg #[.int .i64 (kk : Int), .string t, .int .i64 n], ev]))) :
    (r.1 = 0 ∧ ev = .nilIface ∧ [.int .i64 (kk : Int), .string t, .int .i64 n] = clV (k, r)) ∨ (r.1 ≠ 0 ∧ ErrV A r w w' ev) := by
  rcases h.parts with ⟨h1, h2⟩ | ⟨h1, ev', h2, h3⟩
  · injection h2 with h2
    injection h2 with h2
    have h4 := congrArg Array.toList h2
    simp only [List.cons.injEq, and_true] at h4
    refine .inl ⟨h1, h4.2, ?_⟩
    have h5 := h4.1
    injection h5 with h5
    exact congrArg Array.toList h5
  · injection h2 with h2
    injection h2 with h2
    have h4 := congrArg Array.toList h2
    simp only [List.cons.injEq, and_true] at h4
    rw [h4.2]
    exact .inr ⟨h1, h3⟩
/-- what a call of typedCell leaves -/
def CutR (A : Nat → Addr) (X : Nat × Rd) (wr wx : World) (x ev : Value) : Prop :=
  ∃ (g kk : Nat) (n : Int) (t : ByteArray), x = .pointer (some ⟨g, 0, none⟩) ∧ wr.heap.size ≤ g ∧ wx.heap[g]? = some (.cells #[.int .i64 (kk : Int), .string t, .int .i64 n] 52 (0, 0)) ∧ Below wr.heap.size wr wx ∧ RdP A X.1 X.2 wr wx (.returned (.tuple #[.agg #[.int .i64 (kk : Int), .string t, .int .i64 n], ev]))
theorem cutA {A : Nat → Addr} {X : Nat × Rd} {wr W w5 : World} {kk : Nat} {n : Int} {t : ByteArray} {ev : Value} (h : RdP A X.1 X.2 W w5 (.returned (.tuple #[.agg #[.int .i64 (kk : Int), .string t, .int .i64 n], ev]))) (hs : wr.heap.size ≤ W.heap.size) (hb : Below wr.heap.size wr w5) :
    CutR A X wr (w5.alloc (.cells #[.int .i64 (kk : Int), .string t, .int .i64 n] 52)) (.pointer (some ⟨w5.heap.size, 0, none⟩)) ev :=
  ⟨w5.heap.size, kk, n, t, rfl, hb.size, heap_alloc_new _ _, hb.alloc hb.size _, h.move hs fun q x h1 h2 => alloc_oldP h2⟩
theorem cutB {A : Nat → Addr} {X : Nat × Rd} {wr W w5 : World} {g kk : Nat} {n : Int} {t : ByteArray} {ev a b c : Value} (h : RdP A X.1 X.2 W w5 (.returned (.tuple #[.agg #[.int .i64 (kk : Int), .string t, .int .i64 n], ev]))) (hs : wr.heap.size ≤ W.heap.size) (hb : Below wr.heap.size wr w5) (hq : w5.heap[g]? = some (.cells #[a, b, c] 52 (0, 0))) (hg : wr.heap.size ≤ g) (hgW : g < W.heap.size) :
    CutR A X wr (((w5.setCell ⟨g, 0, none⟩ (.int .i64 (kk : Int))).setCell ⟨g, 1, none⟩ (.string t)).setCell ⟨g, 2, none⟩ (.int .i64 n)) (.pointer (some ⟨g, 0, none⟩)) ev :=
  ⟨g, kk, n, t, rfl, hg, put3 hq _ _ _, below3 hb hg _ _ _, h.move hs fun q x h1 h2 => set_oldP (set_oldP (set_oldP h2 (by omega)) (by omega)) (by omega)⟩
/-- the cells of a row -/
def ccl (X : List (Nat × Rd)) : List Value := X.flatMap clV
theorem ccl_app (X Y : List (Nat × Rd)) : ccl (X ++ Y) = ccl X ++ ccl Y := by unfold ccl; rw [List.flatMap_append]
theorem clV_one (x : Nat × Rd) : ∀ u ∈ clV x, u.oneCell' = true := by
  intro u hu
  simp only [clV, List.mem_cons, List.not_mem_nil, or_false] at hu
  rcases hu with rfl | rfl | rfl <;> rfl
def OC (w : World) (base : Nat) (v : Value) (X : List (Nat × Rd)) : Prop := w.ownsRow base 52 3 v X.length (ccl X)
/-- a fault on a row's place -/
def ErW (A : Nat → Addr) (l c : Int) (r : Rd) (w w' : World) (ev : Value) : Prop := ∃ q e, ev = .iface 38 (.pointer (some ⟨q, 0, none⟩)) ∧ w.heap.size ≤ q ∧ w'.heap[q]? = some (.cells #[.int .i64 l, .int .i64 c, e] 42 (0, 0)) ∧ ErrV A r w w' e
/-- what is told of a row's i-th column -/
def rwR (rf : ByteArray → Nat → Rd) (T : List ByteArray) (ps : List Nat) (L : List Col) (i : Nat) : Nat × Rd := cR rf (T.getD (ps.getD i 0) ⟨#[]⟩) (L.getD i ⟨⟨#[]⟩, 0, false⟩)
def TrP (rf : ByteArray → Nat → Rd) (A : Nat → Addr) (T : List ByteArray) (ps : List Nat) (L : List Col) (base : Nat) (w w' : World) (e : Ending) : Prop :=
  ((∀ i, i < L.length → (rwR rf T ps L i).2.1 = 0) ∧ ∃ v, e = .returned (.tuple #[v, .nilIface]) ∧ OC w' base v ((List.range L.length).map (rwR rf T ps L))) ∨
  ∃ i, i < L.length ∧ (∀ j, j < i → (rwR rf T ps L j).2.1 = 0) ∧ (rwR rf T ps L i).2.1 ≠ 0 ∧ ∃ ev, e = .returned (.tuple #[.slice none 0 0, ev]) ∧ ErW A 0 (ps.getD i 0 : Nat) (rwR rf T ps L i).2 w w' ev
set_option maxHeartbeats 8000000 in
theorem typedRow_any (hrf : RfOk rf) (A : Nat → Addr) (rv pv cv : Value) (T : List ByteArray) (ps : List Nat) (L : List Col) (w : World) (hT : Bx w rv T) (hP : IP w pv ps) (hL : RC w cv L) (hw : RdW A w)
    (hl : ps.length = L.length) (h64 : L.length ≤ 64) (hin : ∀ i (h : i < ps.length), ps[i] < T.length) (hmb : ∀ i (h : i < L.length), mbB L[i] = true) (hsz : ∀ i (h : i < T.length), T[i].size ≤ 100000000) :
    Calls Tryz.prog 34 #[rv, pv, cv] w fun e w' => TrP rf A T ps L w.heap.size w w' e ∧ Below w.heap.size w w' := by
  have HT := hid hT
  have HP := hid hP
  have HL := hid hL
  have HW := hid hw
  have HIn := hid hin
  have HMb := hid hmb
  have HSz := hid hsz
  have HPl := hid hl
  have h0' := hid (show OC w w.heap.size (.slice none 0 0) ((List.range 0).map (rwR rf T ps L)) from World.ownsRow_nil _ _ _ _)
  obtain ⟨ao, cap, rfl, hcap⟩ := hL.form
  have hTf := hT.form
  have hPf : ∃ ao cap, pv = .slice ao ps.length cap := by
    obtain ⟨ao, cap, h, _⟩ := hP
    exact ⟨ao, cap, h⟩
  obtain ⟨ta, tcp, rfl⟩ := hTf
  obtain ⟨pa, pcp, rfl⟩ := hPf
  have hT63 := hT.len
  clear hT hP hL hw hin hmb hsz hl
  go_enter Tryz.func34, Tryz.ntmps34
  go_wp2_with fail
  go_loopw [8, 15] (fun v i wr => ∃ k : Nat, k ≤ L.length ∧ i = .int .i64 k ∧ Hid (∀ j, j < k → (rwR rf T ps L j).2.1 = 0) ∧ Hid (OC wr w.heap.size v ((List.range k).map (rwR rf T ps L))) ∧ Hid (Below w.heap.size w wr)) (fun _ i _ => L.length - (intOf i).toNat)
  case atStart => exact ⟨0, by omega, rfl, hid fun j h => absurd h (Nat.not_lt_zero _), h0', hid (Below.refl _ _)⟩
  case round =>
    obtain ⟨k, hk, rfl, HZ, HO, HB⟩ := hrel
    by_cases h : k < L.length
    · have hI : (k : Int) < (L.length : Int) := by omega
      have hkp : k < ps.length := by rw [HPl.out]; exact h
      have hkpI : (k : Int) < (ps.length : Int) := by omega
      obtain ⟨b2, off2, cap2, hv2, c0, c1, c2⟩ := (HL.out.below HB.out).at k h
      cases hv2
      obtain ⟨b3, off3, cap3, hv3, d0⟩ := (HP.out.below HB.out).at k hkp
      cases hv3
      obtain ⟨b4, off4, cap4, hv4, z0⟩ := (HT.out.below HB.out).at ps[k] (HIn.out k hkp)
      cases hv4
      have hpT : (ps[k] : Int) < (T.length : Int) := by have := HIn.out k hkp; omega
      have HR := hid (show rwR rf T ps L k = cR rf (T[ps[k]]'(HIn.out k hkp)) L[k] by
        unfold rwR
        rw [List.getD_eq_getElem?_getD, List.getD_eq_getElem?_getD, List.getD_eq_getElem?_getD, List.getElem?_eq_getElem hkp, List.getElem?_eq_getElem h]
        simp only [Option.getD_some]
        rw [List.getElem?_eq_getElem (HIn.out k hkp)]
        rfl)
      have HGp := hid (show ps.getD k 0 = ps[k] by rw [List.getD_eq_getElem?_getD, List.getElem?_eq_getElem hkp]; rfl)
      have HC := hid (fun (W : World) (hb : Below w.heap.size w W) => typedCell_any hrf A (T[ps[k]]'(HIn.out k hkp)) L[k] W (HMb.out k h) (HSz.out _ (HIn.out k hkp)) (HW.out.below hb))
      generalize T[ps[k]]'(HIn.out k hkp) = s at *
      generalize ps[k] = p at *
      generalize L[k] = C at *
      obtain ⟨nm, kd, mu⟩ := C
      obtain ⟨W1, hW1⟩ : ∃ W1, wr.alloc (.cells #[.string nm, .int .i64 kd, .bool mu] 31) = W1 := ⟨_, rfl⟩
      have BW1 := hid (show Below wr.heap.size wr W1 by rw [← hW1]; exact (Below.refl _ _).alloc (Nat.le_refl _) _)
      have RW1 := hid (show W1.heap[wr.heap.size]? = some (.cells #[.string nm, .int .i64 kd, .bool mu] 31 (0, 0)) by rw [← hW1]; exact heap_alloc_new wr _)
      have HB1 := hid (HB.out.trans (BW1.out.mono HB.out.size))
      have x0 : W1.drew.cell? ⟨wr.heap.size, 0, none⟩ = some (.string nm) := Lib.cell_of_heap RW1.out 0
      have x1 : W1.drew.cell? ⟨wr.heap.size, 1, none⟩ = some (.int .i64 kd) := Lib.cell_of_heap RW1.out 1
      have x2 : W1.drew.cell? ⟨wr.heap.size, 2, none⟩ = some (.bool mu) := Lib.cell_of_heap RW1.out 2
      have d1 := cellB BW1.out d0
      have z1 := cellB BW1.out z0
      have HB1d := hid HB1.out.drew
      obtain ⟨Wa, hWa⟩ : ∃ Wa, W1.alloc (.cells #[.int .i64 0, .string ⟨#[]⟩, .int .i64 0] 52) = Wa := ⟨_, rfl⟩
      have BWa := hid (show Below W1.heap.size W1 Wa by rw [← hWa]; exact (Below.refl _ _).alloc (Nat.le_refl _) _)
      have RWa := hid (show Wa.heap[W1.heap.size]? = some (.cells #[.int .i64 0, .string ⟨#[]⟩, .int .i64 0] 52 (0, 0)) by rw [← hWa]; exact heap_alloc_new W1 _)
      have HB1a := hid (HB1.out.trans (BWa.out.mono HB1.out.size)).drew
      have HQ := hid (fun (w5 : World) (b5 : Below Wa.drew.heap.size Wa.drew w5) => (show w5.heap[W1.heap.size]? = some (.cells #[.int .i64 0, .string ⟨#[]⟩, .int .i64 0] 52 (0, 0)) from (b5.block _ (Array.getElem?_eq_some_iff.1 RWa.out).1).trans RWa.out))
      have a0 : Wa.drew.cell? ⟨wr.heap.size, 0, none⟩ = some (.string nm) := cellB BWa.out (Lib.cell_of_heap RW1.out 0)
      have a1 : Wa.drew.cell? ⟨wr.heap.size, 1, none⟩ = some (.int .i64 kd) := cellB BWa.out (Lib.cell_of_heap RW1.out 1)
      have a2 : Wa.drew.cell? ⟨wr.heap.size, 2, none⟩ = some (.bool mu) := cellB BWa.out (Lib.cell_of_heap RW1.out 2)
      have a3 : Wa.drew.cell? ⟨b3, off3 + k, none⟩ = some (.int .i64 (p : Int)) := cellB BWa.out d1
      have a4 : Wa.drew.cell? ⟨b4, off4 + p, none⟩ = some (.string s) := cellB BWa.out z1
      have k1 : b3 < W1.heap.size := World.block_lt_of_cell? _ _ d1
      have k2 : b4 < W1.heap.size := World.block_lt_of_cell? _ _ z1
      have k3 : wr.heap.size < W1.heap.size := (Array.getElem?_eq_some_iff.1 RW1.out).1
      have m1 : ¬ b3 = W1.heap.size := by omega
      have m2 : ¬ b4 = W1.heap.size := by omega
      have m3 : ¬ wr.heap.size = W1.heap.size := by omega
      have m4 : ¬ W1.heap.size = b3 := by omega
      have m5 : ¬ W1.heap.size = b4 := by omega
      have m6 : ¬ W1.heap.size = wr.heap.size := by omega
      clear k1 k2 k3
      go_upto_region 5 with fail
      have HBr1 := hid BW1.out.drew
      have HBra := hid (show Below wr.heap.size wr Wa.drew from (BW1.out.trans (BWa.out.mono BW1.out.size)).drew)
      have HgW := hid (show wr.heap.size ≤ W1.heap.size ∧ W1.heap.size < Wa.drew.heap.size from ⟨BW1.out.size, (Array.getElem?_eq_some_iff.1 RWa.out).1⟩)
      go_cut [11, 12] from 20 to 31 (fun x ev wx => CutR A (cR rf s ⟨nm, kd, mu⟩) wr wx x ev)
      case first =>
        go_region_with (first
          | (go_at_call 81; refine (HC.out W1.drew HB1d.out).mono ?_; rintro e w5 ⟨hp, b5⟩; obtain ⟨kk, n, t, ev, rfl⟩ := hp.form; have HP6 := hid hp; have HB6 := hid (HBr1.out.trans (b5.mono HBr1.out.size)); have HS6 := HBr1; clear hp b5)
          | (go_at_call 81; refine (HC.out _ HB1a.out).mono ?_; rintro e w5 ⟨hp, b5⟩; obtain ⟨kk, n, t, ev, rfl⟩ := hp.form; have HP6 := hid hp; have HB6 := hid (HBra.out.trans (b5.mono HBra.out.size)); have HS6 := HBra; have HQ5 := hid (HQ.out _ b5); have y0 := Lib.cell_of_heap HQ5.out 0; have y1 := Lib.cell_of_heap HQ5.out 1; have y2 := Lib.cell_of_heap HQ5.out 2; have g0 := Lib.frozen_of_heap HQ5.out 0; have g1 := Lib.frozen_of_heap HQ5.out 1; have g2 := Lib.frozen_of_heap HQ5.out 2; clear hp b5))
        all_goals
          go_wp2_with fail
          go_meet
          first
            | exact cutA HP6.out HS6.out.size HB6.out
            | exact cutB HP6.out HS6.out.size HB6.out HQ5.out HgW.out.1 HgW.out.2
      case rest =>
        obtain ⟨g, kk, n, t, rfl, hg, hgc, hbc, hrd⟩ := hcut
        have HBc := hid (HB.out.trans (hbc.mono HB.out.size))
        have HOc := hid (own_later HO.out hbc)
        have HGc := hid hgc
        have d2 := cellB hbc d0
        have HS := hid (HB.out.size)
        rcases hrd.split with ⟨hz, rfl, hcl⟩ | ⟨hz, hev⟩
        · have HCl := hid hcl
          have HZ2 := hid (show ∀ j, j < k + 1 → (rwR rf T ps L j).2.1 = 0 from fun j hj => by
            by_cases e : j = k
            · rw [e, HR.out]; exact hz
            · exact HZ.out j (by omega))
          clear hrd hz hcl hbc hgc
          have y0 := Lib.cell_of_heap HGc.out 0
          have y1 := Lib.cell_of_heap HGc.out 1
          have y2 := Lib.cell_of_heap HGc.out 2
          obtain ⟨W4, hW4⟩ : ∃ W4, wc.alloc (.cells #[.int .i64 (kk : Int), .string t, .int .i64 n] 52) = W4 := ⟨_, rfl⟩
          have RW4 := hid (show W4.heap[wc.heap.size]? = some (.cells #[.int .i64 (kk : Int), .string t, .int .i64 n] 52 (0, 0)) by rw [← hW4]; exact heap_alloc_new wc _)
          have BW4 := hid (show Below wc.heap.size wc W4 by rw [← hW4]; exact (Below.refl _ _).alloc (Nat.le_refl _) _)
          have HO4 := hid (own_later HOc.out BW4.out)
          obtain ⟨X, hX⟩ : ∃ X, (List.range k).map (rwR rf T ps L) = X := ⟨_, rfl⟩
          have hXl : X.length = k := by rw [← hX]; simp
          have HX := hid (show (List.range (k + 1)).map (rwR rf T ps L) = X ++ [cR rf s ⟨nm, kd, mu⟩] by rw [List.range_succ, List.map_append, hX, ← HR.out]; rfl)
          rw [hX] at HO4
          have hXl64 : X.length ≤ 64 := by omega
          clear hX hXl
          have hsz := hid (show w.heap.size ≤ W4.heap.size from Nat.le_trans HBc.out.size BW4.out.size)
          have hb8 : (X.length + 1) * 32 ≤ 140737488355328 := by omega
          have hb63 : X.length + 1 ≤ maxLen := by unfold maxLen; omega
          go_wp2_with (at_builtin; refine wpList_appX clinfo Tryz.underlying53 rfl (by decide) rfl (.tmp 42) (.tmp 44) rfl w.heap.size _ X.length (ccl X) rfl HO4.out _ 1 [.int .i64 (kk : Int), .string t, .int .i64 n] rfl rfl (.inr ⟨_, _, rfl, news_blk RW4.out⟩) (by rw [HCl.out]; exact clV_one _) hb63 hb8 hsz.out ?n2)
          case n2 =>
          intro v3 w3 ho3 hg3 _
          have HO3 := hid (show OC w3 w.heap.size v3 (X ++ [cR rf s ⟨nm, kd, mu⟩]) by
            unfold OC
            rw [List.length_append, ccl_app, show ccl [cR rf s ⟨nm, kd, mu⟩] = [.int .i64 (kk : Int), .string t, .int .i64 n] by rw [HCl.out]; unfold ccl; simp]
            exact ho3)
          have HB3 := hid ((HBc.out.trans (BW4.out.mono HBc.out.size)).grown hg3 hsz.out (fun k hk => (World.ownsRow.lt HO4.out k hk).1))
          clear ho3 hg3 HO4
          go_wp2_with fail
          go_roundw
          case rel => exact ⟨k + 1, by omega, by go_num, HZ2, hid (by rw [HX.out]; exact HO3.out), HB3⟩
          case measure => simp [intOf]; omega
        · have HEv := hid (hev.early HB.out.size)
          obtain ⟨te, pe, rfl⟩ := hev.form
          have HNz := hid (show (rwR rf T ps L k).2.1 ≠ 0 by rw [HR.out]; exact hz)
          clear hrd hz hev hbc
          go_wp2_with fail
          go_region
          all_goals
            go_wp2
            go_ret2
            refine ⟨.inr ⟨k, h, HZ.out, HNz.out, _, rfl, wc.heap.size, .iface te (.pointer (some pe)), rfl, HBc.out.size, ?_, ?_⟩, ?_⟩
            · rw [HGp.out]
              exact heap_alloc_new _ _
            · rw [HR.out]
              first
                | exact HEv.out.later ((Below.refl _ _).alloc (Nat.le_refl _) _).drew
                | exact HEv.out.later ((Below.refl _ _).alloc (Nat.le_refl _) _)
            · first
                | exact (HBc.out.alloc HBc.out.size _).drew
                | exact HBc.out.alloc HBc.out.size _
    · have hkl : k = L.length := by omega
      have hI : ¬ (k : Int) < (L.length : Int) := by omega
      have HE := hid (show (∀ i, i < L.length → (rwR rf T ps L i).2.1 = 0) from fun i hi => HZ.out i (by omega))
      have HO5 := hid (show OC wr w.heap.size u8 ((List.range L.length).map (rwR rf T ps L)) by rw [← hkl]; exact HO.out)
      clear hkl
      go_wp2
      go_ret2
      exact ⟨.inl ⟨HE.out, _, rfl, HO5.out⟩, HB.out⟩
end Go.Proofs.YtmgfdnccmeahjaaGreatDoor
