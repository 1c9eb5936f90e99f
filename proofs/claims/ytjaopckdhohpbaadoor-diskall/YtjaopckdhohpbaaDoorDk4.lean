/-
  A disk in memory; an operation done.
-/
import Derived.Test.YtjaopckdhohpbaaDoorDk3
import Derived.Great.BuildSlice
import Derived.Great.FillDense
namespace Go.Proofs.YtjaopckdhohpbaaDoor
open Go.RowKit
set_option maxRecDepth 100000

/-- 129 cells are there -/
def OpThere (w : World) (p off : Nat) : Prop := ∀ j, j < 129 → (w.cell? ⟨p, off + j, none⟩).isSome = true
def rdO (w : World) (p off : Nat) : List Value := (List.range 129).map fun j => (w.cell? ⟨p, off + j, none⟩).getD undef
theorem run_opload {w : World} {p off : Nat} (h : OpThere w p off) : (Instr.loadAt 75 (.pointer (some ⟨p, off, none⟩))).run Tryd.prog w = .ok (.agg (rdO w p off).toArray) w := by
  obtain ⟨d, hd, hr⟩ := op_row
  refine run_loadAt_mid w p off _ (rdO w p off) d (fun j v hv => ?_) hd hr (by unfold rdO; rw [List.length_map, List.length_range]; exact op_info)
  unfold rdO at hv
  rw [List.getElem?_map] at hv
  by_cases hj : j < 129
  · rw [List.getElem?_range hj] at hv
    simp only [Option.map_some] at hv
    obtain ⟨u, hu⟩ := Option.isSome_iff_exists.1 (h j hj)
    rw [hu] at hv ⊢
    exact hv
  · rw [List.getElem?_eq_none (by simp; omega)] at hv
    cases hv
theorem rdO_is {w : World} {p off : Nat} {cs : List Value} (h : w.rangeAt p off cs) (hl : cs.length = 129) : OpThere w p off ∧ rdO w p off = cs := by
  refine ⟨fun j hj => by rw [h j _ (List.getElem?_eq_getElem (by omega))]; rfl, ?_⟩
  apply List.ext_getElem
  · simp [rdO, hl]
  · intro j h1 h2
    simp only [rdO, List.getElem_map, List.getElem_range]
    rw [h j _ (List.getElem?_eq_getElem h2)]
    rfl

/-- a disk in memory -/
structure DK (w : World) (base d f s cap : Nat) (tail : List Value) (F S : List UInt8) (dv : Value) (O : List Opn) : Prop where
  hd : base ≤ d
  hf : base ≤ f
  hs : base ≤ s
  df : d ≠ f
  ds : d ≠ s
  fs : f ≠ s
  ap : ∀ k, dv.ownBlock = some k → k ≠ d ∧ k ≠ f ∧ k ≠ s
  disk : w.heap[d]? = some (.cells #[.slice (some ⟨f, 0, none⟩) F.length F.length, dv, .slice (some ⟨s, 0, none⟩) S.length cap] 72 (0, 0))
  first : w.heap[f]? = some (.cells (bc F).toArray 5 (0, 0))
  seen : w.heap[s]? = some (.cells (bc S ++ tail).toArray 5 (0, 0))
  cp : S.length ≤ cap
  cm : cap ≤ 9223372036854775807
  fm : F.length ≤ 9223372036854775807
  own : w.ownsRow base 75 129 dv O.length (O.flatMap opc)
  op : ∀ o ∈ O, o.2.length = 128
theorem DK.below {w w' : World} {base d f s cap : Nat} {tail : List Value} {F S : List UInt8} {dv : Value} {O : List Opn} (h : DK w base d f s cap tail F S dv O) (hb : Below w.heap.size w w') : DK w' base d f s cap tail F S dv O :=
  { h with
    disk := (hb.block _ (Array.getElem?_eq_some_iff.1 h.disk).1).trans h.disk
    first := (hb.block _ (Array.getElem?_eq_some_iff.1 h.first).1).trans h.first
    seen := (hb.block _ (Array.getElem?_eq_some_iff.1 h.seen).1).trans h.seen
    own := World.ownsRow.kept h.own (gb_of (row := none) hb) (by cases dv.ownBlock <;> simp) }
theorem DK.cells {w : World} {base d f s cap : Nat} {tail : List Value} {F S : List UInt8} {dv : Value} {O : List Opn} (h : DK w base d f s cap tail F S dv O) :
    w.cell? ⟨d, 0, none⟩ = some (.slice (some ⟨f, 0, none⟩) F.length F.length) ∧ w.cell? ⟨d, 1, none⟩ = some dv ∧ w.cell? ⟨d, 2, none⟩ = some (.slice (some ⟨s, 0, none⟩) S.length cap) ∧ w.frozen? ⟨d, 1, none⟩ = false := by
  have := h.disk
  refine ⟨?_, ?_, ?_, ?_⟩
  · rw [cell_of_row w d 0 _ _ _ this]; rfl
  · rw [cell_of_row w d 1 _ _ _ this]; rfl
  · rw [cell_of_row w d 2 _ _ _ this]; rfl
  · simp [World.frozen?, this]
theorem DK.form {w : World} {base d f s cap : Nat} {tail : List Value} {F S : List UInt8} {dv : Value} {O : List Opn} (h : DK w base d f s cap tail F S dv O) : ∃ ao oc, dv = .slice ao O.length oc := by
  rcases h.own.2 with ⟨hv, hl⟩ | ⟨g, c, cur, hv, _⟩
  · exact ⟨none, 0, by rw [hv, hl]⟩
  · exact ⟨_, _, hv⟩
theorem own_form {w : World} {base e size n : Nat} {v : Value} {xs : List Value} (h : w.ownsRow base e size v n xs) (hn : 0 < n) : ∃ g c, v = .slice (some ⟨g, 0, none⟩) n c ∧ base ≤ g ∧ ∃ cur, w.heap[g]? = some (.cells cur e (0, 0)) := by
  rcases h.2 with ⟨_, h0⟩ | ⟨g, c, cur, hv, hb, hg, _⟩
  · omega
  · exact ⟨g, c, hv, hb, cur, hg⟩
theorem gb_setCell (w : World) (p : Addr) (v : Value) : w.grownBy (w.setCell p v) (some p.block) := ⟨rfl, rfl, rfl, by simp [World.setCell], fun k _ hr => Below.heap_setCell w p v k (fun e => hr (by rw [e]))⟩
/-- one operation more -/
theorem DK.after {W w8 w10 : World} {base d f s cap g8 c8 : Nat} {tail : List Value} {F S S' : List UInt8} {dv : Value} {O : List Opn} {o : Opn} (h : DK W base d f s cap tail F S dv O) (ho : o.2.length = 128)
    (hk : ∀ k, (k = d ∨ k = f ∨ k = s) → w8.heap[k]? = W.heap[k]?)
    (hown : w8.ownsRow base 75 129 (.slice (some ⟨g8, 0, none⟩) (O.length + 1) c8) (O.length + 1) (O.flatMap opc ++ opc o)) (hl : S'.length = S.length)
    (hs10 : w10.heap[s]? = some (.cells (bc S' ++ tail).toArray 5 (0, 0)))
    (hg10 : (w8.setCell ⟨d, 1, none⟩ (.slice (some ⟨g8, 0, none⟩) (O.length + 1) c8)).grownBy w10 (some s)) :
    DK w10 base d f s cap tail F S' (.slice (some ⟨g8, 0, none⟩) (O.length + 1) c8) (O ++ [o]) := by
  have gs := gb_setCell w8 ⟨d, 1, none⟩ (.slice (some ⟨g8, 0, none⟩) (O.length + 1) c8)
  have k1 := (hk d (.inl rfl)).trans h.disk
  have k2 := (hk f (.inr (.inl rfl))).trans h.first
  have k3 := (hk s (.inr (.inr rfl))).trans h.seen
  have hg8 : g8 ≠ d ∧ g8 ≠ f ∧ g8 ≠ s := by
    obtain ⟨g, c, hv, _, cur, hc⟩ := own_form hown (by omega)
    cases hv
    refine ⟨fun e => ?_, fun e => ?_, fun e => ?_⟩
    · rw [e, k1] at hc; cases hc
    · rw [e, k2] at hc; cases hc
    · rw [e, k3] at hc; cases hc
  have lt : ∀ {k : Nat} {x : Obj}, w8.heap[k]? = some x → k < (w8.setCell ⟨d, 1, none⟩ (.slice (some ⟨g8, 0, none⟩) (O.length + 1) c8)).heap.size := fun hx => Nat.lt_of_lt_of_le (Array.getElem?_eq_some_iff.1 hx).1 gs.size
  have d9 := heap_setCell_same w8 d 1 _ _ (.slice (some ⟨g8, 0, none⟩) (O.length + 1) c8) k1
  refine { hd := h.hd, hf := h.hf, hs := h.hs, df := h.df, ds := h.ds, fs := h.fs, ap := fun k hk => ?_, disk := ?_, first := ?_, seen := hs10, cp := by rw [hl]; exact h.cp, cm := h.cm, fm := h.fm, own := ?_, op := fun x hx => ?_ }
  · cases hk
    exact hg8
  · rw [hg10.block d (lt k1) (fun e => h.ds (Option.some.inj e)), d9, hl]
    rfl
  · rw [hg10.block f (lt k2) (fun e => h.fs (Option.some.inj e)), gs.block f (Array.getElem?_eq_some_iff.1 k2).1 (fun e => h.df (Option.some.inj e).symm)]
    exact k2
  · have o9 := World.ownsRow.kept hown gs (.inr (fun e => hg8.1 (Option.some.inj e)))
    have o10 := World.ownsRow.kept o9 hg10 (.inr (fun e => hg8.2.2 (Option.some.inj e)))
    rw [List.flatMap_append, List.length_append]
    simpa using o10
  · rcases List.mem_append.1 hx with hx | hx
    · exact h.op x hx
    · rw [List.mem_singleton.1 hx]; exact ho
theorem splice_bc (S B : List UInt8) (tail : List Value) (n : Nat) (hB : B.length = 128) (hn : (n + 1) * 128 ≤ S.length) : splice (bc S ++ tail) (n * 128) (bc (B.take 128)) = bc (splice S (n * 128) B) ++ tail := by
  have e1 : B.take 128 = B := List.take_of_length_le (by omega)
  rw [e1]
  unfold splice
  rw [List.take_append_of_le_length (by rw [bc_length]; omega), List.drop_append_of_le_length (by rw [bc_length, bc_length]; omega), bc_length, bc_append, bc_append]
  simp only [List.append_assoc]
  unfold bc
  rw [List.map_take, List.map_drop]
theorem opinfo : (Tryd.prog.info? 75).map (fun i => (i.zero, i.size, i.bytes)) = some (some (.agg (opc (0, zer)).toArray), 129, 136) := by kernel_rfl
theorem info_parts {P : Program} {t : TypeId} {z : Value} {n m : Nat} (h : (P.info? t).map (fun i => (i.zero, i.size, i.bytes)) = some (some z, n, m)) : ∃ i, P.info? t = some i ∧ i.zero = some z ∧ i.size = n ∧ i.bytes = m := by
  cases hq : P.info? t with
  | none => rw [hq] at h; cases h
  | some i =>
    rw [hq] at h
    simp only [Option.map_some, Option.some.injEq, Prod.mk.injEq] at h
    exact ⟨i, rfl, h.1, h.2.1, h.2.2⟩
theorem run_bs1 {w : World} {K : List Value} (hK : K.length = 129) : (Instr.buildSlice 68 1 #[(0, .agg K.toArray)]).run Tryd.prog w = .ok (.slice (some ⟨w.heap.size, 0, none⟩) 1 1) (w.alloc (.cells K.toArray 75)) := by
  obtain ⟨i, hi, hz, hs, _⟩ := info_parts opinfo
  refine run_buildSlice w _ 75 1 _ K.toArray i _ Tryd.underlying68 hi hz (by rw [hs]; decide) (by rw [hs]; decide) ?_
  rw [hs]
  have := Great.fill_whole (s := 129) (by decide) [.agg K.toArray] ((Array.range (1 * 129)).map ((Value.agg (opc (0, zer)).toArray).cells[· % (Value.agg (opc (0, zer)).toArray).cells.size]!)) (fun v hv => by rw [List.mem_singleton.1 hv]; simpa [Value.cells] using hK) (by simp)
  simpa [Value.cells] using this
/-- a load of an operation, kept whole -/
def opLoad (a : Addr) : Sem Value := loadVar 75 a
theorem loadVar_op (a : Addr) : loadVar 75 a = opLoad a := rfl
theorem run_opLoad {w : World} {p off : Nat} (h : OpThere w p off) : (opLoad ⟨p, off, none⟩).run Tryd.prog w = .ok (.agg (rdO w p off).toArray) w := by
  have := run_opload h
  unfold opLoad
  simpa only [Instr.loadAt, Instr.sureAddr, Sem.run_bind, Sem.run_pure, Result.andThen_ok] using this
def bsOne (parts : Array (Nat × Value)) : Sem Value := Instr.buildSlice 68 1 parts
theorem bs_op (parts : Array (Nat × Value)) : Instr.buildSlice 68 1 parts = bsOne parts := rfl
theorem run_bsOne {w : World} {K : List Value} (hK : K.length = 129) : (bsOne #[(0, .agg K.toArray)]).run Tryd.prog w = .ok (.slice (some ⟨w.heap.size, 0, none⟩) 1 1) (w.alloc (.cells K.toArray 75)) := run_bs1 hK
attribute [local go_sem ↓] loadVar_op bs_op
attribute [local go_sem] run_opLoad run_bsOne
theorem step_append_own {P : Program} {ops : Array Oper} {o : Oper} {a : Act} {w : World} {K : Act → World → Prop} {Q : Exit → Act → World → Prop} {E : Prop} (hgd : o.guard = none) (s x : Operand) (t : TypeId)
    (ho : o.op = .call { callee := .builtin .append, args := #[s, x], argTypes := #[t, t] })
    (base : Nat) (e : TypeId) (i : TypeInfo) (z : Value) (size bytes : Nat) (ht : P.underlying t = some (.slice e)) (hi : P.info? e = some i) (hz : i.zero = some z)
    (hsize : i.size = size) (hby : i.bytes = bytes) (hzs : z.cells.size = size) (hsz : 0 < size)
    (v : Value) (n : Nat) (xs : List Value) (hs : a.eval s = v) (hown : w.ownsRow base e size v n xs)
    (ad : Addr) (m c : Nat) (news : List Value) (hx : a.eval x = .slice (some ad) m c) (hl : news.length = m * size) (hnews : ∀ j u, news[j]? = some u → w.cell? (ad.add j) = some u) (h1 : ∀ u ∈ news, u.oneCell' = true)
    (h63 : n + m ≤ maxLen) (hbytes : (n + m) * bytes ≤ 140737488355328) (hbase : base ≤ w.heap.size)
    (h : ∀ v' w', w'.ownsRow base e size v' (n + m) (xs ++ news) → w.grownBy w' v.ownBlock → (v' = .slice none 0 0 ↔ v = .slice none 0 0 ∧ m = 0) → K (a.put o.dst v') w') :
    if Region.wanted o (yielded ops a.tmps) = true then Oper.wp P o a w K Q else E := by
  have hw : Region.wanted o (yielded ops a.tmps) = true := by simp [Region.wanted, hgd]
  rw [if_pos hw]
  exact wp_append_own w s x t ho base e i z size bytes ht hi hz hsize hby hzs hsz v n xs hs hown ad m c news hx hl hnews h1 h63 hbytes hbase h
set_option maxHeartbeats 4000000 in
theorem do_write (base d f s cap n : Nat) (tail : List Value) (F S B : List UInt8) (dv : Value) (O : List Opn) (w : World) (hfl : HasFl w) (h : DK w base d f s cap tail F S dv O) (hO : O.length < 65536) (hB : B.length = 128) (hn : (n + 1) * 128 ≤ S.length) (hbase : base ≤ w.heap.size) (hb0 : 0 < base) :
    Calls Tryd.prog 38 #[.pointer (some ⟨d, 0, none⟩), .agg (opc ((n : Int), B)).toArray] w fun e w' => e = .returned (.int .i64 0) ∧ (∃ dv', DK w' base d f s cap tail F (splice S (n * 128) B) dv' (O ++ [((n : Int), B)])) ∧ Below base w w' := by
  have hsw : s < w.heap.size := (Array.getElem?_eq_some_iff.1 h.seen).1
  have hdw : d < w.heap.size := (Array.getElem?_eq_some_iff.1 h.disk).1
  obtain ⟨ao, oc, rfl⟩ := h.form
  have hOI : ¬ (65536 : Int) ≤ (O.length : Int) := by omega
  have bA : Below w.heap.size w (w.alloc (.cells (opc ((n : Int), B)).toArray 75)) := (Below.refl _ _).alloc (Nat.le_refl _) _
  have HD := hid (h.below bA)
  have HF := hid (hfl.below bA)
  have HR := hid (show (w.alloc (.cells (opc ((n : Int), B)).toArray 75)).rangeAt w.heap.size 0 (opc ((n : Int), B)) from fun j v hv => by
    rw [cell_of_row _ w.heap.size (0 + j) (opc ((n : Int), B)).toArray _ (0, 0) (heap_alloc_new _ _)]
    simpa using hv)
  obtain ⟨W, hW⟩ : ∃ W, w.alloc (.cells (opc ((n : Int), B)).toArray 75) = W := ⟨_, rfl⟩
  rw [hW] at HD HF HR
  obtain ⟨c0, c1, c2, c3⟩ := HD.out.cells
  have htown : some w.heap.size ≠ (Value.slice ao O.length oc).ownBlock := fun e => by
    have := (World.ownsRow.lt h.own w.heap.size e.symm).2
    omega
  clear h hfl
  have hdl : d < W.heap.size := (Array.getElem?_eq_some_iff.1 HD.out.disk).1
  have htl : w.heap.size < W.heap.size := by rw [← hW]; exact (Array.getElem?_eq_some_iff.1 (heap_alloc_new _ _)).1
  have htd : w.heap.size ≠ d := fun e => by have := hdw; omega
  have HT := hid (rdO_is (range_drewN HR.out 1) (opc_len hB))
  have hT1 : OpThere W.drew w.heap.size 0 := HT.out.1
  have hT2 : rdO W.drew w.heap.size 0 = opc ((n : Int), B) := HT.out.2
  have hOl : (opc ((n : Int), B)).length = 129 := opc_len hB
  obtain ⟨j0, hj0, hy0, hy1, hy2⟩ := info_parts opinfo
  have BW := hid (show Below base w W from hW ▸ bA.mono hbase)
  generalize hOL : opc ((n : Int), B) = OL at *
  go_enter Tryd.func38, Tryd.ntmps38
  go_wp2_with fail
  have hdrop : (O.length + 1) * 136 ≤ 140737488355328 := by omega
  have hmx : O.length + 1 ≤ maxLen := by unfold maxLen; omega
  have HDW := hid HD.out.disk
  have HOW := hid (show (W.drew.alloc (.cells OL.toArray 75)).ownsRow base 75 129 (.slice ao O.length oc) O.length (O.flatMap opc) from World.ownsRow.alloc HD.out.own _)
  have HNW := hid (show ∀ j u, OL[j]? = some u → (W.drew.alloc (.cells OL.toArray 75)).cell? ((⟨W.heap.size, 0, none⟩ : Addr).add j) = some u from fun j u hu => by
    rw [Addr.add_lit, cell_of_row _ W.heap.size (0 + j) OL.toArray 75 (0, 0) (heap_alloc_new W.drew _)]
    simpa using hu)
  have H1 := hid (show ∀ u ∈ OL, u.oneCell' = true from hOL ▸ opc_one _)
  have HBS := hid (show base ≤ (W.drew.alloc (.cells OL.toArray 75)).heap.size from Nat.le_trans (Nat.le_trans hbase (Nat.le_of_lt htl)) ((Below.refl W.heap.size W).drew.alloc (Nat.le_refl _) _).size)
  have HAP := hid HD.out.ap
  have HBK := hid (show ∀ w8, (W.drew.alloc (.cells OL.toArray 75)).grownBy w8 (Value.slice ao O.length oc).ownBlock → ∀ k, k < W.heap.size → some k ≠ (Value.slice ao O.length oc).ownBlock → w8.heap[k]? = W.heap[k]? from fun w8 hg k hk hne => (hg.block k (Nat.lt_of_lt_of_le hk ((Below.refl W.heap.size W).drew.alloc (Nat.le_refl _) _).size) hne).trans (((Below.refl W.heap.size W).drew.alloc (Nat.le_refl _) _).block k hk))
  have HNE := hid (show ∀ k, (k = d ∨ k = f ∨ k = s) → some k ≠ (Value.slice ao O.length oc).ownBlock from fun k hk e => by
    obtain ⟨a1, a2, a3⟩ := HAP.out k e.symm
    rcases hk with h | h | h
    · exact a1 h
    · exact a2 h
    · exact a3 h)
  go_region_law (refine step_append_own rfl (.tmp 15) (.tmp 17) 68 rfl base 75 j0 (.agg (opc (0, zer)).toArray) 129 136 Tryd.underlying68 hj0 hy0 hy1 hy2 rfl (by decide) (.slice ao O.length oc) O.length (O.flatMap opc) rfl HOW.out ⟨W.heap.size, 0, none⟩ 1 1 OL rfl hOl HNW.out H1.out hmx hdrop HBS.out ?_; intro v8 w8 hown8 hg8 _; obtain ⟨g8, c8, hv8, hb8, ht8⟩ := own_form hown8 (by omega); subst hv8; have q0 := HBK.out w8 hg8 d hdl (HNE.out d (.inl rfl)); have q1 := (World.cell?_of_block (a := ⟨d, 1, none⟩) q0).trans c1; have q2 := (World.cell?_of_block (a := ⟨d, 2, none⟩) q0).trans c2; have q3 := (World.frozen?_of_block (a := ⟨d, 1, none⟩) q0).trans c3)
  all_goals
    have HQ0 := hid q0
    have K8 := hid (fun k hk hne => HBK.out w8 hg8 k hk hne)
    have HO8 := hid hown8
    have B8 := hid (show Below base w w8 from (BW.out.drew.alloc (Nat.le_trans hbase (Nat.le_of_lt htl)) _).grown hg8 HBS.out (fun k hk => (World.ownsRow.lt HD.out.own k hk).1))
    clear q0 hown8 hg8 ht8
    go_wp2_with fail
    have gs := gb_setCell w8 ⟨d, 1, none⟩ (.slice (some ⟨g8, 0, none⟩) (O.length + 1) c8)
    have HGS := hid gs
    have kk : ∀ k, k < W.heap.size → some k ≠ (Value.slice ao O.length oc).ownBlock → k ≠ d → (w8.setCell ⟨d, 1, none⟩ (.slice (some ⟨g8, 0, none⟩) (O.length + 1) c8)).heap[k]? = W.heap[k]? := fun k h1 h2 h3 => (Below.heap_setCell _ _ _ _ h3).trans (K8.out k h1 h2)
    have hsl : s < W.heap.size := (Array.getElem?_eq_some_iff.1 HD.out.seen).1
    have hts : w.heap.size ≠ s := fun e => by have := hsw; omega
    have R9 : (w8.setCell ⟨d, 1, none⟩ (.slice (some ⟨g8, 0, none⟩) (O.length + 1) c8)).rangeAt w.heap.size 0 (opc ((n : Int), B)) := fun j v hv => (World.cell?_of_block (kk _ htl htown htd)).trans (HR.out j v (hOL ▸ hv))
    have F9 : HasFl (w8.setCell ⟨d, 1, none⟩ (.slice (some ⟨g8, 0, none⟩) (O.length + 1) c8)) := by
      obtain ⟨t, fr, hh⟩ := HF.out
      refine ⟨t, fr, (kk _ (Array.getElem?_eq_some_iff.1 hh).1 (fun e => ?_) (fun e => by have := HD.out.hd; omega)).trans hh⟩
      have := (World.ownsRow.lt HD.out.own _ e.symm).1
      omega
    have S9 := (kk s hsl (HNE.out s (.inr (.inr rfl))) (fun e => HD.out.ds e.symm)).trans HD.out.seen
    have HLay := hid (lay_write w.heap.size 0 s n S.length cap 128 B (bc S ++ tail) _ F9 R9 hB hts S9 hn HD.out.cp HD.out.cm (by simp [bc_length]) (by omega))
    clear gs kk R9 F9 S9
    refine HLay.out.mono ?_
    rintro e w10 ⟨rfl, h10, g10⟩
    rw [splice_bc S B tail n hB hn] at h10
    have HDK := hid (DK.after (o := ((n : Int), B)) HD.out hB (fun k hk => K8.out k (by
      rcases hk with rfl | rfl | rfl
      · exact hdl
      · exact (Array.getElem?_eq_some_iff.1 HD.out.first).1
      · exact hsl) (HNE.out k hk)) (hOL ▸ HO8.out) (length_splice S (n * 128) B (by omega)) h10 g10)
    have B10 := hid ((B8.out.setCell (p := ⟨d, 1, none⟩) HD.out.hd _).grown g10 (Nat.le_trans B8.out.size HGS.out.size |> Nat.le_trans hbase) (fun k hk => by cases hk; exact HD.out.hs))
    clear h10 g10 HLay
    go_wp2
    go_ret
    exact ⟨rfl, ⟨_, HDK.out⟩, B10.out⟩
set_option maxHeartbeats 4000000 in
theorem do_flush (base d f s cap : Nat) (tail : List Value) (F S : List UInt8) (dv : Value) (O : List Opn) (w : World) (hfl : HasFl w) (h : DK w base d f s cap tail F S dv O) (hO : O.length < 65536) (hbase : base ≤ w.heap.size) (hb0 : 0 < base) :
    Calls Tryd.prog 38 #[.pointer (some ⟨d, 0, none⟩), .agg (opc flO).toArray] w fun e w' => e = .returned (.int .i64 0) ∧ (∃ dv', DK w' base d f s cap tail F S dv' (O ++ [flO])) ∧ Below base w w' := by
  have hsw : s < w.heap.size := (Array.getElem?_eq_some_iff.1 h.seen).1
  have hdw : d < w.heap.size := (Array.getElem?_eq_some_iff.1 h.disk).1
  obtain ⟨ao, oc, rfl⟩ := h.form
  have hOI : ¬ (65536 : Int) ≤ (O.length : Int) := by omega
  have bA : Below w.heap.size w (w.alloc (.cells (opc flO).toArray 75)) := (Below.refl _ _).alloc (Nat.le_refl _) _
  have HD := hid (h.below bA)
  have HF := hid (hfl.below bA)
  have HR := hid (show (w.alloc (.cells (opc flO).toArray 75)).rangeAt w.heap.size 0 (opc flO) from fun j v hv => by
    rw [cell_of_row _ w.heap.size (0 + j) (opc flO).toArray _ (0, 0) (heap_alloc_new _ _)]
    simpa using hv)
  obtain ⟨W, hW⟩ : ∃ W, w.alloc (.cells (opc flO).toArray 75) = W := ⟨_, rfl⟩
  rw [hW] at HD HF HR
  obtain ⟨c0, c1, c2, c3⟩ := HD.out.cells
  have htown : some w.heap.size ≠ (Value.slice ao O.length oc).ownBlock := fun e => by
    have := (World.ownsRow.lt h.own w.heap.size e.symm).2
    omega
  clear h hfl
  have hdl : d < W.heap.size := (Array.getElem?_eq_some_iff.1 HD.out.disk).1
  have htl : w.heap.size < W.heap.size := by rw [← hW]; exact (Array.getElem?_eq_some_iff.1 (heap_alloc_new _ _)).1
  have htd : w.heap.size ≠ d := fun e => by have := hdw; omega
  have HT := hid (rdO_is (range_drewN HR.out 1) (opc_len (o := flO) rfl))
  have hT1 : OpThere W.drew w.heap.size 0 := HT.out.1
  have hT2 : rdO W.drew w.heap.size 0 = opc flO := HT.out.2
  have hOl : (opc flO).length = 129 := opc_len (o := flO) rfl
  obtain ⟨j0, hj0, hy0, hy1, hy2⟩ := info_parts opinfo
  have BW := hid (show Below base w W from hW ▸ bA.mono hbase)
  generalize hOL : opc flO = OL at *
  go_enter Tryd.func38, Tryd.ntmps38
  go_wp2_with fail
  have hdrop : (O.length + 1) * 136 ≤ 140737488355328 := by omega
  have hmx : O.length + 1 ≤ maxLen := by unfold maxLen; omega
  have HDW := hid HD.out.disk
  have HOW := hid (show (W.drew.alloc (.cells OL.toArray 75)).ownsRow base 75 129 (.slice ao O.length oc) O.length (O.flatMap opc) from World.ownsRow.alloc HD.out.own _)
  have HNW := hid (show ∀ j u, OL[j]? = some u → (W.drew.alloc (.cells OL.toArray 75)).cell? ((⟨W.heap.size, 0, none⟩ : Addr).add j) = some u from fun j u hu => by
    rw [Addr.add_lit, cell_of_row _ W.heap.size (0 + j) OL.toArray 75 (0, 0) (heap_alloc_new W.drew _)]
    simpa using hu)
  have H1 := hid (show ∀ u ∈ OL, u.oneCell' = true from hOL ▸ opc_one _)
  have HBS := hid (show base ≤ (W.drew.alloc (.cells OL.toArray 75)).heap.size from Nat.le_trans (Nat.le_trans hbase (Nat.le_of_lt htl)) ((Below.refl W.heap.size W).drew.alloc (Nat.le_refl _) _).size)
  have HAP := hid HD.out.ap
  have HBK := hid (show ∀ w8, (W.drew.alloc (.cells OL.toArray 75)).grownBy w8 (Value.slice ao O.length oc).ownBlock → ∀ k, k < W.heap.size → some k ≠ (Value.slice ao O.length oc).ownBlock → w8.heap[k]? = W.heap[k]? from fun w8 hg k hk hne => (hg.block k (Nat.lt_of_lt_of_le hk ((Below.refl W.heap.size W).drew.alloc (Nat.le_refl _) _).size) hne).trans (((Below.refl W.heap.size W).drew.alloc (Nat.le_refl _) _).block k hk))
  have HNE := hid (show ∀ k, (k = d ∨ k = f ∨ k = s) → some k ≠ (Value.slice ao O.length oc).ownBlock from fun k hk e => by
    obtain ⟨a1, a2, a3⟩ := HAP.out k e.symm
    rcases hk with h | h | h
    · exact a1 h
    · exact a2 h
    · exact a3 h)
  go_region_law (refine step_append_own rfl (.tmp 15) (.tmp 17) 68 rfl base 75 j0 (.agg (opc (0, zer)).toArray) 129 136 Tryd.underlying68 hj0 hy0 hy1 hy2 rfl (by decide) (.slice ao O.length oc) O.length (O.flatMap opc) rfl HOW.out ⟨W.heap.size, 0, none⟩ 1 1 OL rfl hOl HNW.out H1.out hmx hdrop HBS.out ?_; intro v8 w8 hown8 hg8 _; obtain ⟨g8, c8, hv8, hb8, ht8⟩ := own_form hown8 (by omega); subst hv8; have q0 := HBK.out w8 hg8 d hdl (HNE.out d (.inl rfl)); have q1 := (World.cell?_of_block (a := ⟨d, 1, none⟩) q0).trans c1; have q2 := (World.cell?_of_block (a := ⟨d, 2, none⟩) q0).trans c2; have q3 := (World.frozen?_of_block (a := ⟨d, 1, none⟩) q0).trans c3)
  all_goals
    have HQ0 := hid q0
    have K8 := hid (fun k hk hne => HBK.out w8 hg8 k hk hne)
    have HO8 := hid hown8
    have B8 := hid (show Below base w w8 from (BW.out.drew.alloc (Nat.le_trans hbase (Nat.le_of_lt htl)) _).grown hg8 HBS.out (fun k hk => (World.ownsRow.lt HD.out.own k hk).1))
    clear q0 hown8 hg8 ht8
    go_wp2_with fail
    have gs := gb_setCell w8 ⟨d, 1, none⟩ (.slice (some ⟨g8, 0, none⟩) (O.length + 1) c8)
    have HGS := hid gs
    have kk : ∀ k, k < W.heap.size → some k ≠ (Value.slice ao O.length oc).ownBlock → k ≠ d → (w8.setCell ⟨d, 1, none⟩ (.slice (some ⟨g8, 0, none⟩) (O.length + 1) c8)).heap[k]? = W.heap[k]? := fun k h1 h2 h3 => (Below.heap_setCell _ _ _ _ h3).trans (K8.out k h1 h2)
    have hsl : s < W.heap.size := (Array.getElem?_eq_some_iff.1 HD.out.seen).1
    have hts : w.heap.size ≠ s := fun e => by have := hsw; omega
    have R9 : (w8.setCell ⟨d, 1, none⟩ (.slice (some ⟨g8, 0, none⟩) (O.length + 1) c8)).rangeAt w.heap.size 0 (opc flO) := fun j v hv => (World.cell?_of_block (kk _ htl htown htd)).trans (HR.out j v (hOL ▸ hv))
    have F9 : HasFl (w8.setCell ⟨d, 1, none⟩ (.slice (some ⟨g8, 0, none⟩) (O.length + 1) c8)) := by
      obtain ⟨t, fr, hh⟩ := HF.out
      refine ⟨t, fr, (kk _ (Array.getElem?_eq_some_iff.1 hh).1 (fun e => ?_) (fun e => by have := HD.out.hd; omega)).trans hh⟩
      have := (World.ownsRow.lt HD.out.own _ e.symm).1
      omega
    have S9 := (kk s hsl (HNE.out s (.inr (.inr rfl))) (fun e => HD.out.ds e.symm)).trans HD.out.seen
    have HLay := hid (lay_flush w.heap.size 0 (.slice (some ⟨s, 0, none⟩) S.length cap) 128 _ F9 R9)
    have HS9 := hid S9
    clear gs kk R9 F9 S9
    refine HLay.out.mono ?_
    rintro e w10 ⟨rfl, b10⟩
    have g10 := gb_of (row := some s) b10
    have h10 := (b10.block s (Array.getElem?_eq_some_iff.1 HS9.out).1).trans HS9.out
    have HDK := hid (DK.after (o := flO) HD.out rfl (fun k hk => K8.out k (by
      rcases hk with rfl | rfl | rfl
      · exact hdl
      · exact (Array.getElem?_eq_some_iff.1 HD.out.first).1
      · exact hsl) (HNE.out k hk)) (hOL ▸ HO8.out) rfl h10 g10)
    have B10 := hid ((B8.out.setCell (p := ⟨d, 1, none⟩) HD.out.hd _).grown g10 (Nat.le_trans B8.out.size HGS.out.size |> Nat.le_trans hbase) (fun k hk => by cases hk; exact HD.out.hs))
    clear h10 g10 HLay b10 HS9
    go_wp2
    go_ret
    exact ⟨rfl, ⟨_, HDK.out⟩, B10.out⟩
end Go.Proofs.YtjaopckdhohpbaaDoor
