/-
  sheets: lists of texts that are read, lent, kept (out of Nw1, Nw2).
-/
import Derived.Test.YtedgdgaobgkffaaGreatDoorDph
import Derived.Deep.RegionLaw
import Derived.Laws.AppendOwnNone
import Derived.Laws.BytesArg
import Derived.Maps.AppendAt
import Derived.Deep.RegionWith
import Derived.Handy
namespace Go.Proofs.YtedgdgaobgkffaaGreatDoor
open Go.RowKit
set_option maxRecDepth 100000
set_option linter.unusedVariables false
set_option linter.unusedSimpArgs false

theorem below_cells {w w' : World} (hb : Below w.heap.size w w') : ∀ p : Addr, ∀ u, w.cell? p = some u → w'.cell? p = some u :=
  fun p _ h => (hb.cell (p := p) (World.block_lt_of_cell? _ _ h)).trans h
theorem bel_step {a b c : World} (h : Below a.heap.size a b) (h2 : Below b.heap.size b c) : Below a.heap.size a c := h.trans (h2.mono h.size)
/-- a slice reads as texts -/
def RT (w : World) (v : Value) (L : List ByteArray) : Prop :=
  (L = [] ∧ ∃ ao cap, v = .slice ao 0 cap ∧ (ao = none → cap = 0)) ∨
  ∃ b off cap, v = .slice (some ⟨b, off, none⟩) L.length cap ∧ (L.length ≤ cap ∧ cap ≤ 9223372036854775807) ∧ ∀ j (hj : j < L.length), w.cell? ⟨b, off + j, none⟩ = some (.string L[j])
theorem RT.below {w w' : World} {v : Value} {L : List ByteArray} (h : RT w v L) (hb : Below w.heap.size w w') : RT w' v L := by
  rcases h with h | ⟨b, off, cap, hv, hl, hc⟩
  · exact .inl h
  · exact .inr ⟨b, off, cap, hv, hl, fun j hj => below_cells hb _ _ (hc j hj)⟩
theorem RT.form {w : World} {v : Value} {L : List ByteArray} (h : RT w v L) : ∃ ao cap, v = .slice ao L.length cap := by
  rcases h with ⟨rfl, ao, cap, rfl, _⟩ | ⟨b, off, cap, rfl, _⟩
  · exact ⟨_, _, rfl⟩
  · exact ⟨_, _, rfl⟩
theorem RT.at {w : World} {v : Value} {L : List ByteArray} (h : RT w v L) (j : Nat) (hj : j < L.length) : ∃ b off cap, v = .slice (some ⟨b, off, none⟩) L.length cap ∧ L.length ≤ cap ∧ ∀ i (hi : i < L.length), w.cell? ⟨b, off + i, none⟩ = some (.string L[i]) := by
  rcases h with ⟨rfl, _⟩ | ⟨b, off, cap, hv, hl, hc⟩
  · simp at hj
  · exact ⟨b, off, cap, hv, hl.1, hc⟩
theorem RT.len {w : World} {v : Value} {L : List ByteArray} (h : RT w v L) : L.length ≤ 9223372036854775807 := by
  rcases h with ⟨rfl, _⟩ | ⟨b, off, cap, _, hl, _⟩
  · simp
  · omega
def tc (L : List ByteArray) : List Value := L.map Value.string
theorem tc_len (L : List ByteArray) : (tc L).length = L.length * 1 := by simp [tc]
theorem tc_one (L : List ByteArray) : ∀ u ∈ tc L, u.oneCell' = true := by
  intro u hu
  obtain ⟨x, _, rfl⟩ := List.mem_map.1 hu
  rfl
theorem tinfo : (Tryz.prog.info? 9).map (fun i => (i.zero, i.size, i.bytes)) = some (some (.string ⟨#[]⟩), 1, 16) := by kernel_rfl
theorem RT.src {w : World} {v : Value} {L : List ByteArray} (h : RT w v L) : (v = .slice none 0 0 ∧ L.length = 0) ∨ ∃ ad cp, v = .slice (some ad) L.length cp ∧ ∀ j u, (tc L)[j]? = some u → w.cell? (ad.add j) = some u := by
  rcases h with ⟨rfl, ao, cap, rfl, hc⟩ | ⟨b, off, cap, rfl, _, hcell⟩
  · cases ao with
    | none => obtain rfl := hc rfl; exact .inl ⟨rfl, rfl⟩
    | some ad => exact .inr ⟨ad, cap, rfl, fun j u hj => by simp [tc] at hj⟩
  · refine .inr ⟨_, cap, rfl, fun j u hj => ?_⟩
    have hj2 : j < L.length := by have := (List.getElem?_eq_some_iff.1 hj).1; simpa [tc] using this
    have e : (tc L)[j]? = some (.string L[j]) := by simp [tc, hj2]
    rw [e] at hj
    cases hj
    rw [Addr.add_lit]
    exact hcell j hj2
/-- append of what a slice reads as, nil or not -/
theorem wpList_appX {e st : TypeId} {z : Value} {size bytes : Nat} (inf : (Tryz.prog.info? e).map (fun i => (i.zero, i.size, i.bytes)) = some (some z, size, bytes)) (hst : Tryz.prog.underlying st = some (.slice e)) (hzs : z.cells.size = size) (hk0 : 0 < size)
    {w : World} {ops : Array Oper} {rest : List Oper} {o : Oper} {a : Act} {Q : Exit → Act → World → Prop} (hgd : o.guard = none) (s x : Operand)
    (ho : o.op = .call { callee := .builtin .append, args := #[s, x], argTypes := #[st, st] })
    (base : Nat) (v : Value) (n : Nat) (xs : List Value) (hs : a.eval s = v) (hown : w.ownsRow base e size v n xs) (xv : Value) (m : Nat) (news : List Value) (hx : a.eval x = xv) (hl : news.length = m * size)
    (hr : (xv = .slice none 0 0 ∧ m = 0) ∨ ∃ ad cp, xv = .slice (some ad) m cp ∧ ∀ j u, news[j]? = some u → w.cell? (ad.add j) = some u) (h1 : ∀ u ∈ news, u.oneCell' = true)
    (h63 : n + m ≤ maxLen) (hbytes : (n + m) * bytes ≤ 140737488355328) (hbase : base ≤ w.heap.size)
    (h : ∀ v' w', w'.ownsRow base e size v' (n + m) (xs ++ news) → w.grownBy w' v.ownBlock → (v'.ownBlock = v.ownBlock ∨ v'.ownBlock = some w.heap.size) → wpList Tryz.prog ops Q rest (a.put o.dst v') w') : wpList Tryz.prog ops Q (o :: rest) a w := by
  obtain ⟨i, hi, hz, hsz, hby⟩ := info_parts inf
  rcases hr with ⟨hv, rfl⟩ | ⟨ad, cp, hv, hnews⟩
  · have hn : news = [] := List.eq_nil_of_length_eq_zero (by omega)
    subst hn
    refine wpList_append_own_none hgd s x st ho base e i size hst hi v n xs hs hown (hx.trans hv) ?_
    exact h v w (by rw [List.append_nil, Nat.add_zero]; exact hown) ⟨rfl, rfl, rfl, Nat.le_refl _, fun _ _ _ => rfl⟩ (.inl rfl)
  · exact wpList_append_own_at w hgd s x st ho base e i z size bytes hst hi hz hsz hby hzs hk0 v n xs hs hown ad m cp news (hx.trans hv) hl hnews h1 h63 hbytes hbase (fun v' w' a1 a2 _ a4 => h v' w' a1 a2 a4)
theorem own_later {w w' : World} {base : Nat} {e : TypeId} {size : Nat} {v : Value} {n : Nat} {xs : List Value} (h : w.ownsRow base e size v n xs) (hb : Below w.heap.size w w') : w'.ownsRow base e size v n xs :=
  World.ownsRow.kept h (row := none) ⟨hb.os, hb.tape, hb.output, hb.size, fun k hk _ => hb.block k hk⟩ (by cases v.ownBlock <;> simp)
theorem news_blk {w : World} {g : Nat} {cs : Array Value} {t : TypeId} {fr : Nat × Nat} (h : w.heap[g]? = some (.cells cs t fr)) : ∀ j u, cs.toList[j]? = some u → w.cell? ((⟨g, 0, none⟩ : Addr).add j) = some u := fun j u hj => by
  rw [Addr.add_lit, Lib.cell_of_heap h, Nat.zero_add]
  simpa using hj
/-- the i-th note -/
def ntB (k : Nat) : ByteArray := ⟨#[UInt8.ofNat k, 0]⟩
/-- the i-th mark -/
def mkB (k : Nat) : ByteArray := ⟨#[UInt8.ofNat k, 0, 108, 101, 110, 116]⟩
def mkT : List ByteArray := (List.range 9).map mkB
theorem mkT_len : mkT.length = 9 := by simp [mkT]
theorem mkT_take (k : Nat) (h : k < 9) : mkT.take (k + 1) = mkT.take k ++ [mkB k] := by
  rw [List.take_succ_eq_append_getElem (by rw [mkT_len]; exact h)]
  simp [mkT]
theorem nt_app (k : Nat) : ntB k ++ ⟨#[108, 101, 110, 116]⟩ = mkB k := by
  apply ByteArray.ext
  simp [ntB, mkB]
set_option maxHeartbeats 2000000 in
theorem note_any (k : Nat) (hk : k < 9) (w : World) : Calls Tryz.prog 21 #[.int .i64 (k : Int)] w fun e w' => e = .returned (.string (ntB k)) ∧ Below w.heap.size w w' := by
  have h1 : (k : Int).tmod 251 = (k : Int) := by rw [Int.tmod_eq_emod_of_nonneg (by omega)]; omega
  have h2 : (k : Int).tdiv 251 = 0 := by rw [Int.tdiv_eq_ediv_of_nonneg (by omega)]; omega
  have h3 : IntKind.u8.wrap (k : Int) = (k : Int) := by rw [IntKind.wrap_u8]; omega
  have q1 : ∀ W : World, W = w.alloc (.cells #[.int .u8 (k : Int), .int .u8 0] 5) → (convert 44 9 (.slice (some ⟨w.heap.size, 0, none⟩) 2 2)).run Tryz.prog W = .ok (.string (ntB k)) W := fun W hW => by
    have := run_convert_bytes_arg (P := Tryz.prog) W 44 5 Tryz.underlying44 Tryz.underlying5 w.heap.size 0 2 2 [(k : Int), 0] rfl (fun i hi => by
      subst hW
      match i, hi with
      | 0, _ => simp
      | 1, _ => simp)
    refine (this 9 Tryz.underlying9).trans ?_
    simp [strOfNums, ntB]
  have q2 := q1 _ rfl
  clear q1
  go_enter Tryz.func21, Tryz.ntmps21
  go_wp2_with fail
  go_ret
  exact ⟨rfl, (Below.refl _ _).alloc (Nat.le_refl _) _⟩
/-- lent texts: the marks lie behind them -/
def LT (w : World) (v : Value) (L : List ByteArray) : Prop :=
  ∃ b cap, v = .slice (some ⟨b, 0, none⟩) L.length cap ∧ L.length + 9 ≤ cap ∧ cap ≤ 9223372036854775807 ∧ ∀ j (hj : j < (L ++ mkT).length), w.cell? ⟨b, j, none⟩ = some (.string (L ++ mkT)[j])
theorem LT.below {w w' : World} {v : Value} {L : List ByteArray} (h : LT w v L) (hb : Below w.heap.size w w') : LT w' v L := by
  obtain ⟨b, cap, hv, h1, h2, hc⟩ := h
  exact ⟨b, cap, hv, h1, h2, fun j hj => below_cells hb _ _ (hc j hj)⟩
theorem LT.reads {w : World} {v : Value} {L : List ByteArray} (h : LT w v L) : RT w v L := by
  obtain ⟨b, cap, rfl, h1, h2, hc⟩ := h
  refine .inr ⟨b, 0, cap, rfl, ⟨by omega, h2⟩, fun j hj => ?_⟩
  have := hc j (by simp; omega)
  rw [List.getElem_append_left hj] at this
  rw [Nat.zero_add]
  exact this
def OT (w : World) (base : Nat) (v : Value) (L : List ByteArray) : Prop := w.ownsRow base 9 1 v L.length (tc L)
theorem OT.lent {w : World} {base : Nat} {v : Value} {L : List ByteArray} (h : OT w base v (L ++ mkT)) : ∃ g cap, v = .slice (some ⟨g, 0, none⟩) (L.length + 9) cap ∧ L.length + 9 ≤ cap ∧ LT w (.slice (some ⟨g, 0, none⟩) L.length cap) L := by
  have hl : (L ++ mkT).length = L.length + 9 := by rw [List.length_append, mkT_len]
  have hc := fun g hg => World.ownsRow.cells h (g := g) hg
  rcases h.2 with ⟨_, h0⟩ | ⟨g, cap, cur, rfl, _, hgg, hn, hm, _⟩
  · omega
  have hm2 : cap ≤ 9223372036854775807 := hm
  refine ⟨g, cap, by rw [hl], by omega, g, cap, rfl, by omega, hm2, fun j hj => ?_⟩
  have := hc g rfl j (.string (L ++ mkT)[j]) (by unfold tc; rw [List.getElem?_map, List.getElem?_eq_getElem hj]; rfl)
  rw [Addr.add_lit, Nat.zero_add] at this
  exact this
set_option maxHeartbeats 2000000 in
theorem lentTexts_any (v : Value) (L : List ByteArray) (w : World) (hr : RT w v L) (hl : L.length ≤ 8796093021952) :
    Calls Tryz.prog 20 #[v] w fun e w' => (∃ v', e = .returned v' ∧ LT w' v' L) ∧ Below w.heap.size w w' := by
  have HR := hid hr
  obtain ⟨ao, cap, rfl⟩ := hr.form
  clear hr
  go_enter Tryz.func20, Tryz.ntmps20
  go_wp2_with (at_builtin; refine wpList_appX tinfo Tryz.underlying49 rfl (by decide) rfl (.tmp 5) (.tmp 6) rfl w.heap.size _ 0 [] rfl (World.ownsRow_nil _ _ _ _) _ L.length (tc L) rfl (tc_len _) HR.out.src (tc_one _) (by unfold maxLen; omega) (by omega) (Nat.le_refl _) ?n1)
  case n1 =>
  intro v1 w1 ho1 hg1 _
  have HO1 := hid (show OT w1 w.heap.size v1 L by simpa [OT] using ho1)
  have HB1 := hid ((Below.refl w.heap.size w).grown hg1 (Nat.le_refl _) (by intro k hk; cases hk))
  clear ho1 hg1
  go_wp2_with fail
  go_loopw [3, 4] (fun v i wr => ∃ k : Nat, k ≤ 9 ∧ i = .int .i64 k ∧ OT wr w.heap.size v (L ++ mkT.take k) ∧ Below w.heap.size w wr) (fun _ i _ => 9 - (intOf i).toNat)
  case atStart => exact ⟨0, by omega, rfl, by simpa using HO1.out, HB1.out⟩
  case round =>
    obtain ⟨k, hk, rfl, ho, hbl⟩ := hrel
    have HO := hid ho
    have HB := hid hbl
    clear ho hbl
    by_cases h : k < 9
    · have hlen : (L ++ mkT.take k).length ≤ 8796093021961 := by rw [List.length_append, List.length_take]; omega
      have HT := hid (mkT_take k h)
      have HN := hid (note_any k h wr)
      generalize mkT.take k = Tk at *
      have hI : (k : Int) < 9 := by omega
      go_wp2_with fail
      refine Calls.mono HN.out ?_
      rintro e w2 ⟨rfl, hb2⟩
      have HO2 := hid (own_later HO.out hb2)
      have HB2 := hid (HB.out.trans (hb2.mono HB.out.size))
      have hadd := nt_app k
      obtain ⟨W, hW⟩ : ∃ W, w2.alloc (.cells #[.string (mkB k)] 9) = W := ⟨_, rfl⟩
      have RW := hid (show W.heap[w2.heap.size]? = some (.cells #[.string (mkB k)] 9 (0, 0)) by rw [← hW]; exact heap_alloc_new w2 _)
      have BW := hid (show Below w2.heap.size w2 W by rw [← hW]; exact (Below.refl _ _).alloc (Nat.le_refl _) _)
      have HOW := hid (own_later HO2.out BW.out)
      have hsz := hid (show w.heap.size ≤ W.heap.size from Nat.le_trans HB2.out.size BW.out.size)
      have hb16 : ((L ++ Tk).length + 1) * 16 ≤ 140737488355328 := by omega
      have hb63 : (L ++ Tk).length + 1 ≤ maxLen := by unfold maxLen; omega
      clear hb2 HN HO HO2
      go_wp2_with (at_builtin; refine wpList_appX tinfo Tryz.underlying49 rfl (by decide) rfl (.tmp 12) (.tmp 16) rfl w.heap.size _ (L ++ Tk).length (tc (L ++ Tk)) rfl HOW.out _ 1 (tc [mkB k]) rfl rfl (.inr ⟨_, _, rfl, news_blk RW.out⟩) (tc_one _) hb63 hb16 hsz.out ?n2)
      case n2 =>
      intro v3 w3 ho3 hg3 _
      have HO3 := hid (show OT w3 w.heap.size v3 (L ++ Tk ++ [mkB k]) by unfold OT; rw [List.length_append]; simpa [tc] using ho3)
      have HB3 := hid ((HB2.out.trans (BW.out.mono HB2.out.size)).grown hg3 hsz.out (fun k hk => (World.ownsRow.lt HOW.out k hk).1))
      clear ho3 hg3 HOW hadd hW
      go_wp2_with fail
      go_roundw
      case rel => exact ⟨k + 1, by omega, by go_num, by rw [HT.out, ← List.append_assoc]; exact HO3.out, HB3.out⟩
      case measure => simp [intOf]; omega
    · obtain rfl : k = 9 := by omega
      have hm : mkT.take 9 = mkT := rfl
      rw [hm] at HO
      obtain ⟨g, cap', hv, hc1, hLT⟩ := HO.out.lent
      subst hv
      have HLT := hid hLT
      clear hLT HO hm
      go_wp2
      go_ret
      exact ⟨⟨_, rfl, HLT.out⟩, HB.out⟩
set_option maxHeartbeats 1000000 in
theorem keptTexts_any (v p : Value) (L : List ByteArray) (w : World) (hv : LT w v L) (hp : RT w p L) (hl : L.length ≤ 8796093021952) :
    Calls Tryz.prog 31 #[v, p] w fun e w' => e = .returned (.bool true) ∧ Below w.heap.size w w' := by
  obtain ⟨b, cap', rfl, hc1, hc2, hcell⟩ := hv
  have HC := hid hcell
  have HP := hid hp
  obtain ⟨ao, cap, rfl⟩ := hp.form
  have hcI : ((L.length : Int) + 9) ≤ (cap' : Int) := by omega
  have hw9 : IntKind.i64.wrap ((L.length : Int) + 9) = (L.length : Int) + 9 := by rw [IntKind.wrap_i64]; omega
  clear hcell hc2 hp
  go_enter Tryz.func31, Tryz.ntmps31
  go_wp2_with fail
  clear hw9
  go_loopw [6] (fun i wr => ∃ k : Nat, k ≤ L.length + 9 ∧ i = .int .i64 (k : Int) ∧ Below w.heap.size w wr) (fun i _ => L.length + 9 - (intOf i).toNat)
  case atStart => exact ⟨0, by omega, rfl, Below.refl _ _⟩
  case round =>
    obtain ⟨k, hk, rfl, hbl⟩ := hrel
    have hlm : (L ++ mkT).length = L.length + 9 := by rw [List.length_append, mkT_len]
    by_cases hlt : k < L.length + 9
    · have hI9 : (k : Int) < (L.length : Int) + 9 := by omega
      have c0 := below_cells hbl _ _ (HC.out k (by omega))
      by_cases hkl : k < L.length
      · have hI : (k : Int) < (L.length : Int) := by omega
        have hI4 : ¬ L.length ≤ k := by omega
        have hI5 : ¬ (L.length : Int) ≤ (k : Int) := by omega
        rw [List.getElem_append_left hkl] at c0
        obtain ⟨b2, off2, cp2, e2, hcp2, hcell2⟩ := (HP.out.below hbl).at k hkl
        cases e2
        have d0 := hcell2 k hkl
        generalize L[k]'hkl = x at c0 d0
        clear hcell2 hlm
        go_wp2_with fail
        go_quiet (fail)
        have hB1 := below_drewN hbl nq
        clear c0 d0
        go_wp2
        go_roundw
        case rel => exact ⟨k + 1, by omega, by go_num, hB1⟩
        case measure => simp [intOf]; omega
      · have hI : ¬ (k : Int) < (L.length : Int) := by omega
        have hI2 : (L.length : Int) ≤ (k : Int) := by omega
        have hI4 : L.length ≤ k := by omega
        have hI5 : ¬ k < L.length := by omega
        have hx : (L ++ mkT)[k]'(by omega) = mkB (k - L.length) := by
          rw [List.getElem_append_right (by omega)]
          simp [mkT]
        rw [hx] at c0
        obtain ⟨q, hq⟩ : ∃ q : Nat, k = L.length + q := ⟨k - L.length, by omega⟩
        have hq9 : q < 9 := by omega
        have hqk : k - L.length = q := by omega
        rw [hqk] at c0
        have hsub : (k : Int) - (L.length : Int) = (q : Int) := by omega
        have HN := hid (fun wx => note_any q hq9 wx)
        have hadd := nt_app q
        have hns : (ntB q).size ≤ 9223372036854775803 := by show (2 : Nat) ≤ _; omega
        have HK := hid (fun wx (h : Below wr.heap.size wr wx) => below_cells h _ _ c0)
        have s00 : Below wr.heap.size wr wr := Below.refl _ _
        have s0 : Below wr.heap.size wr wr.drew := (Below.refl _ _).drew
        have w1 : IntKind.i64.wrap ((k : Int) - (L.length : Int)) = (q : Int) := by rw [IntKind.wrap_i64]; omega
        have w2 : IntKind.i64.wrap (q : Int) = (q : Int) := by rw [IntKind.wrap_i64]; omega
        have w3 : (0 : Int) ≤ (k : Int) := by omega
        have w4 : (0 : Int) ≤ (q : Int) := by omega
        have d1 : decide ((k : Int) < (L.length : Int)) = false := by simp; omega
        have d2 : decide ((L.length : Int) ≤ (k : Int)) = true := by simp; omega
        have d3 : decide (k < L.length) = false := by simp; omega
        have d4 : decide (L.length ≤ k) = true := by simp; omega
        have HB := hid hbl
        have HQ := hid hq
        clear hx hlm hq hqk hbl c0
        go_wp2_with fail
        have c0d : wr.drew.cell? ⟨b, k, none⟩ = some (.string (mkB q)) := HK.out _ s0
        refine wp_region_any (by kernel_rfl) ?_
        try (change wpAny _ _ _ _ _ _ _ (World.drew _))
        refine wpAny_take (i := 0) (v := (.int .i64 (k : Int))) rfl (by kernel_rfl) (by kernel_rfl) (by kernel_rfl) (fun _ _ _ h => h) (Or.inl ⟨by kernel_rfl, by intro w; go_simp⟩) ?_
        refine wpAny_take (i := 1) (v := (.slice ao L.length cap)) rfl (by kernel_rfl) (by kernel_rfl) (by kernel_rfl) (fun _ _ _ h => h) (Or.inl ⟨by kernel_rfl, by intro w; go_simp⟩) ?_
        refine wpAny_take (i := 2) (v := (.int .i64 (L.length : Int))) rfl (by kernel_rfl) (by kernel_rfl) (by kernel_rfl) (fun _ _ _ h => h) (Or.inl ⟨by kernel_rfl, by intro w; go_simp⟩) ?_
        refine wpAny_take (i := 3) (v := (.bool false)) rfl (by kernel_rfl) (by kernel_rfl) (by kernel_rfl) (fun _ _ _ h => h) (Or.inl ⟨by kernel_rfl, by intro w; go_simp⟩) ?_
        refine wpAny_take (i := 4) (v := (.bool false)) rfl (by kernel_rfl) (by kernel_rfl) (by kernel_rfl) (fun _ _ _ h => h) (Or.inl ⟨by kernel_rfl, by intro w; go_simp⟩) ?_
        refine wpAny_take (i := 5) (v := undef) rfl (by kernel_rfl) (by kernel_rfl) (by kernel_rfl) (fun _ _ _ h => h) (Or.inr ⟨by kernel_rfl, rfl⟩) ?_
        refine wpAny_take (i := 6) (v := undef) rfl (by kernel_rfl) (by kernel_rfl) (by kernel_rfl) (fun _ _ _ h => h) (Or.inr ⟨by kernel_rfl, rfl⟩) ?_
        refine wpAny_take (i := 7) (v := undef) rfl (by kernel_rfl) (by kernel_rfl) (by kernel_rfl) (fun _ _ _ h => h) (Or.inr ⟨by kernel_rfl, rfl⟩) ?_
        refine wpAny_take (i := 8) (v := undef) rfl (by kernel_rfl) (by kernel_rfl) (by kernel_rfl) (fun _ _ _ h => h) (Or.inr ⟨by kernel_rfl, rfl⟩) ?_
        refine wpAny_take (i := 9) (v := undef) rfl (by kernel_rfl) (by kernel_rfl) (by kernel_rfl) (fun _ _ _ h => h) (Or.inr ⟨by kernel_rfl, rfl⟩) ?_
        refine wpAny_take (i := 10) (v := undef) rfl (by kernel_rfl) (by kernel_rfl) (by kernel_rfl) (fun _ _ _ h => h) (Or.inr ⟨by kernel_rfl, rfl⟩) ?_
        refine wpAny_take (i := 11) (v := undef) rfl (by kernel_rfl) (by kernel_rfl) (by kernel_rfl) (fun _ _ _ h => h) (Or.inr ⟨by kernel_rfl, rfl⟩) ?_
        refine wpAny_take (i := 12) (v := undef) rfl (by kernel_rfl) (by kernel_rfl) (by kernel_rfl) (fun _ _ _ h => h) (Or.inr ⟨by kernel_rfl, rfl⟩) ?_
        refine wpAny_take (i := 13) (v := undef) rfl (by kernel_rfl) (by kernel_rfl) (by kernel_rfl) (fun _ _ _ h => h) (Or.inr ⟨by kernel_rfl, rfl⟩) ?_
        refine wpAny_take (i := 14) (v := (.bool false)) rfl (by kernel_rfl) (by kernel_rfl) (by kernel_rfl) (fun _ _ _ h => h) (Or.inl ⟨by kernel_rfl, by intro w; go_simp⟩) ?_
        refine wpAny_take (i := 15) (v := (.bool false)) rfl (by kernel_rfl) (by kernel_rfl) (by kernel_rfl) (fun _ _ _ h => h) (Or.inl ⟨by kernel_rfl, by intro w; go_simp⟩) ?_
        refine wpAny_take (i := 16) (v := (.int .i64 (k : Int))) rfl (by kernel_rfl) (by kernel_rfl) (by kernel_rfl) (fun _ _ _ h => h) (Or.inl ⟨by kernel_rfl, by intro w; go_simp⟩) ?_
        refine wpAny_take (i := 17) (v := (.slice ao L.length cap)) rfl (by kernel_rfl) (by kernel_rfl) (by kernel_rfl) (fun _ _ _ h => h) (Or.inl ⟨by kernel_rfl, by intro w; go_simp⟩) ?_
        refine wpAny_take (i := 18) (v := (.int .i64 (L.length : Int))) rfl (by kernel_rfl) (by kernel_rfl) (by kernel_rfl) (fun _ _ _ h => h) (Or.inl ⟨by kernel_rfl, by intro w; go_simp⟩) ?_
        refine wpAny_take (i := 19) (v := (.bool true)) rfl (by kernel_rfl) (by kernel_rfl) (by kernel_rfl) (fun _ _ _ h => h) (Or.inl ⟨by kernel_rfl, by intro w; go_simp⟩) ?_
        refine wpAny_take (i := 20) (v := (.bool true)) rfl (by kernel_rfl) (by kernel_rfl) (by kernel_rfl) (fun _ _ _ h => h) (Or.inl ⟨by kernel_rfl, by intro w; go_simp⟩) ?_
        refine wpAny_take (i := 21) (v := (.slice (some ⟨b, 0, none⟩) (L.length + 9) cap')) rfl (by kernel_rfl) (by kernel_rfl) (by kernel_rfl) (fun _ _ _ h => h) (Or.inl ⟨by kernel_rfl, by intro w; go_simp⟩) ?_
        refine wpAny_take (i := 22) (v := (.int .i64 (k : Int))) rfl (by kernel_rfl) (by kernel_rfl) (by kernel_rfl) (fun _ _ _ h => h) (Or.inl ⟨by kernel_rfl, by intro w; go_simp⟩) ?_
        refine wpAny_take (i := 23) (v := (.pointer (some ⟨b, k, none⟩))) rfl (by kernel_rfl) (by kernel_rfl) (by kernel_rfl) (fun _ _ _ h => h) (Or.inl ⟨by kernel_rfl, by intro w; go_simp⟩) ?_
        refine wpAny_take (i := 25) (v := (.int .i64 (k : Int))) rfl (by kernel_rfl) (by kernel_rfl) (by kernel_rfl) (fun _ _ _ h => h) (Or.inl ⟨by kernel_rfl, by intro w; go_simp⟩) ?_
        refine wpAny_take (i := 26) (v := (.slice ao L.length cap)) rfl (by kernel_rfl) (by kernel_rfl) (by kernel_rfl) (fun _ _ _ h => h) (Or.inl ⟨by kernel_rfl, by intro w; go_simp⟩) ?_
        refine wpAny_take (i := 27) (v := (.int .i64 (L.length : Int))) rfl (by kernel_rfl) (by kernel_rfl) (by kernel_rfl) (fun _ _ _ h => h) (Or.inl ⟨by kernel_rfl, by intro w; go_simp⟩) ?_
        refine wpAny_take (i := 28) (v := (.int .i64 (q : Int))) rfl (by kernel_rfl) (by kernel_rfl) (by kernel_rfl) (fun _ _ _ h => h) (Or.inl ⟨by kernel_rfl, by intro w; go_simp⟩) ?_
        refine wpAny_ready (rs := [24, 29]) (by kernel_rfl) (by simp) ?_
        refine AllReady.cons rfl (fun K hK => ?_) (AllReady.cons rfl (fun K hK => ?_) AllReady.nil)
        · go_simp
          refine hK _ _ ?_
          clear hK K
          refine wpAny_ready (rs := [29]) (by kernel_rfl) (by simp) ?_
          refine AllReady.cons rfl (fun K hK => ?_) AllReady.nil
          go_simp
          go_wp2_with fail
          refine (HN.out _).mono ?_
          rintro e w5 ⟨rfl, s3⟩
          have s4 := hid (bel_step s0 s3)
          clear s3
          go_wp2_with fail
          refine wpAny_take (i := 30) (v := (.string (mkB q))) rfl (by kernel_rfl) (by kernel_rfl) (by kernel_rfl) (fun _ _ _ h => h) (Or.inl ⟨by kernel_rfl, by intro w; go_simp⟩) ?_
          refine wpAny_take (i := 31) (v := (.bool false)) rfl (by kernel_rfl) (by kernel_rfl) (by kernel_rfl) (fun _ _ _ h => h) (Or.inl ⟨by kernel_rfl, by intro w; go_simp⟩) ?_
          refine wpAny_take (i := 32) (v := (.bool false)) rfl (by kernel_rfl) (by kernel_rfl) (by kernel_rfl) (fun _ _ _ h => h) (Or.inl ⟨by kernel_rfl, by intro w; go_simp⟩) ?_
          refine wpAny_take (i := 33) (v := (.bool false)) rfl (by kernel_rfl) (by kernel_rfl) (by kernel_rfl) (fun _ _ _ h => h) (Or.inl ⟨by kernel_rfl, by intro w; go_simp⟩) ?_
          refine wpAny_done (by kernel_rfl) ?_ _
          have hB5 : Below w.heap.size w w5 := HB.out.trans (s4.out.mono HB.out.size)
          go_wp2
          go_roundw
          case rel => exact ⟨k + 1, by omega, by go_num, hB5⟩
          case measure => simp [intOf]; omega
        · go_simp
          go_wp2_with fail
          refine (HN.out _).mono ?_
          rintro e w5 ⟨rfl, s3⟩
          have s4 := hid (bel_step s0 s3)
          have c5 := HK.out _ s4.out
          clear s3
          go_wp2_with fail
          refine wpAny_take (i := 30) (v := (.string (mkB q))) rfl (by kernel_rfl) (by kernel_rfl) (by kernel_rfl) (fun _ _ _ h => h) (Or.inl ⟨by kernel_rfl, by intro w; go_simp⟩) ?_
          refine wpAny_ready (rs := [24]) (by kernel_rfl) (by simp) ?_
          refine AllReady.cons rfl (fun K hK => ?_) AllReady.nil
          go_simp
          refine hK _ _ ?_
          clear hK K
          refine wpAny_take (i := 31) (v := (.bool false)) rfl (by kernel_rfl) (by kernel_rfl) (by kernel_rfl) (fun _ _ _ h => h) (Or.inl ⟨by kernel_rfl, by intro w; go_simp⟩) ?_
          refine wpAny_take (i := 32) (v := (.bool false)) rfl (by kernel_rfl) (by kernel_rfl) (by kernel_rfl) (fun _ _ _ h => h) (Or.inl ⟨by kernel_rfl, by intro w; go_simp⟩) ?_
          refine wpAny_take (i := 33) (v := (.bool false)) rfl (by kernel_rfl) (by kernel_rfl) (by kernel_rfl) (fun _ _ _ h => h) (Or.inl ⟨by kernel_rfl, by intro w; go_simp⟩) ?_
          refine wpAny_done (by kernel_rfl) ?_ _
          have hB5 : Below w.heap.size w w5 := HB.out.trans (s4.out.mono HB.out.size)
          go_wp2
          go_roundw
          case rel => exact ⟨k + 1, by omega, by go_num, hB5⟩
          case measure => simp [intOf]; omega
    · go_wp2
      go_ret
      exact ⟨rfl, hbl⟩
end Go.Proofs.YtedgdgaobgkffaaGreatDoor
