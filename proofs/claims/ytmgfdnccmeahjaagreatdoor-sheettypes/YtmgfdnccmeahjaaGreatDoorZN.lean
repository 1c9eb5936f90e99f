/-
  Lnt: sheets: lists of texts that are read, lent, kept (out of Nw1, Nw2).
  Lnr: Sheets: rows that are lent, and kept.
  Tc0: Sheets: columns: names, Index, Contains, mayBe.
  Tc1: Sheets: columns: Index, Contains, mayBe; the document's plain.
-/
import Derived.Test.YtmgfdnccmeahjaaGreatDoorZM
import Derived.Deep.RegionLaw
import Derived.Laws.AppendOwnNone
import Derived.Laws.BytesArg
import Derived.Maps.AppendAt
import Derived.Deep.RegionWith
import Derived.Handy
import Derived.Test.YtmgfdnccmeahjaaGreatDoorZJ
import Derived.Test.YtmgfdnccmeahjaaGreatDoorZG
namespace Go.Proofs.YtmgfdnccmeahjaaGreatDoor
open Go.RowKit
set_option maxRecDepth 100000
set_option linter.unusedVariables false
set_option linter.unusedSimpArgs false

theorem below_cells {w w' : World} (hb : Below w.heap.size w w') : ∀ p : Addr, ∀ u, w.cell? p = some u → w'.cell? p = some u :=
  fun p _ h => (hb.cell (p := p) (World.block_lt_of_cell? _ _ h)).trans h
theorem bel_step {a b c : World} (h : Below a.heap.size a b) (h2 : Below b.heap.size b c) : Below a.heap.size a c := h.trans (h2.mono h.size)
/-- a slice reads as texts -/
def RT (w : World) (v : Value) (L : List ByteArray) : Prop :=
  (L = [] ∧ ∃ ao cap, v = .slice ao 0 cap ∧ (ao = none → cap = 0)) ∨
  ∃ b off cap, v = .slice (some ⟨b, off, none⟩) L.length cap ∧ (L.length ≤ cap ∧ cap ≤ 9223372036854775807) ∧ ∀ j (hj : j < L.length), w.cell? ⟨b, off + j, none⟩ = some (.string L[j])
theorem RT.below {w w' : World} {v : Value} {L : List ByteArray} (h : RT w v L) (hb : Below w.heap.size w w') : RT w' v L := by
  rcases h with h | ⟨b, off, cap, hv, hl, hc⟩
  · exact .inl h
  · exact .inr ⟨b, off, cap, hv, hl, fun j hj => below_cells hb _ _ (hc j hj)⟩
theorem RT.form {w : World} {v : Value} {L : List ByteArray} (h : RT w v L) : ∃ ao cap, v = .slice ao L.length cap := by
  rcases h with ⟨rfl, ao, cap, rfl, _⟩ | ⟨b, off, cap, rfl, _⟩
  · exact ⟨_, _, rfl⟩
  · exact ⟨_, _, rfl⟩
theorem RT.at {w : World} {v : Value} {L : List ByteArray} (h : RT w v L) (j : Nat) (hj : j < L.length) : ∃ b off cap, v = .slice (some ⟨b, off, none⟩) L.length cap ∧ L.length ≤ cap ∧ ∀ i (hi : i < L.length), w.cell? ⟨b, off + i, none⟩ = some (.string L[i]) := by
  rcases h with ⟨rfl, _⟩ | ⟨b, off, cap, hv, hl, hc⟩
  · simp at hj
  · exact ⟨b, off, cap, hv, hl.1, hc⟩
theorem RT.len {w : World} {v : Value} {L : List ByteArray} (h : RT w v L) : L.length ≤ 9223372036854775807 := by
  rcases h with ⟨rfl, _⟩ | ⟨b, off, cap, _, hl, _⟩
  · simp
  · omega
def tc (L : List ByteArray) : List Value := L.map Value.string
theorem tc_len (L : List ByteArray) : (tc L).length = L.length * 1 := by simp [tc]
theorem tc_one (L : List ByteArray) : ∀ u ∈ tc L, u.oneCell' = true := by
  intro u hu
  obtain ⟨x, _, rfl⟩ := List.mem_map.1 hu
  rfl
theorem tinfo : (Tryz.prog.info? 9).map (fun i => (i.zero, i.size, i.bytes)) = some (some (.string ⟨#[]⟩), 1, 16) := by kernel_rfl
theorem RT.src {w : World} {v : Value} {L : List ByteArray} (h : RT w v L) : (v = .slice none 0 0 ∧ L.length = 0) ∨ ∃ ad cp, v = .slice (some ad) L.length cp ∧ ∀ j u, (tc L)[j]? = some u → w.cell? (ad.add j) = some u := by
  rcases h with ⟨rfl, ao, cap, rfl, hc⟩ | ⟨b, off, cap, rfl, _, hcell⟩
  · cases ao with
    | none => obtain rfl := hc rfl; exact .inl ⟨rfl, rfl⟩
    | some ad => exact .inr ⟨ad, cap, rfl, fun j u hj => by simp [tc] at hj⟩
  · refine .inr ⟨_, cap, rfl, fun j u hj => ?_⟩
    have hj2 : j < L.length := by have := (List.getElem?_eq_some_iff.1 hj).1; simpa [tc] using this
    have e : (tc L)[j]? = some (.string L[j]) := by simp [tc, hj2]
    rw [e] at hj
    cases hj
    rw [Addr.add_lit]
    exact hcell j hj2
/-- append of what a slice reads as, nil or not -/
theorem wpList_appX {e st : TypeId} {z : Value} {size bytes : Nat} (inf : (Tryz.prog.info? e).map (fun i => (i.zero, i.size, i.bytes)) = some (some z, size, bytes)) (hst : Tryz.prog.underlying st = some (.slice e)) (hzs : z.cells.size = size) (hk0 : 0 < size)
    {w : World} {ops : Array Oper} {rest : List Oper} {o : Oper} {a : Act} {Q : Exit → Act → World → Prop} (hgd : o.guard = none) (s x : Operand)
    (ho : o.op = .call { callee := .builtin .append, args := #[s, x], argTypes := #[st, st] })
    (base : Nat) (v : Value) (n : Nat) (xs : List Value) (hs : a.eval s = v) (hown : w.ownsRow base e size v n xs) (xv : Value) (m : Nat) (news : List Value) (hx : a.eval x = xv) (hl : news.length = m * size)
    (hr : (xv = .slice none 0 0 ∧ m = 0) ∨ ∃ ad cp, xv = .slice (some ad) m cp ∧ ∀ j u, news[j]? = some u → w.cell? (ad.add j) = some u) (h1 : ∀ u ∈ news, u.oneCell' = true)
    (h63 : n + m ≤ maxLen) (hbytes : (n + m) * bytes ≤ 140737488355328) (hbase : base ≤ w.heap.size)
    (h : ∀ v' w', w'.ownsRow base e size v' (n + m) (xs ++ news) → w.grownBy w' v.ownBlock → (v'.ownBlock = v.ownBlock ∨ v'.ownBlock = some w.heap.size) → wpList Tryz.prog ops Q rest (a.put o.dst v') w') : wpList Tryz.prog ops Q (o :: rest) a w := by
  obtain ⟨i, hi, hz, hsz, hby⟩ := info_parts inf
  rcases hr with ⟨hv, rfl⟩ | ⟨ad, cp, hv, hnews⟩
  · have hn : news = [] := List.eq_nil_of_length_eq_zero (by omega)
    subst hn
    refine wpList_append_own_none hgd s x st ho base e i size hst hi v n xs hs hown (hx.trans hv) ?_
    exact h v w (by rw [List.append_nil, Nat.add_zero]; exact hown) ⟨rfl, rfl, rfl, Nat.le_refl _, fun _ _ _ => rfl⟩ (.inl rfl)
  · exact wpList_append_own_at w hgd s x st ho base e i z size bytes hst hi hz hsz hby hzs hk0 v n xs hs hown ad m cp news (hx.trans hv) hl hnews h1 h63 hbytes hbase (fun v' w' a1 a2 _ a4 => h v' w' a1 a2 a4)
theorem own_later {w w' : World} {base : Nat} {e : TypeId} {size : Nat} {v : Value} {n : Nat} {xs : List Value} (h : w.ownsRow base e size v n xs) (hb : Below w.heap.size w w') : w'.ownsRow base e size v n xs :=
  World.ownsRow.kept h (row := none) ⟨hb.os, hb.tape, hb.output, hb.size, fun k hk _ => hb.block k hk⟩ (by cases v.ownBlock <;> simp)
theorem news_blk {w : World} {g : Nat} {cs : Array Value} {t : TypeId} {fr : Nat × Nat} (h : w.heap[g]? = some (.cells cs t fr)) : ∀ j u, cs.toList[j]? = some u → w.cell? ((⟨g, 0, none⟩ : Addr).add j) = some u := fun j u hj => by
  rw [Addr.add_lit, Lib.cell_of_heap h, Nat.zero_add]
  simpa using hj
/-- the i-th note -/
def ntB (k : Nat) : ByteArray := ⟨#[UInt8.ofNat k, 0]⟩
/-- the i-th mark -/
def mkB (k : Nat) : ByteArray := ⟨#[UInt8.ofNat k, 0, 108, 101, 110, 116]⟩
def mkT : List ByteArray := (List.range 9).map mkB
theorem mkT_len : mkT.length = 9 := by simp [mkT]
theorem mkT_take (k : Nat) (h : k < 9) : mkT.take (k + 1) = mkT.take k ++ [mkB k] := by
  rw [List.take_succ_eq_append_getElem (by rw [mkT_len]; exact h)]
  simp [mkT]
theorem nt_app (k : Nat) : ntB k ++ ⟨#[108, 101, 110, 116]⟩ = mkB k := by
  apply ByteArray.ext
  simp [ntB, mkB]
set_option maxHeartbeats 2000000 in
theorem note_any (k : Nat) (hk : k < 9) (w : World) : Calls Tryz.prog 73 #[.int .i64 (k : Int)] w fun e w' => e = .returned (.string (ntB k)) ∧ Below w.heap.size w w' := by
  have h1 : (k : Int).tmod 251 = (k : Int) := by rw [Int.tmod_eq_emod_of_nonneg (by omega)]; omega
  have h2 : (k : Int).tdiv 251 = 0 := by rw [Int.tdiv_eq_ediv_of_nonneg (by omega)]; omega
  have h3 : IntKind.u8.wrap (k : Int) = (k : Int) := by rw [IntKind.wrap_u8]; omega
  have q1 : ∀ W : World, W = w.alloc (.cells #[.int .u8 (k : Int), .int .u8 0] 5) → (convert 92 9 (.slice (some ⟨w.heap.size, 0, none⟩) 2 2)).run Tryz.prog W = .ok (.string (ntB k)) W := fun W hW => by
    have := run_convert_bytes_arg (P := Tryz.prog) W 92 5 Tryz.underlying92 Tryz.underlying5 w.heap.size 0 2 2 [(k : Int), 0] rfl (fun i hi => by
      subst hW
      match i, hi with
      | 0, _ => simp
      | 1, _ => simp)
    refine (this 9 Tryz.underlying9).trans ?_
    simp [strOfNums, ntB]
  have q2 := q1 _ rfl
  clear q1
  go_enter Tryz.func73, Tryz.ntmps73
  go_wp2_with fail
  go_ret
  exact ⟨rfl, (Below.refl _ _).alloc (Nat.le_refl _) _⟩
/-- lent texts: the marks lie behind them -/
def LT (w : World) (v : Value) (L : List ByteArray) : Prop :=
  ∃ b cap, v = .slice (some ⟨b, 0, none⟩) L.length cap ∧ L.length + 9 ≤ cap ∧ cap ≤ 9223372036854775807 ∧ ∀ j (hj : j < (L ++ mkT).length), w.cell? ⟨b, j, none⟩ = some (.string (L ++ mkT)[j])
theorem LT.below {w w' : World} {v : Value} {L : List ByteArray} (h : LT w v L) (hb : Below w.heap.size w w') : LT w' v L := by
  obtain ⟨b, cap, hv, h1, h2, hc⟩ := h
  exact ⟨b, cap, hv, h1, h2, fun j hj => below_cells hb _ _ (hc j hj)⟩
theorem LT.reads {w : World} {v : Value} {L : List ByteArray} (h : LT w v L) : RT w v L := by
  obtain ⟨b, cap, rfl, h1, h2, hc⟩ := h
  refine .inr ⟨b, 0, cap, rfl, ⟨by omega, h2⟩, fun j hj => ?_⟩
  have := hc j (by simp; omega)
  rw [List.getElem_append_left hj] at this
  rw [Nat.zero_add]
  exact this
def OT (w : World) (base : Nat) (v : Value) (L : List ByteArray) : Prop := w.ownsRow base 9 1 v L.length (tc L)
theorem OT.lent {w : World} {base : Nat} {v : Value} {L : List ByteArray} (h : OT w base v (L ++ mkT)) : ∃ g cap, v = .slice (some ⟨g, 0, none⟩) (L.length + 9) cap ∧ L.length + 9 ≤ cap ∧ LT w (.slice (some ⟨g, 0, none⟩) L.length cap) L := by
  have hl : (L ++ mkT).length = L.length + 9 := by rw [List.length_append, mkT_len]
  have hc := fun g hg => World.ownsRow.cells h (g := g) hg
  rcases h.2 with ⟨_, h0⟩ | ⟨g, cap, cur, rfl, _, hgg, hn, hm, _⟩
  · omega
  have hm2 : cap ≤ 9223372036854775807 := hm
  refine ⟨g, cap, by rw [hl], by omega, g, cap, rfl, by omega, hm2, fun j hj => ?_⟩
  have := hc g rfl j (.string (L ++ mkT)[j]) (by unfold tc; rw [List.getElem?_map, List.getElem?_eq_getElem hj]; rfl)
  rw [Addr.add_lit, Nat.zero_add] at this
  exact this
set_option maxHeartbeats 2000000 in
theorem lentTexts_any (v : Value) (L : List ByteArray) (w : World) (hr : RT w v L) (hl : L.length ≤ 8796093021952) :
    Calls Tryz.prog 72 #[v] w fun e w' => (∃ v', e = .returned v' ∧ LT w' v' L) ∧ Below w.heap.size w w' := by
  have HR := hid hr
  obtain ⟨ao, cap, rfl⟩ := hr.form
  clear hr
  go_enter Tryz.func72, Tryz.ntmps72
  go_wp2_with (at_builtin; refine wpList_appX tinfo Tryz.underlying32 rfl (by decide) rfl (.tmp 5) (.tmp 6) rfl w.heap.size _ 0 [] rfl (World.ownsRow_nil _ _ _ _) _ L.length (tc L) rfl (tc_len _) HR.out.src (tc_one _) (by unfold maxLen; omega) (by omega) (Nat.le_refl _) ?n1)
  case n1 =>
  intro v1 w1 ho1 hg1 _
  have HO1 := hid (show OT w1 w.heap.size v1 L by simpa [OT] using ho1)
  have HB1 := hid ((Below.refl w.heap.size w).grown hg1 (Nat.le_refl _) (by intro k hk; cases hk))
  clear ho1 hg1
  go_wp2_with fail
  go_loopw [3, 4] (fun v i wr => ∃ k : Nat, k ≤ 9 ∧ i = .int .i64 k ∧ OT wr w.heap.size v (L ++ mkT.take k) ∧ Below w.heap.size w wr) (fun _ i _ => 9 - (intOf i).toNat)
  case atStart => exact ⟨0, by omega, rfl, by simpa using HO1.out, HB1.out⟩
  case round =>
    obtain ⟨k, hk, rfl, ho, hbl⟩ := hrel
    have HO := hid ho
    have HB := hid hbl
    clear ho hbl
    by_cases h : k < 9
    · have hlen : (L ++ mkT.take k).length ≤ 8796093021961 := by rw [List.length_append, List.length_take]; omega
      have HT := hid (mkT_take k h)
      have HN := hid (note_any k h wr)
      generalize mkT.take k = Tk at *
      have hI : (k : Int) < 9 := by omega
      go_wp2_with fail
      refine Calls.mono HN.out ?_
      rintro e w2 ⟨rfl, hb2⟩
      have HO2 := hid (own_later HO.out hb2)
      have HB2 := hid (HB.out.trans (hb2.mono HB.out.size))
      have hadd := nt_app k
      obtain ⟨W, hW⟩ : ∃ W, w2.alloc (.cells #[.string (mkB k)] 9) = W := ⟨_, rfl⟩
      have RW := hid (show W.heap[w2.heap.size]? = some (.cells #[.string (mkB k)] 9 (0, 0)) by rw [← hW]; exact heap_alloc_new w2 _)
      have BW := hid (show Below w2.heap.size w2 W by rw [← hW]; exact (Below.refl _ _).alloc (Nat.le_refl _) _)
      have HOW := hid (own_later HO2.out BW.out)
      have hsz := hid (show w.heap.size ≤ W.heap.size from Nat.le_trans HB2.out.size BW.out.size)
      have hb16 : ((L ++ Tk).length + 1) * 16 ≤ 140737488355328 := by omega
      have hb63 : (L ++ Tk).length + 1 ≤ maxLen := by unfold maxLen; omega
      clear hb2 HN HO HO2
      go_wp2_with (at_builtin; refine wpList_appX tinfo Tryz.underlying32 rfl (by decide) rfl (.tmp 12) (.tmp 16) rfl w.heap.size _ (L ++ Tk).length (tc (L ++ Tk)) rfl HOW.out _ 1 (tc [mkB k]) rfl rfl (.inr ⟨_, _, rfl, news_blk RW.out⟩) (tc_one _) hb63 hb16 hsz.out ?n2)
      case n2 =>
      intro v3 w3 ho3 hg3 _
      have HO3 := hid (show OT w3 w.heap.size v3 (L ++ Tk ++ [mkB k]) by unfold OT; rw [List.length_append]; simpa [tc] using ho3)
      have HB3 := hid ((HB2.out.trans (BW.out.mono HB2.out.size)).grown hg3 hsz.out (fun k hk => (World.ownsRow.lt HOW.out k hk).1))
      clear ho3 hg3 HOW hadd hW
      go_wp2_with fail
      go_roundw
      case rel => exact ⟨k + 1, by omega, by go_num, by rw [HT.out, ← List.append_assoc]; exact HO3.out, HB3.out⟩
      case measure => simp [intOf]; omega
    · obtain rfl : k = 9 := by omega
      have hm : mkT.take 9 = mkT := rfl
      rw [hm] at HO
      obtain ⟨g, cap', hv, hc1, hLT⟩ := HO.out.lent
      subst hv
      have HLT := hid hLT
      clear hLT HO hm
      go_wp2
      go_ret
      exact ⟨⟨_, rfl, HLT.out⟩, HB.out⟩
set_option maxHeartbeats 1000000 in
theorem keptTexts_any (v p : Value) (L : List ByteArray) (w : World) (hv : LT w v L) (hp : RT w p L) (hl : L.length ≤ 8796093021952) :
    Calls Tryz.prog 76 #[v, p] w fun e w' => e = .returned (.bool true) ∧ Below w.heap.size w w' := by
  obtain ⟨b, cap', rfl, hc1, hc2, hcell⟩ := hv
  have HC := hid hcell
  have HP := hid hp
  obtain ⟨ao, cap, rfl⟩ := hp.form
  have hcI : ((L.length : Int) + 9) ≤ (cap' : Int) := by omega
  have hw9 : IntKind.i64.wrap ((L.length : Int) + 9) = (L.length : Int) + 9 := by rw [IntKind.wrap_i64]; omega
  clear hcell hc2 hp
  go_enter Tryz.func76, Tryz.ntmps76
  go_wp2_with fail
  clear hw9
  go_loopw [6] (fun i wr => ∃ k : Nat, k ≤ L.length + 9 ∧ i = .int .i64 (k : Int) ∧ Below w.heap.size w wr) (fun i _ => L.length + 9 - (intOf i).toNat)
  case atStart => exact ⟨0, by omega, rfl, Below.refl _ _⟩
  case round =>
    obtain ⟨k, hk, rfl, hbl⟩ := hrel
    have hlm : (L ++ mkT).length = L.length + 9 := by rw [List.length_append, mkT_len]
    by_cases hlt : k < L.length + 9
    · have hI9 : (k : Int) < (L.length : Int) + 9 := by omega
      have c0 := below_cells hbl _ _ (HC.out k (by omega))
      by_cases hkl : k < L.length
      · have hI : (k : Int) < (L.length : Int) := by omega
        have hI4 : ¬ L.length ≤ k := by omega
        have hI5 : ¬ (L.length : Int) ≤ (k : Int) := by omega
        rw [List.getElem_append_left hkl] at c0
        obtain ⟨b2, off2, cp2, e2, hcp2, hcell2⟩ := (HP.out.below hbl).at k hkl
        cases e2
        have d0 := hcell2 k hkl
        generalize L[k]'hkl = x at c0 d0
        clear hcell2 hlm
        go_wp2_with fail
        go_quiet (fail)
        have hB1 := below_drewN hbl nq
        clear c0 d0
        go_wp2
        go_roundw
        case rel => exact ⟨k + 1, by omega, by go_num, hB1⟩
        case measure => simp [intOf]; omega
      · have hI : ¬ (k : Int) < (L.length : Int) := by omega
        have hI2 : (L.length : Int) ≤ (k : Int) := by omega
        have hI4 : L.length ≤ k := by omega
        have hI5 : ¬ k < L.length := by omega
        have hx : (L ++ mkT)[k]'(by omega) = mkB (k - L.length) := by
          rw [List.getElem_append_right (by omega)]
          simp [mkT]
        rw [hx] at c0
        obtain ⟨q, hq⟩ : ∃ q : Nat, k = L.length + q := ⟨k - L.length, by omega⟩
        have hq9 : q < 9 := by omega
        have hqk : k - L.length = q := by omega
        rw [hqk] at c0
        have hsub : (k : Int) - (L.length : Int) = (q : Int) := by omega
        have HN := hid (fun wx => note_any q hq9 wx)
        have hadd := nt_app q
        have hns : (ntB q).size ≤ 9223372036854775803 := by show (2 : Nat) ≤ _; omega
        have HK := hid (fun wx (h : Below wr.heap.size wr wx) => below_cells h _ _ c0)
        have s00 : Below wr.heap.size wr wr := Below.refl _ _
        have s0 : Below wr.heap.size wr wr.drew := (Below.refl _ _).drew
        have w1 : IntKind.i64.wrap ((k : Int) - (L.length : Int)) = (q : Int) := by rw [IntKind.wrap_i64]; omega
        have w2 : IntKind.i64.wrap (q : Int) = (q : Int) := by rw [IntKind.wrap_i64]; omega
        have w3 : (0 : Int) ≤ (k : Int) := by omega
        have w4 : (0 : Int) ≤ (q : Int) := by omega
        have d1 : decide ((k : Int) < (L.length : Int)) = false := by simp; omega
        have d2 : decide ((L.length : Int) ≤ (k : Int)) = true := by simp; omega
        have d3 : decide (k < L.length) = false := by simp; omega
        have d4 : decide (L.length ≤ k) = true := by simp; omega
        have HB := hid hbl
        have HQ := hid hq
        clear hx hlm hq hqk hbl c0
        go_wp2_with fail
        have c0d : wr.drew.cell? ⟨b, k, none⟩ = some (.string (mkB q)) := HK.out _ s0
        refine wp_region_any (by kernel_rfl) ?_
        try (change wpAny _ _ _ _ _ _ _ (World.drew _))
        refine wpAny_take (i := 0) (v := (.int .i64 (k : Int))) rfl (by kernel_rfl) (by kernel_rfl) (by kernel_rfl) (fun _ _ _ h => h) (Or.inl ⟨by kernel_rfl, by intro w; go_simp⟩) ?_
        refine wpAny_take (i := 1) (v := (.slice ao L.length cap)) rfl (by kernel_rfl) (by kernel_rfl) (by kernel_rfl) (fun _ _ _ h => h) (Or.inl ⟨by kernel_rfl, by intro w; go_simp⟩) ?_
        refine wpAny_take (i := 2) (v := (.int .i64 (L.length : Int))) rfl (by kernel_rfl) (by kernel_rfl) (by kernel_rfl) (fun _ _ _ h => h) (Or.inl ⟨by kernel_rfl, by intro w; go_simp⟩) ?_
        refine wpAny_take (i := 3) (v := (.bool false)) rfl (by kernel_rfl) (by kernel_rfl) (by kernel_rfl) (fun _ _ _ h => h) (Or.inl ⟨by kernel_rfl, by intro w; go_simp⟩) ?_
        refine wpAny_take (i := 4) (v := (.bool false)) rfl (by kernel_rfl) (by kernel_rfl) (by kernel_rfl) (fun _ _ _ h => h) (Or.inl ⟨by kernel_rfl, by intro w; go_simp⟩) ?_
        refine wpAny_take (i := 5) (v := undef) rfl (by kernel_rfl) (by kernel_rfl) (by kernel_rfl) (fun _ _ _ h => h) (Or.inr ⟨by kernel_rfl, rfl⟩) ?_
        refine wpAny_take (i := 6) (v := undef) rfl (by kernel_rfl) (by kernel_rfl) (by kernel_rfl) (fun _ _ _ h => h) (Or.inr ⟨by kernel_rfl, rfl⟩) ?_
        refine wpAny_take (i := 7) (v := undef) rfl (by kernel_rfl) (by kernel_rfl) (by kernel_rfl) (fun _ _ _ h => h) (Or.inr ⟨by kernel_rfl, rfl⟩) ?_
        refine wpAny_take (i := 8) (v := undef) rfl (by kernel_rfl) (by kernel_rfl) (by kernel_rfl) (fun _ _ _ h => h) (Or.inr ⟨by kernel_rfl, rfl⟩) ?_
        refine wpAny_take (i := 9) (v := undef) rfl (by kernel_rfl) (by kernel_rfl) (by kernel_rfl) (fun _ _ _ h => h) (Or.inr ⟨by kernel_rfl, rfl⟩) ?_
        refine wpAny_take (i := 10) (v := undef) rfl (by kernel_rfl) (by kernel_rfl) (by kernel_rfl) (fun _ _ _ h => h) (Or.inr ⟨by kernel_rfl, rfl⟩) ?_
        refine wpAny_take (i := 11) (v := undef) rfl (by kernel_rfl) (by kernel_rfl) (by kernel_rfl) (fun _ _ _ h => h) (Or.inr ⟨by kernel_rfl, rfl⟩) ?_
        refine wpAny_take (i := 12) (v := undef) rfl (by kernel_rfl) (by kernel_rfl) (by kernel_rfl) (fun _ _ _ h => h) (Or.inr ⟨by kernel_rfl, rfl⟩) ?_
        refine wpAny_take (i := 13) (v := undef) rfl (by kernel_rfl) (by kernel_rfl) (by kernel_rfl) (fun _ _ _ h => h) (Or.inr ⟨by kernel_rfl, rfl⟩) ?_
        refine wpAny_take (i := 14) (v := (.bool false)) rfl (by kernel_rfl) (by kernel_rfl) (by kernel_rfl) (fun _ _ _ h => h) (Or.inl ⟨by kernel_rfl, by intro w; go_simp⟩) ?_
        refine wpAny_take (i := 15) (v := (.bool false)) rfl (by kernel_rfl) (by kernel_rfl) (by kernel_rfl) (fun _ _ _ h => h) (Or.inl ⟨by kernel_rfl, by intro w; go_simp⟩) ?_
        refine wpAny_take (i := 16) (v := (.int .i64 (k : Int))) rfl (by kernel_rfl) (by kernel_rfl) (by kernel_rfl) (fun _ _ _ h => h) (Or.inl ⟨by kernel_rfl, by intro w; go_simp⟩) ?_
        refine wpAny_take (i := 17) (v := (.slice ao L.length cap)) rfl (by kernel_rfl) (by kernel_rfl) (by kernel_rfl) (fun _ _ _ h => h) (Or.inl ⟨by kernel_rfl, by intro w; go_simp⟩) ?_
        refine wpAny_take (i := 18) (v := (.int .i64 (L.length : Int))) rfl (by kernel_rfl) (by kernel_rfl) (by kernel_rfl) (fun _ _ _ h => h) (Or.inl ⟨by kernel_rfl, by intro w; go_simp⟩) ?_
        refine wpAny_take (i := 19) (v := (.bool true)) rfl (by kernel_rfl) (by kernel_rfl) (by kernel_rfl) (fun _ _ _ h => h) (Or.inl ⟨by kernel_rfl, by intro w; go_simp⟩) ?_
        refine wpAny_take (i := 20) (v := (.bool true)) rfl (by kernel_rfl) (by kernel_rfl) (by kernel_rfl) (fun _ _ _ h => h) (Or.inl ⟨by kernel_rfl, by intro w; go_simp⟩) ?_
        refine wpAny_take (i := 21) (v := (.slice (some ⟨b, 0, none⟩) (L.length + 9) cap')) rfl (by kernel_rfl) (by kernel_rfl) (by kernel_rfl) (fun _ _ _ h => h) (Or.inl ⟨by kernel_rfl, by intro w; go_simp⟩) ?_
        refine wpAny_take (i := 22) (v := (.int .i64 (k : Int))) rfl (by kernel_rfl) (by kernel_rfl) (by kernel_rfl) (fun _ _ _ h => h) (Or.inl ⟨by kernel_rfl, by intro w; go_simp⟩) ?_
        refine wpAny_take (i := 23) (v := (.pointer (some ⟨b, k, none⟩))) rfl (by kernel_rfl) (by kernel_rfl) (by kernel_rfl) (fun _ _ _ h => h) (Or.inl ⟨by kernel_rfl, by intro w; go_simp⟩) ?_
        refine wpAny_take (i := 25) (v := (.int .i64 (k : Int))) rfl (by kernel_rfl) (by kernel_rfl) (by kernel_rfl) (fun _ _ _ h => h) (Or.inl ⟨by kernel_rfl, by intro w; go_simp⟩) ?_
        refine wpAny_take (i := 26) (v := (.slice ao L.length cap)) rfl (by kernel_rfl) (by kernel_rfl) (by kernel_rfl) (fun _ _ _ h => h) (Or.inl ⟨by kernel_rfl, by intro w; go_simp⟩) ?_
        refine wpAny_take (i := 27) (v := (.int .i64 (L.length : Int))) rfl (by kernel_rfl) (by kernel_rfl) (by kernel_rfl) (fun _ _ _ h => h) (Or.inl ⟨by kernel_rfl, by intro w; go_simp⟩) ?_
        refine wpAny_take (i := 28) (v := (.int .i64 (q : Int))) rfl (by kernel_rfl) (by kernel_rfl) (by kernel_rfl) (fun _ _ _ h => h) (Or.inl ⟨by kernel_rfl, by intro w; go_simp⟩) ?_
        refine wpAny_ready (rs := [24, 29]) (by kernel_rfl) (by simp) ?_
        refine AllReady.cons rfl (fun K hK => ?_) (AllReady.cons rfl (fun K hK => ?_) AllReady.nil)
        · go_simp
          refine hK _ _ ?_
          clear hK K
          refine wpAny_ready (rs := [29]) (by kernel_rfl) (by simp) ?_
          refine AllReady.cons rfl (fun K hK => ?_) AllReady.nil
          go_simp
          go_wp2_with fail
          refine (HN.out _).mono ?_
          rintro e w5 ⟨rfl, s3⟩
          have s4 := hid (bel_step s0 s3)
          clear s3
          go_wp2_with fail
          refine wpAny_take (i := 30) (v := (.string (mkB q))) rfl (by kernel_rfl) (by kernel_rfl) (by kernel_rfl) (fun _ _ _ h => h) (Or.inl ⟨by kernel_rfl, by intro w; go_simp⟩) ?_
          refine wpAny_take (i := 31) (v := (.bool false)) rfl (by kernel_rfl) (by kernel_rfl) (by kernel_rfl) (fun _ _ _ h => h) (Or.inl ⟨by kernel_rfl, by intro w; go_simp⟩) ?_
          refine wpAny_take (i := 32) (v := (.bool false)) rfl (by kernel_rfl) (by kernel_rfl) (by kernel_rfl) (fun _ _ _ h => h) (Or.inl ⟨by kernel_rfl, by intro w; go_simp⟩) ?_
          refine wpAny_take (i := 33) (v := (.bool false)) rfl (by kernel_rfl) (by kernel_rfl) (by kernel_rfl) (fun _ _ _ h => h) (Or.inl ⟨by kernel_rfl, by intro w; go_simp⟩) ?_
          refine wpAny_done (by kernel_rfl) ?_ _
          have hB5 : Below w.heap.size w w5 := HB.out.trans (s4.out.mono HB.out.size)
          go_wp2
          go_roundw
          case rel => exact ⟨k + 1, by omega, by go_num, hB5⟩
          case measure => simp [intOf]; omega
        · go_simp
          go_wp2_with fail
          refine (HN.out _).mono ?_
          rintro e w5 ⟨rfl, s3⟩
          have s4 := hid (bel_step s0 s3)
          have c5 := HK.out _ s4.out
          clear s3
          go_wp2_with fail
          refine wpAny_take (i := 30) (v := (.string (mkB q))) rfl (by kernel_rfl) (by kernel_rfl) (by kernel_rfl) (fun _ _ _ h => h) (Or.inl ⟨by kernel_rfl, by intro w; go_simp⟩) ?_
          refine wpAny_ready (rs := [24]) (by kernel_rfl) (by simp) ?_
          refine AllReady.cons rfl (fun K hK => ?_) AllReady.nil
          go_simp
          refine hK _ _ ?_
          clear hK K
          refine wpAny_take (i := 31) (v := (.bool false)) rfl (by kernel_rfl) (by kernel_rfl) (by kernel_rfl) (fun _ _ _ h => h) (Or.inl ⟨by kernel_rfl, by intro w; go_simp⟩) ?_
          refine wpAny_take (i := 32) (v := (.bool false)) rfl (by kernel_rfl) (by kernel_rfl) (by kernel_rfl) (fun _ _ _ h => h) (Or.inl ⟨by kernel_rfl, by intro w; go_simp⟩) ?_
          refine wpAny_take (i := 33) (v := (.bool false)) rfl (by kernel_rfl) (by kernel_rfl) (by kernel_rfl) (fun _ _ _ h => h) (Or.inl ⟨by kernel_rfl, by intro w; go_simp⟩) ?_
          refine wpAny_done (by kernel_rfl) ?_ _
          have hB5 : Below w.heap.size w w5 := HB.out.trans (s4.out.mono HB.out.size)
          go_wp2
          go_roundw
          case rel => exact ⟨k + 1, by omega, by go_num, hB5⟩
          case measure => simp [intOf]; omega
    · go_wp2
      go_ret
      exact ⟨rfl, hbl⟩
end Go.Proofs.YtmgfdnccmeahjaaGreatDoor

namespace Go.Proofs.YtmgfdnccmeahjaaGreatDoor
open Go.RowKit
set_option maxRecDepth 100000
set_option linter.unusedVariables false
set_option linter.unusedSimpArgs false

/-- a row's texts -/
def tb (T : List (List UInt8)) : List ByteArray := T.map fun l => ⟨l.toArray⟩
theorem tb_len (T : List (List UInt8)) : (tb T).length = T.length := by simp [tb]
/-- rows that came in: each row's slice reads as its texts -/
def Rz (w : World) (v : Value) (R : List (List (List UInt8))) : Prop := ∃ ao cap, v = .slice ao R.length cap ∧ R.length ≤ cap ∧ cap ≤ 9223372036854775807 ∧ ∀ i (hi : i < R.length), ∃ g off u, ao = some ⟨g, off, none⟩ ∧ w.cell? ⟨g, off + i, none⟩ = some u ∧ RT w u (tb R[i])
theorem Rz.below {w w' : World} {v : Value} {R : List (List (List UInt8))} (h : Rz w v R) (hb : Below w.heap.size w w') : Rz w' v R := by
  obtain ⟨ao, cap, h1, h2, h3, h4⟩ := h
  refine ⟨ao, cap, h1, h2, h3, fun i hi => ?_⟩
  obtain ⟨g, off, u, a1, a2, a3⟩ := h4 i hi
  exact ⟨g, off, u, a1, below_cells hb _ _ a2, a3.below hb⟩
theorem Rz.form {w : World} {v : Value} {R : List (List (List UInt8))} (h : Rz w v R) : ∃ ao cap, v = .slice ao R.length cap := by
  obtain ⟨ao, cap, h1, _⟩ := h
  exact ⟨ao, cap, h1⟩
theorem Rz.at {w : World} {ao : Option Addr} {n cap : Nat} {R : List (List (List UInt8))} (h : Rz w (.slice ao n cap) R) (i : Nat) (hi : i < R.length) : ∃ g off u, ao = some ⟨g, off, none⟩ ∧ R.length ≤ cap ∧ w.cell? ⟨g, off + i, none⟩ = some u ∧ RT w u (tb R[i]) := by
  obtain ⟨ao', cap', e, h2, h3, h4⟩ := h
  injection e with e1 _ e3
  subst e1 e3
  obtain ⟨g, off, u, a1, a2, a3⟩ := h4 i hi
  exact ⟨g, off, u, a1, h2, a2, a3⟩
theorem LT.tx {w : World} {v : Value} {T : List (List UInt8)} (h : LT w v (tb T)) : Tx w v T := by
  obtain ⟨b, cap, rfl, h1, h2, hc⟩ := h
  rw [tb_len] at h1
  refine ⟨_, cap, by rw [tb_len], by omega, h2, fun j hj => ⟨b, 0, rfl, ?_⟩⟩
  have := hc j (by rw [List.length_append, tb_len]; omega)
  rw [List.getElem_append_left (by rw [tb_len]; exact hj)] at this
  rw [Nat.zero_add]
  simpa [tb] using this
/-- a block whose first cell is a slice turns: lent texts stay -/
theorem LT.keep {w w' : World} {v : Value} {L : List ByteArray} {o : Option Nat} (h : LT w v L) (hg : w.grownBy w' o) (hs : ∀ g, o = some g → ∃ a n c, w.cell? ⟨g, 0, none⟩ = some (.slice a n c)) : LT w' v L := by
  obtain ⟨b, cap, rfl, h1, h2, hc⟩ := h
  refine ⟨b, cap, rfl, h1, h2, fun j hj => ?_⟩
  have h0 := hc 0 (by rw [List.length_append, mkT_len]; omega)
  have hne : some b ≠ o := by
    intro e
    obtain ⟨a, n, c, hh⟩ := hs b e.symm
    rw [h0] at hh
    cases hh
  have hk := hg.block b (World.block_lt_of_cell? _ _ h0) hne
  have := hc j hj
  simpa only [World.cell?, hk] using this
/-- a row with a note alone -/
def MK (w : World) (u : Value) (k : Nat) : Prop := ∃ b cap, u = .slice (some ⟨b, 0, none⟩) 1 cap ∧ 1 ≤ cap ∧ w.cell? ⟨b, 0, none⟩ = some (.string (ntB k))
theorem MK.below {w w' : World} {u : Value} {k : Nat} (h : MK w u k) (hb : Below w.heap.size w w') : MK w' u k := by
  obtain ⟨b, cap, h1, h2, h3⟩ := h
  exact ⟨b, cap, h1, h2, below_cells hb _ _ h3⟩
theorem MK.keep {w w' : World} {u : Value} {k : Nat} {o : Option Nat} (h : MK w u k) (hg : w.grownBy w' o) (hs : ∀ g, o = some g → ∃ a n c, w.cell? ⟨g, 0, none⟩ = some (.slice a n c)) : MK w' u k := by
  obtain ⟨b, cap, h1, h2, h0⟩ := h
  refine ⟨b, cap, h1, h2, ?_⟩
  have hne : some b ≠ o := by
    intro e
    obtain ⟨a, n, c, hh⟩ := hs b e.symm
    rw [h0] at hh
    cases hh
  have hk := hg.block b (World.block_lt_of_cell? _ _ h0) hne
  simpa only [World.cell?, hk] using h0
/-- rows being lent: the lent ones, then so many notes -/
structure LG (w : World) (B : Nat) (v : Value) (V : List Value) (R : List (List (List UInt8))) (i k : Nat) : Prop where
  own : w.ownsRow B 32 1 v V.length V
  len : V.length = i + k
  le : i ≤ R.length
  row : ∀ j (h1 : j < i) (h2 : j < V.length) (h3 : j < R.length), LT w V[j] (tb R[j])
  nts : ∀ j (h1 : j < k) (h2 : i + j < V.length), MK w V[i + j] j
  nl : V = [] → v.ownBlock = none
theorem LG.sl {w : World} {B : Nat} {v : Value} {V : List Value} {R : List (List (List UInt8))} {i k : Nat} (h : LG w B v V R i k) : ∀ u ∈ V, ∃ a n c, u = .slice a n c := by
  intro u hu
  obtain ⟨j, hj, rfl⟩ := List.mem_iff_getElem.1 hu
  have hl := h.len
  by_cases hji : j < i
  · obtain ⟨b, cap, e, _⟩ := h.row j hji hj (by have := h.le; omega)
    exact ⟨_, _, _, e⟩
  · obtain ⟨b, cap, e, _⟩ := h.nts (j - i) (by omega) (by omega)
    have : i + (j - i) = j := by omega
    simp only [this] at e
    exact ⟨_, _, _, e⟩
theorem LG.top {w : World} {B : Nat} {v : Value} {V : List Value} {R : List (List (List UInt8))} {i k : Nat} (h : LG w B v V R i k) : ∀ g, v.ownBlock = some g → V ≠ [] → ∃ a n c, w.cell? ⟨g, 0, none⟩ = some (.slice a n c) := by
  intro g hg hne
  have hc := World.ownsRow.cells h.own (g := g) hg
  have hp : 0 < V.length := List.length_pos_iff.2 hne
  obtain ⟨a, n, c, e⟩ := h.sl V[0] (List.getElem_mem hp)
  have := hc 0 V[0] (by simp)
  rw [Addr.add_lit, e] at this
  exact ⟨a, n, c, this⟩
theorem LG.big {w w' : World} {B : Nat} {v : Value} {V : List Value} {R : List (List (List UInt8))} {i k : Nat} (h : LG w B v V R i k) (hb : Below w.heap.size w w') : LG w' B v V R i k :=
  ⟨own_of h.own fun g hg => hb.block g (World.ownsRow.lt h.own g hg).2, h.len, h.le, fun j a b c => (h.row j a b c).below hb, fun j a b => (h.nts j a b).below hb, h.nl⟩
/-- an append to it: what lies elsewhere stays -/
theorem LG.away {w w' : World} {B : Nat} {v : Value} {V : List Value} {R : List (List (List UInt8))} {i k : Nat} (h : LG w B v V R i k) (hg : w.grownBy w' v.ownBlock) : (∀ j (h1 : j < i) (h2 : j < V.length) (h3 : j < R.length), LT w' V[j] (tb R[j])) ∧ (∀ j (h1 : j < k) (h2 : i + j < V.length), MK w' V[i + j] j) := by
  have hs : V ≠ [] → ∀ g, v.ownBlock = some g → ∃ a n c, w.cell? ⟨g, 0, none⟩ = some (.slice a n c) := fun hne g hgg => h.top g hgg hne
  exact ⟨fun j a b c => (h.row j a b c).keep hg (hs (List.ne_nil_of_length_pos (by omega))), fun j a b => (h.nts j a b).keep hg (hs (List.ne_nil_of_length_pos (by omega)))⟩
theorem LG.hs {w : World} {B : Nat} {v : Value} {V : List Value} {R : List (List (List UInt8))} {i k : Nat} (h : LG w B v V R i k) : ∀ g, v.ownBlock = some g → ∃ a n c, w.cell? ⟨g, 0, none⟩ = some (.slice a n c) := by
  intro g hg
  by_cases hV : V = []
  · rw [h.nl hV] at hg; cases hg
  · exact h.top g hg hV
theorem LG.row1 {w w2 : World} {B : Nat} {v v2 x : Value} {V : List Value} {R : List (List (List UInt8))} {i : Nat} (h : LG w B v V R i 0) (hi : i < R.length) (hx : LT w x (tb R[i])) (hg : w.grownBy w2 v.ownBlock) (ho : w2.ownsRow B 32 1 v2 (V.length + 1) (V ++ [x])) : LG w2 B v2 (V ++ [x]) R (i + 1) 0 := by
  have hl := h.len
  have hx2 := hx.keep hg h.hs
  refine ⟨by rw [List.length_append]; exact ho, by simp; omega, hi, fun j h1 h2 h3 => ?_, fun j h1 => absurd h1 (Nat.not_lt_zero _), fun e => by simp at e⟩
  by_cases hj : j < V.length
  · rw [List.getElem_append_left hj]
    exact (h.away hg).1 j (by omega) hj h3
  · have e : j = i := by omega
    subst e
    have : (V ++ [x])[j] = x := by rw [List.getElem_append_right (by omega)]; simp
    rw [this]
    exact hx2
theorem LG.note1 {w w2 : World} {B : Nat} {v v2 x : Value} {V : List Value} {R : List (List (List UInt8))} {i k : Nat} (h : LG w B v V R i k) (hx : MK w x k) (hg : w.grownBy w2 v.ownBlock) (ho : w2.ownsRow B 32 1 v2 (V.length + 1) (V ++ [x])) : LG w2 B v2 (V ++ [x]) R i (k + 1) := by
  have hl := h.len
  have hx2 := hx.keep hg h.hs
  refine ⟨by rw [List.length_append]; exact ho, by simp; omega, h.le, fun j h1 h2 h3 => ?_, fun j h1 h2 => ?_, fun e => by simp at e⟩
  · rw [List.getElem_append_left (by omega)]
    exact (h.away hg).1 j h1 (by omega) h3
  · by_cases hj : j < k
    · rw [List.getElem_append_left (by omega)]
      exact (h.away hg).2 j hj (by omega)
    · have e : j = k := by omega
      subst e
      have : (V ++ [x])[i + j] = x := by rw [List.getElem_append_right (by omega)]; simp [hl]
      rw [this]
      exact hx2
/-- append of a row, kept whole -/
def appR (a : Array Value) : Sem Value := Builtin.append_ #[22, 22] 22 a
theorem appR_op (a : Array Value) : Builtin.append_ #[22, 22] 22 a = appR a := rfl
/-- its equation, for a new block with one row -/
theorem run_appR {w : World} {B n : Nat} {v x : Value} {V : List Value} (h : w.ownsRow B 32 1 v n V) (hx : x.oneCell' = true) (hn : n ≤ 5864062014700) (hB : B ≤ w.heap.size) :
    ∃ v2 w2, (appR #[v, .slice (some ⟨w.heap.size, 0, none⟩) 1 1]).run Tryz.prog (w.alloc (.cells #[x] 32)) = .ok v2 w2 ∧ w2.ownsRow B 32 1 v2 (n + 1) (V ++ [x]) ∧ (w.alloc (.cells #[x] 32)).grownBy w2 v.ownBlock := by
  have hnew := heap_alloc_new w (.cells #[x] 32)
  obtain ⟨v2, w2, hr2, hown3, hgr2, _, _⟩ := run_append_own_at (P := Tryz.prog) (w.alloc (.cells #[x] 32)) B 22 22 32 (info_parts ssi).choose (.slice none 0 0) 1 24 Tryz.underlying22 (info_parts ssi).choose_spec.1 (info_parts ssi).choose_spec.2.1 (info_parts ssi).choose_spec.2.2.1 (info_parts ssi).choose_spec.2.2.2 rfl (by decide) _ _ _ (h.alloc _) ⟨w.heap.size, 0, none⟩ 1 1 [x] rfl (by
    intro j u hj
    match j, hj with
    | 0, hj => simp at hj; subst hj; rw [Addr.add_lit, Lib.cell_of_heap hnew]; rfl) (by intro u hu; simp at hu; subst hu; exact hx) (by unfold maxLen; omega) (by omega) (by simp; omega)
  exact ⟨v2, w2, hr2, hown3, hgr2⟩
/-- what LentRows answers -/
def LrA (w : World) (R : List (List (List UInt8))) (e : Ending) (w' : World) : Prop := ∃ g cap V, e = .returned (.slice (some ⟨g, 0, none⟩) R.length cap) ∧ R.length + 9 ≤ cap ∧ cap ≤ 9223372036854775807 ∧ LG w' w.heap.size (.slice (some ⟨g, 0, none⟩) (R.length + 9) cap) V R R.length 9 ∧ Below w.heap.size w w'
attribute [local go_sem ↓] appR_op
set_option maxHeartbeats 4000000 in
theorem lentRows_any (v : Value) (R : List (List (List UInt8))) (w : World) (hr : Rz w v R) (hl : R.length ≤ 5864062014634) (hrow : ∀ cs ∈ R, cs.length ≤ 8796093021952) :
    Calls Tryz.prog 29 #[v] w fun e w' => LrA w R e w' := by
  have HR := hid hr
  have HRo := hid hrow
  obtain ⟨ra, rc, rfl⟩ := hr.form
  have HNt := hid (fun k hk w => note_any k hk w)
  clear hr hrow
  go_enter Tryz.func29, Tryz.ntmps29
  go_wp2_with fail
  go_loopw [3, 4] (fun ov j wr => ∃ (i : Nat) (V : List Value), i ≤ R.length ∧ j = .int .i64 (i : Int) ∧ LG wr w.heap.size ov V R i 0 ∧ Below w.heap.size w wr) (fun _ j _ => R.length - (intOf j).toNat)
  case atStart => exact ⟨0, [], Nat.zero_le _, rfl, ⟨World.ownsRow_nil _ _ _ _, rfl, Nat.zero_le _, fun j h => absurd h (Nat.not_lt_zero _), fun j h => absurd h (Nat.not_lt_zero _), fun _ => rfl⟩, Below.refl _ _⟩
  case round =>
    obtain ⟨i, V, hi, rfl, hlg, hbl⟩ := hrel
    obtain ⟨oa, oc, rfl⟩ := own_slice hlg.own
    have hVb : V.length ≤ 5864062014634 := by have := hlg.len; omega
    have HV := hid hlg.len
    have HL := hid hlg
    have HB := hid hbl
    by_cases hlt : i < R.length
    · have hI : (i : Int) < (R.length : Int) := by omega
      obtain ⟨g, off, u, rfl, hcap, c0, rt⟩ := (HR.out.below hbl).at i hlt
      have HLn := hid (lentTexts_any u (tb (R[i]'hlt)) wr rt (by rw [tb_len]; exact HRo.out _ (List.getElem_mem hlt)))
      obtain ⟨ua, uc, hu⟩ := rt.form
      subst hu
      clear rt hlg hbl
      go_wp2_with fail
      refine Calls.mono HLn.out ?_
      rintro e w1 ⟨⟨lv, rfl, hlt1⟩, hb1⟩
      have hL1 := HL.out.big hb1
      have hB1 := HB.out.trans (hb1.mono HB.out.size)
      have hlv : ∃ lb ln lc, lv = .slice (some ⟨lb, 0, none⟩) ln lc := by obtain ⟨lb, lc, e, _⟩ := hlt1; exact ⟨lb, _, lc, e⟩
      obtain ⟨lb, ln, lc, rfl⟩ := hlv
      obtain ⟨v2, w2, hr2, hown2, hgr2⟩ := run_appR (x := .slice (some ⟨lb, 0, none⟩) ln lc) hL1.own rfl (by omega) hB1.size
      have ba : Below w1.heap.size w1 (w1.alloc (.cells #[.slice (some ⟨lb, 0, none⟩) ln lc] 32)) := (Below.refl _ _).alloc (Nat.le_refl _) _
      have HL2 := hid (LG.row1 (hL1.big ba) hlt (hlt1.below ba) hgr2 hown2)
      have HB2 := hid ((hB1.alloc hB1.size _).grown hgr2 (by simp; have := hB1.size; omega) (fun k hk => (World.ownsRow.lt hL1.own k hk).1))
      obtain ⟨xa, xc, rfl⟩ := own_slice hown2
      clear hL1 hB1 hown2 hgr2 ba hb1 hlt1
      go_wp2
      go_roundw
      case rel => exact ⟨i + 1, _, by omega, by go_num, HL2.out, HB2.out⟩
      case measure => simp [intOf]; omega
    · have hI : ¬ (i : Int) < (R.length : Int) := by omega
      have hie : i = R.length := by omega
      have HL0 := hid (show LG wr w.heap.size (.slice oa V.length oc) V R R.length 0 by rw [← hie]; exact HL.out)
      clear hie hlg hbl HL
      go_wp2_with fail
      go_loopw [3, 5] (fun ov j wr2 => ∃ (k : Nat) (V2 : List Value), k ≤ 9 ∧ j = .int .i64 (k : Int) ∧ LG wr2 w.heap.size ov V2 R R.length k ∧ Below w.heap.size w wr2) (fun _ j _ => 9 - (intOf j).toNat)
      case atStart => exact ⟨0, V, by omega, rfl, HL0.out, HB.out⟩
      case round =>
        obtain ⟨k, V2, hk, rfl, hlg2, hbl2⟩ := hrel
        obtain ⟨oa2, oc2, rfl⟩ := own_slice hlg2.own
        have hV2 := hlg2.len
        by_cases hk9 : k < 9
        · have hK : (k : Int) < 9 := by omega
          have HLk := hid hlg2
          have HBk := hid hbl2
          have HVk := hid hV2
          clear hlg2 hbl2 hV2
          go_wp2_with fail
          refine Calls.mono (HNt.out k hk9 _) ?_
          rintro e w1 ⟨rfl, hb1⟩
          have hL1 := HLk.out.big hb1
          have hB1 := HBk.out.trans (hb1.mono HBk.out.size)
          have ba : Below w1.heap.size w1 (w1.alloc (.cells #[.string (ntB k)] 9)) := (Below.refl _ _).alloc (Nat.le_refl _) _
          have hm0 : MK (w1.alloc (.cells #[.string (ntB k)] 9)) (.slice (some ⟨w1.heap.size, 0, none⟩) 1 1) k := ⟨_, 1, rfl, Nat.le_refl _, by simp⟩
          have hB2 := hB1.trans (ba.mono hB1.size)
          have hz : (w1.alloc (.cells #[.string (ntB k)] 9)).heap.size = w1.heap.size + 1 := by simp
          obtain ⟨v2, w2, hr2, hown2, hgr2⟩ := run_appR (x := .slice (some ⟨w1.heap.size, 0, none⟩) 1 1) (hL1.big ba).own rfl (by have := HVk.out; omega) hB2.size
          rw [hz] at hr2
          have bb : Below (w1.alloc (.cells #[.string (ntB k)] 9)).heap.size (w1.alloc (.cells #[.string (ntB k)] 9)) ((w1.alloc (.cells #[.string (ntB k)] 9)).alloc (.cells #[.slice (some ⟨w1.heap.size, 0, none⟩) 1 1] 32)) := (Below.refl _ _).alloc (Nat.le_refl _) _
          have HL2 := hid (LG.note1 ((hL1.big ba).big bb) (hm0.below bb) hgr2 hown2)
          have HB2 := hid ((hB2.alloc hB2.size _).grown hgr2 (by have := hB2.size; simp; omega) (fun k hk => (World.ownsRow.lt (hL1.big ba).own k hk).1))
          obtain ⟨xa, xc, rfl⟩ := own_slice hown2
          clear hL1 hB1 hown2 hgr2 ba bb hb1 hm0 hB2 hz
          go_wp2
          go_roundw
          case rel => exact ⟨k + 1, _, by omega, by go_num, HL2.out, HB2.out⟩
          case measure => simp [intOf]; omega
        · have hK : ¬ (k : Int) < 9 := by omega
          have hke : k = 9 := by omega
          subst hke
          have hc : ∃ g, oa2 = some ⟨g, 0, none⟩ ∧ R.length + 9 ≤ oc2 ∧ oc2 ≤ 9223372036854775807 := by
            rcases hlg2.own.2 with ⟨_, h0⟩ | ⟨g, cap, cur, e, _, _, h4, h5, _⟩
            · omega
            · injection e with e1 _ e3
              exact ⟨g, e1, by omega, by unfold maxLen at h5; omega⟩
          obtain ⟨g, rfl, hc1, hc2⟩ := hc
          rw [hV2] at hlg2
          have HLk := hid hlg2
          have HBk := hid hbl2
          have hI1 : (R.length : Int) ≤ (oc2 : Int) := by omega
          have hI0 : (0 : Int) ≤ (R.length : Int) := by omega
          clear hlg2 hbl2 hV2
          go_wp2
          go_ret
          unfold LrA
          exact ⟨_, _, _, rfl, hc1, hc2, HLk.out, HBk.out⟩
end Go.Proofs.YtmgfdnccmeahjaaGreatDoor

namespace Go.Proofs.YtmgfdnccmeahjaaGreatDoor
open Go.RowKit
set_option maxRecDepth 100000
set_option linter.unusedVariables false
set_option linter.unusedSimpArgs false

structure Col where
  nm : ByteArray
  kd : Int
  mu : Bool
/-- a slice reads as these columns -/
def RC (w : World) (v : Value) (L : List Col) : Prop :=
  (L = [] ∧ ∃ ao cap, v = .slice ao 0 cap ∧ (ao = none → cap = 0)) ∨
  ∃ b off cap, v = .slice (some ⟨b, off, none⟩) L.length cap ∧ (L.length ≤ cap ∧ cap ≤ 9223372036854775807) ∧ ∀ j (hj : j < L.length), w.cell? ⟨b, off + j * 3, none⟩ = some (.string L[j].nm) ∧ w.cell? ⟨b, off + j * 3 + 1, none⟩ = some (.int .i64 L[j].kd) ∧ w.cell? ⟨b, off + j * 3 + 2, none⟩ = some (.bool L[j].mu)
theorem RC.below {w w' : World} {v : Value} {L : List Col} (h : RC w v L) (hb : Below w.heap.size w w') : RC w' v L := by
  rcases h with h | ⟨b, off, cap, hv, hl, hc⟩
  · exact .inl h
  · exact .inr ⟨b, off, cap, hv, hl, fun j hj => ⟨below_cells hb _ _ (hc j hj).1, below_cells hb _ _ (hc j hj).2.1, below_cells hb _ _ (hc j hj).2.2⟩⟩
theorem RC.form {w : World} {v : Value} {L : List Col} (h : RC w v L) : ∃ ao cap, v = .slice ao L.length cap ∧ L.length ≤ cap := by
  rcases h with ⟨rfl, ao, cap, rfl, _⟩ | ⟨b, off, cap, rfl, hl, _⟩
  · exact ⟨_, _, rfl, by simp⟩
  · exact ⟨_, _, rfl, hl.1⟩
theorem RC.at {w : World} {v : Value} {L : List Col} (h : RC w v L) (j : Nat) (hj : j < L.length) : ∃ b off cap, v = .slice (some ⟨b, off, none⟩) L.length cap ∧ w.cell? ⟨b, off + j * 3, none⟩ = some (.string L[j].nm) ∧ w.cell? ⟨b, off + j * 3 + 1, none⟩ = some (.int .i64 L[j].kd) ∧ w.cell? ⟨b, off + j * 3 + 2, none⟩ = some (.bool L[j].mu) := by
  rcases h with ⟨rfl, _⟩ | ⟨b, off, cap, hv, hl, hc⟩
  · simp at hj
  · exact ⟨b, off, cap, hv, hc j hj⟩
/-- a shorter slice of it -/
theorem RC.take {w : World} {ao : Option Addr} {n cap : Nat} {L : List Col} (h : RC w (.slice ao n cap) L) (k : Nat) (hk : k ≤ L.length) : RC w (.slice ao k cap) (L.take k) := by
  rcases h with ⟨rfl, ao', cap', hv, hn⟩ | ⟨b, off, cap', hv, hl, hc⟩
  · cases hv
    obtain rfl : k = 0 := by simpa using hk
    exact .inl ⟨rfl, _, _, rfl, hn⟩
  · cases hv
    refine .inr ⟨b, off, _, by rw [List.length_take, Nat.min_eq_left hk], ⟨by rw [List.length_take]; omega, hl.2⟩, fun j hj => ?_⟩
    rw [List.getElem_take]
    exact hc j (by rw [List.length_take] at hj; omega)
theorem OT.reads {w : World} {base : Nat} {v : Value} {L : List ByteArray} (h : OT w base v L) : RT w v L := by
  have hc := fun g hg => World.ownsRow.cells h (g := g) hg
  rcases h.2 with ⟨rfl, h0⟩ | ⟨g, cap, cur, rfl, _, _, hcap, hm, _⟩
  · exact .inl ⟨List.eq_nil_of_length_eq_zero h0, none, 0, rfl, fun _ => rfl⟩
  · refine .inr ⟨g, 0, cap, rfl, ⟨hcap, hm⟩, fun j hj => ?_⟩
    have := hc g rfl j (.string L[j]) (by simp [tc, hj])
    rw [Addr.add_lit] at this
    exact this
set_option maxHeartbeats 2000000 in
theorem names_any (v : Value) (L : List Col) (w : World) (hr : RC w v L) (hl : L.length ≤ 8796093021952) :
    Calls Tryz.prog 46 #[v] w fun e w' => (∃ v', e = .returned v' ∧ OT w' w.heap.size v' (L.map Col.nm)) ∧ Below w.heap.size w w' := by
  have HR := hid hr
  obtain ⟨ao, cap, rfl, _⟩ := hr.form
  have h0 := hid (show OT w w.heap.size (.slice none 0 0) ((L.take 0).map Col.nm) from World.ownsRow_nil _ _ _ _)
  clear hr
  go_enter Tryz.func46, Tryz.ntmps46
  go_wp2_with fail
  go_loopw [3, 8] (fun v i wr => ∃ k : Nat, k ≤ L.length ∧ i = .int .i64 k ∧ OT wr w.heap.size v ((L.take k).map Col.nm) ∧ Below w.heap.size w wr) (fun _ i _ => L.length - (intOf i).toNat)
  case atStart => exact ⟨0, by omega, rfl, h0.out, Below.refl _ _⟩
  case round =>
    obtain ⟨k, hk, rfl, ho, hbl⟩ := hrel
    have HO := hid ho
    have HB := hid hbl
    clear ho
    by_cases h : k < L.length
    · have hlen : ((L.take k).map Col.nm).length = k := by rw [List.length_map, List.length_take]; omega
      have HT := hid (show (L.take (k + 1)).map Col.nm = (L.take k).map Col.nm ++ [L[k].nm] by
        rw [List.take_succ_eq_append_getElem h, List.map_append]; rfl)
      obtain ⟨b, off, cap', hv, c0, c1, c2⟩ := (HR.out.below hbl).at k h
      cases hv
      generalize (L.take k).map Col.nm = Tk at *
      generalize L[k] = C at *
      obtain ⟨nm, kd, mu⟩ := C
      have hI : (k : Int) < (L.length : Int) := by omega
      obtain ⟨W1, hW1⟩ : ∃ W1, wr.alloc (.cells #[.string nm, .int .i64 kd, .bool mu] 31) = W1 := ⟨_, rfl⟩
      have BW1 := hid (show Below wr.heap.size wr W1 by rw [← hW1]; exact (Below.refl _ _).alloc (Nat.le_refl _) _)
      have RW1 := hid (show W1.heap[wr.heap.size]? = some (.cells #[.string nm, .int .i64 kd, .bool mu] 31 (0, 0)) by rw [← hW1]; exact heap_alloc_new wr _)
      have hW1s : W1.heap.size = wr.heap.size + 1 := by rw [← hW1]; simp [go_sem]
      obtain ⟨W, hW⟩ : ∃ W, W1.alloc (.cells #[.string nm] 9) = W := ⟨_, rfl⟩
      have RW := hid (show W.heap[wr.heap.size + 1]? = some (.cells #[.string nm] 9 (0, 0)) by rw [← hW, ← hW1s]; exact heap_alloc_new W1 _)
      have BW := hid (show Below wr.heap.size wr W by rw [← hW]; exact BW1.out.alloc BW1.out.size _)
      have HOW := hid (own_later HO.out BW.out)
      have hsz := hid (show w.heap.size ≤ W.heap.size from Nat.le_trans HB.out.size BW.out.size)
      have hb16 : (Tk.length + 1) * 16 ≤ 140737488355328 := by omega
      have hb63 : Tk.length + 1 ≤ maxLen := by unfold maxLen; omega
      clear HO hbl
      have x0 : W1.cell? ⟨wr.heap.size, 0, none⟩ = some (.string nm) := Lib.cell_of_heap RW1.out 0
      have HLen := hid hlen
      clear h hlen
      go_wp2_with (at_builtin; refine wpList_appX tinfo Tryz.underlying32 rfl (by decide) rfl (.tmp 12) (.tmp 15) rfl w.heap.size _ Tk.length (tc Tk) rfl HOW.out _ 1 (tc [nm]) rfl rfl (.inr ⟨_, _, rfl, news_blk RW.out⟩) (tc_one _) hb63 hb16 hsz.out ?n2)
      case n2 =>
      intro v3 w3 ho3 hg3 _
      have HO3 := hid (show OT w3 w.heap.size v3 (Tk ++ [nm]) by unfold OT; rw [List.length_append]; simpa [tc] using ho3)
      have HB3 := hid ((HB.out.trans (BW.out.mono HB.out.size)).grown hg3 hsz.out (fun k hk => (World.ownsRow.lt HOW.out k hk).1))
      clear ho3 hg3 HOW
      go_wp2_with fail
      go_roundw
      case rel => exact ⟨k + 1, by omega, by go_num, by rw [HT.out]; exact HO3.out, HB3.out⟩
      case measure => simp [intOf]; omega
    · obtain rfl : k = L.length := by omega
      rw [List.take_length] at HO
      have hI : ¬ (L.length : Int) < (L.length : Int) := by omega
      go_wp2
      go_ret
      exact ⟨⟨_, rfl, HO.out⟩, HB.out⟩
end Go.Proofs.YtmgfdnccmeahjaaGreatDoor

namespace Go.Proofs.YtmgfdnccmeahjaaGreatDoor
open Go.RowKit
set_option maxRecDepth 100000
set_option linter.unusedVariables false
set_option linter.unusedSimpArgs false

/-- the place of a text in a list -/
def IdxP (L : List ByteArray) (x : ByteArray) (n : Int) : Prop := (n = -1 ∧ ∀ j (h : j < L.length), L[j] ≠ x) ∨ ∃ (j : Nat) (h : j < L.length), n = (j : Int) ∧ L[j] = x ∧ ∀ i (hi : i < L.length), i < j → L[i] ≠ x
theorem str_eq (x y : ByteArray) : (x.toList == y.toList) = decide (x = y) := by
  rw [ByteArray.toList_eq, ByteArray.toList_eq]
  by_cases h : x = y
  · subst h; simp
  · rw [decide_eq_false h]
    refine beq_eq_false_iff_ne.2 fun e => h ?_
    exact ByteArray.ext (Array.toList_inj.1 e)
set_option maxHeartbeats 1000000 in
theorem sindex_any (v : Value) (L : List ByteArray) (x : ByteArray) (w : World) (hr : RT w v L) :
    Calls Tryz.prog 80 #[v, .string x] w fun e w' => (∃ n, e = .returned (.int .i64 n) ∧ IdxP L x n) ∧ w' = w := by
  have HR := hid hr
  obtain ⟨ao, cap, rfl⟩ := hr.form
  clear hr
  go_enter Tryz.func80, Tryz.ntmps80
  go_wp2_with fail
  go_loop [8] (fun i => ∃ k : Nat, k ≤ L.length ∧ i = .int .i64 k ∧ Hid (∀ j (h : j < L.length), j < k → L[j] ≠ x)) (fun i => L.length - (intOf i).toNat)
  case atStart => exact ⟨0, by omega, rfl, hid fun j _ h => absurd h (Nat.not_lt_zero _)⟩
  case round =>
    obtain ⟨k, hk, rfl, HN⟩ := hrel
    have hl63 := HR.out.len
    by_cases h : k < L.length
    · have hI : (k : Int) < (L.length : Int) := by omega
      obtain ⟨b, off, cap', hv, _, hc⟩ := HR.out.at k h
      cases hv
      have c0 := hc k h
      have es := str_eq x L[k]
      have HLk := hid (fun (e : x = L[k]) => e)
      by_cases e : x = L[k]
      · have HE := hid e.symm
        rw [decide_eq_true e] at es
        clear hc e HLk
        have HNk := hid (show IdxP L x (k : Int) from .inr ⟨k, h, rfl, HE.out, HN.out⟩)
        clear HE
        generalize L[k] = y at es c0
        go_wp2
        go_ret
        exact ⟨⟨_, rfl, HNk.out⟩, rfl⟩
      · have HE := hid (fun h : L[k] = x => e h.symm)
        rw [decide_eq_false e] at es
        clear hc e HLk
        have HN2 := hid (show ∀ j (h : j < L.length), j < k + 1 → L[j] ≠ x from fun j hj hlt => by
          by_cases e : j = k
          · subst e; exact HE.out
          · exact HN.out j hj (by omega))
        generalize L[k] = y at es c0
        go_wp2
        go_round
        case rel => exact ⟨k + 1, by omega, by go_num, HN2⟩
        case measure => simp [intOf]; omega
    · obtain rfl : k = L.length := by omega
      have hI : ¬ (L.length : Int) < (L.length : Int) := by omega
      go_wp2
      go_ret
      exact ⟨⟨-1, rfl, .inl ⟨rfl, fun j hj => HN.out j hj hj⟩⟩, rfl⟩
theorem scontains_any (v : Value) (L : List ByteArray) (x : ByteArray) (w : World) (hr : RT w v L) :
    Calls Tryz.prog 79 #[v, .string x] w fun e w' => (∃ b : Bool, e = .returned (.bool b) ∧ (b = true ↔ x ∈ L)) ∧ w' = w := by
  have HI := hid (sindex_any v L x w hr)
  go_enter Tryz.func79, Tryz.ntmps79
  go_wp2_with fail
  refine Calls.mono HI.out ?_
  rintro e w1 ⟨⟨n, rfl, hn⟩, hw⟩
  replace hw := hw.symm
  subst hw
  have HN := hid hn
  clear hn
  go_wp2
  go_ret
  refine ⟨⟨_, rfl, ?_⟩, rfl⟩
  rcases HN.out with ⟨rfl, hno⟩ | ⟨j, hj, rfl, he, _⟩
  · simp
    intro hm
    obtain ⟨i, hi, e⟩ := List.getElem_of_mem hm
    exact hno i hi e
  · simp
    rw [← he]; exact List.getElem_mem _
/-- a text that a column's head may be -/
def plB (s : ByteArray) : Bool := decide (s.size ≠ 0) && decide (s.size ≤ 64) && s.data.toList.all (fun c => mayB c.toNat)
def mbB (c : Col) : Bool := plB c.nm && decide (1 ≤ c.kd) && decide (c.kd ≤ 6)
theorem cfl_plain {s : ByteArray} (h : s.size ≤ 64) : cfl s.data.toList = if s.data.toList.all (fun c => mayB c.toNat) = true then 0 else 4 := by
  unfold cfl
  rw [if_neg (by have := szL s; omega)]
set_option maxHeartbeats 1000000 in
theorem mayBe_any (A : Nat → Addr) (nm : ByteArray) (kd : Int) (mu : Bool) (w : World) (hA : Sn A w) :
    Calls Tryz.prog 78 #[.agg #[.string nm, .int .i64 kd, .bool mu]] w fun e w' => e = .returned (.bool (mbB ⟨nm, kd, mu⟩)) ∧ Below w.heap.size w w' := by
  obtain ⟨W, hW⟩ : ∃ W, w.alloc (.cells #[.string nm, .int .i64 kd, .bool mu] 31) = W := ⟨_, rfl⟩
  have BW := hid (show Below w.heap.size w W by rw [← hW]; exact (Below.refl _ _).alloc (Nat.le_refl _) _)
  have RW : W.heap[w.heap.size]? = some (.cells #[.string nm, .int .i64 kd, .bool mu] 31 (0, 0)) := by rw [← hW]; exact heap_alloc_new w _
  have x0 : W.cell? ⟨w.heap.size, 0, none⟩ = some (.string nm) := Lib.cell_of_heap RW 0
  have x1 : W.cell? ⟨w.heap.size, 1, none⟩ = some (.int .i64 kd) := Lib.cell_of_heap RW 1
  have HC := hid (fun (W' : World) (h : W' = W) => (by subst h; exact checkCell_any A nm W' ((hA.below BW.out).he) : Calls Tryz.prog 112 #[.string nm] W' fun e w' => e = .returned (erV A (cfl nm.data.toList)) ∧ w' = W'))
  have HWw := hid hW
  clear RW hA hW
  by_cases h0 : nm = ByteArray.empty
  · subst h0
    have HM := hid (show mbB ⟨ByteArray.empty, kd, mu⟩ = false by simp [mbB, plB])
    clear x0 x1 HC
    go_enter Tryz.func78, Tryz.ntmps78
    go_wp2_with fail
    rw [HWw.out]
    go_ret
    exact ⟨by rw [HM.out]; rfl, BW.out⟩
  · have hz : nm.size ≠ 0 := fun e => h0 (ByteArray.size_eq_zero_iff.1 e)
    have hnl : ¬ nm.toList = [] := fun e => hz (by rw [← szL, ← ByteArray.toList_eq, e]; rfl)
    have hne : nm.toList.isEmpty = false := by
      cases hh : nm.toList with
      | nil => exact absurd hh hnl
      | cons c r => rfl
    by_cases h64 : nm.size ≤ 64
    · have h64I : (nm.size : Int) ≤ 64 := by omega
      have hcf := cfl_plain h64
      obtain ⟨b, hb⟩ : ∃ b, nm.data.toList.all (fun c => mayB c.toNat) = b := ⟨_, rfl⟩
      have HM := hid (show mbB ⟨nm, kd, mu⟩ = (b && decide (1 ≤ kd) && decide (kd ≤ 6)) by
        unfold mbB plB; simp only []; rw [hb, decide_eq_true hz, decide_eq_true h64]; simp)
      rw [hb] at hcf
      rw [hcf] at HC
      clear hb hcf hz h64
      cases b with
      | false =>
        rw [if_neg (by decide), erV_pos A (by decide)] at HC
        go_enter Tryz.func78, Tryz.ntmps78
        go_wp2_with fail
        refine Calls.mono (HC.out _ HWw.out) ?_
        rintro e w1 ⟨rfl, rfl⟩
        rw [HWw.out]
        go_wp2
        go_ret
        exact ⟨by rw [HM.out]; rfl, BW.out⟩
      | true =>
        rw [if_pos (by decide), erV_zero] at HC
        by_cases k1 : kd < 1
        · have HM2 := hid (show mbB ⟨nm, kd, mu⟩ = false by rw [HM.out, decide_eq_false (show ¬ 1 ≤ kd by omega)]; rfl)
          clear HM
          go_enter Tryz.func78, Tryz.ntmps78
          go_wp2_with fail
          refine Calls.mono (HC.out _ HWw.out) ?_
          rintro e w1 ⟨rfl, rfl⟩
          rw [HWw.out]
          go_wp2
          go_ret
          exact ⟨by rw [HM2.out]; rfl, BW.out⟩
        · have k2 : 1 ≤ kd := by omega
          have HM2 := hid (show mbB ⟨nm, kd, mu⟩ = decide (kd ≤ 6) by rw [HM.out, decide_eq_true k2]; simp)
          clear HM
          go_enter Tryz.func78, Tryz.ntmps78
          go_wp2_with fail
          refine Calls.mono (HC.out _ HWw.out) ?_
          rintro e w1 ⟨rfl, rfl⟩
          rw [HWw.out]
          go_wp2
          go_ret
          exact ⟨by rw [HM2.out]; rfl, BW.out⟩
    · have h64I : ¬ (nm.size : Int) ≤ 64 := by omega
      have HM := hid (show mbB ⟨nm, kd, mu⟩ = false by unfold mbB plB; simp only []; rw [decide_eq_false h64]; simp)
      clear x1 HC hz h64
      go_enter Tryz.func78, Tryz.ntmps78
      go_wp2_with fail
      rw [HWw.out]
      go_ret
      exact ⟨by rw [HM.out]; rfl, BW.out⟩
set_option maxHeartbeats 1000000 in
theorem dplain_any (s : ByteArray) (w : World) :
    Calls Tryz.prog 93 #[.string s, .int .i64 64] w fun e w' => e = .returned (.bool (plB s)) ∧ Below w.heap.size w w' := by
  by_cases h0 : s.size < 1
  · have h0I : (s.size : Int) < 1 := by omega
    have HP := hid (show plB s = false by unfold plB; rw [decide_eq_false (show ¬ s.size ≠ 0 by omega)]; rfl)
    clear h0
    go_enter Tryz.func93, Tryz.ntmps93
    go_wp2
    go_ret
    exact ⟨by rw [HP.out]; rfl, Below.refl _ _⟩
  · have h0I : ¬ (s.size : Int) < 1 := by omega
    by_cases h1 : 64 < s.size
    · have h1I : (64 : Int) < (s.size : Int) := by omega
      have HP := hid (show plB s = false by unfold plB; rw [decide_eq_false (show ¬ s.size ≤ 64 by omega)]; simp)
      clear h0 h1
      go_enter Tryz.func93, Tryz.ntmps93
      go_wp2
      go_ret
      exact ⟨by rw [HP.out]; rfl, Below.refl _ _⟩
    · have h1I : ¬ (64 : Int) < (s.size : Int) := by omega
      have HP := hid (show plB s = s.data.toList.all (fun c => mayB c.toNat) by
        unfold plB; rw [decide_eq_true (show s.size ≠ 0 by omega), decide_eq_true (show s.size ≤ 64 by omega)]; simp)
      have hb : s.size ≤ 64 := by omega
      clear h0 h1
      go_enter Tryz.func93, Tryz.ntmps93
      go_wp2_with fail
      go_loopw [5] (fun i wr => ∃ k : Nat, k ≤ s.size ∧ i = .int .i64 (k : Int) ∧ Hid (∀ j (hj : j < s.data.toList.length), j < k → mayB (s.data.toList[j]).toNat = true) ∧ Hid (Below w.heap.size w wr)) (fun i _ => s.size - (intOf i).toNat)
      case atStart => exact ⟨0, Nat.zero_le _, rfl, hid fun j _ h => absurd h (Nat.not_lt_zero _), hid (Below.refl _ _)⟩
      case round =>
        obtain ⟨k, hk, rfl, HA, HB⟩ := hrel
        by_cases h : k < s.size
        · have hI : (k : Int) < (s.size : Int) := by omega
          have hat := atL s k h
          have HD := hid (fun w => dmay_any s[k] w)
          obtain ⟨b, hb2⟩ : ∃ b, mayB s[k].toNat = b := ⟨_, rfl⟩
          rw [hb2] at HD
          have HBt := hid (show mayB (s.data.toList[k]'(by rw [szL]; exact h)).toNat = b by rw [hat]; exact hb2)
          clear hat hb2
          cases b with
          | false =>
            have HP2 := hid (show s.data.toList.all (fun c => mayB c.toNat) = false by
              rw [List.all_eq_false]
              exact ⟨_, List.getElem_mem (by rw [szL]; exact h), by rw [HBt.out]; simp⟩)
            go_wp2_with fail
            refine Calls.mono (HD.out _) ?_
            rintro e w1 ⟨rfl, hw⟩
            replace hw := hw.symm
            subst hw
            go_wp2
            go_ret
            exact ⟨by rw [HP.out, HP2.out]; rfl, HB.out⟩
          | true =>
            have HA2 := hid (show ∀ j (hj : j < s.data.toList.length), j < k + 1 → mayB (s.data.toList[j]).toNat = true from fun j hj hlt => by
              by_cases e : j = k
              · subst e; exact HBt.out
              · exact HA.out j hj (by omega))
            go_wp2_with fail
            refine Calls.mono (HD.out _) ?_
            rintro e w1 ⟨rfl, hw⟩
            replace hw := hw.symm
            subst hw
            go_wp2
            go_roundw
            case rel => exact ⟨k + 1, by omega, by go_num, HA2, HB⟩
            case measure => simp [intOf]; omega
        · have hI : ¬ (k : Int) < (s.size : Int) := by omega
          have HP2 := hid (show s.data.toList.all (fun c => mayB c.toNat) = true by
            rw [List.all_eq_true]
            intro x hx
            obtain ⟨i, hi, rfl⟩ := List.getElem_of_mem hx
            exact HA.out i hi (by rw [szL] at hi; omega))
          go_wp2
          go_ret
          exact ⟨by rw [HP.out, HP2.out]; rfl, HB.out⟩
end Go.Proofs.YtmgfdnccmeahjaaGreatDoor
