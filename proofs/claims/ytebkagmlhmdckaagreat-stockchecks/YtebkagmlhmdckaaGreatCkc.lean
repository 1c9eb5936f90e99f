/-
  stock: lines and requests lent, kept, the same. Laid by mkckc.py.
-/
import Derived.Test.YtebkagmlhmdckaaGreatCk8
import Derived.Handy
namespace Go.Proofs.YtebkagmlhmdckaaGreat
open Go.RowKit
set_option maxRecDepth 100000

/-- a request in block qb: its fields, its lines at v -/
def rqC (r : Rq) (v : Value) : Array Value := #[.string r.id, .int .i64 r.kind, v, .string r.hold, .int .i64 r.ttl, .int .i64 r.now]
/-- nothing but the blocks rb and g has turned -/
structure Tb (rb g : Nat) (w w' : World) : Prop where
  os : w'.os = w.os
  tape : w'.tape = w.tape
  output : w'.output = w.output
  size : w.heap.size ≤ w'.heap.size
  block : ∀ k, k < w.heap.size → k ≠ rb → k ≠ g → w'.heap[k]? = w.heap[k]?
theorem Tb.drewN (rb g : Nat) (w : World) (q : Nat) : Tb rb g w (w.drewN q) := ⟨rfl, rfl, rfl, Nat.le_refl _, fun _ _ _ _ => rfl⟩
theorem Tb.trans {rb g : Nat} {w w1 w2 : World} (h : Tb rb g w w1) (k : Tb rb g w1 w2) : Tb rb g w w2 :=
  ⟨k.os.trans h.os, k.tape.trans h.tape, k.output.trans h.output, Nat.le_trans h.size k.size, fun j hj h1 h2 => (k.block j (Nat.lt_of_lt_of_le hj h.size) h1 h2).trans (h.block j hj h1 h2)⟩
theorem Tb.set {rb g : Nat} (w : World) (p : Addr) (u : Value) (hp : p.block = rb ∨ p.block = g) : Tb rb g w (w.setCell p u) :=
  ⟨rfl, rfl, rfl, by simp, fun j _ h1 h2 => heap_setCell_other w p j u (fun e => by rcases hp with h | h <;> omega)⟩
theorem Tb.lows {rb B : Nat} {w w' : World} (h : Tb rb rb w w') (hb : B ≤ rb) (hs : B ≤ w.heap.size) : Below B w w' := ⟨h.os, h.tape, h.output, h.size, fun k hk => h.block k (by omega) (by omega) (by omega)⟩
/-- append of one line, in all of the reach -/
theorem wpList_appLw {w : World} {ops : Array Oper} {rest : List Oper} {o : Oper} {a : Act} {Q : Exit → Act → World → Prop} (hgd : o.guard = none) (s x : Operand)
    (ho : o.op = .call { callee := .builtin .append, args := #[s, x], argTypes := #[22, 22] })
    (base : Nat) (v : Value) (L : List Ln) (hs : a.eval s = v) (hown : OLn w base v L) (g : Nat) (y : Ln) (hx : a.eval x = .slice (some ⟨g, 0, none⟩) 1 1) (hg : w.heap[g]? = some (.cells #[.string y.1, .int .i64 y.2] 45 (0, 0)))
    (hlen : L.length ≤ 5864062014800) (hbase : base ≤ w.heap.size)
    (h : ∀ v' w', OLn w' base v' (L ++ [y]) → w.grownBy w' v.ownBlock → wpList Tryz.prog ops Q rest (a.put o.dst v') w') : wpList Tryz.prog ops Q (o :: rest) a w := by
  obtain ⟨i, hi, hz, hsz, hby⟩ := info_parts lninfo
  refine wpList_append_own w hgd s x 22 ho base 45 i (.agg #[.string ⟨#[]⟩, .int .i64 0]) 2 24 Tryz.underlying22 hi hz hsz hby rfl (by decide) v L.length (lc L) hs hown ⟨g, 0, none⟩ 1 1 (lc [y]) hx rfl (World.news_of_block (cs := #[.string y.1, .int .i64 y.2]) (t := 45) (fr := (0, 0)) hg) (lc_one _) (by unfold maxLen; omega) (by omega) hbase ?_
  intro v' w' ho' hgr _
  refine h v' w' ?_ hgr
  unfold OLn
  rw [lc_app, List.length_append]
  exact ho'
/-- append of lines that are read -/
theorem wpList_appLs {w : World} {ops : Array Oper} {rest : List Oper} {o : Oper} {a : Act} {Q : Exit → Act → World → Prop} (hgd : o.guard = none) (s x : Operand)
    (ho : o.op = .call { callee := .builtin .append, args := #[s, x], argTypes := #[22, 22] })
    (base : Nat) (v : Value) (L : List Ln) (hs : a.eval s = v) (hown : OLn w base v L) (xv : Value) (M : List Ln) (hx : a.eval x = xv) (hr : RLn w xv M)
    (hlen : L.length + M.length ≤ 5864062014800) (hbase : base ≤ w.heap.size)
    (h : ∀ v' w', OLn w' base v' (L ++ M) → w.grownBy w' v.ownBlock → wpList Tryz.prog ops Q rest (a.put o.dst v') w') : wpList Tryz.prog ops Q (o :: rest) a w := by
  obtain ⟨i, hi, hz, hsz, hby⟩ := info_parts lninfo
  have key : ∀ ad cap, xv = .slice (some ad) M.length cap → (∀ j u, (lc M)[j]? = some u → w.cell? (ad.add j) = some u) → wpList Tryz.prog ops Q (o :: rest) a w := by
    intro ad cap hxv hnews
    refine wpList_append_own w hgd s x 22 ho base 45 i (.agg #[.string ⟨#[]⟩, .int .i64 0]) 2 24 Tryz.underlying22 hi hz hsz hby rfl (by decide) v L.length (lc L) hs hown ad M.length cap (lc M) (hx.trans hxv) (lc_len M) hnews (lc_one _) (by unfold maxLen; omega) (by omega) hbase ?_
    intro v' w' ho' hgr _
    refine h v' w' ?_ hgr
    unfold OLn
    rw [lc_app, List.length_append]
    exact ho'
  rcases hr with ⟨rfl, ao, cap, rfl, hcap⟩ | ⟨b, off, cap, rfl, hl, hcell⟩
  · cases ao with
    | none =>
      obtain rfl := hcap rfl
      refine wpList_append_own_none hgd s x 22 ho base 45 i 2 Tryz.underlying22 hi v L.length (lc L) hs hown hx ?_
      exact h v w (by rw [List.append_nil]; exact hown) ⟨rfl, rfl, rfl, Nat.le_refl _, fun _ _ _ => rfl⟩
    | some ad => exact key ad cap rfl (fun j u hj => by simp [lc] at hj)
  · exact key _ cap rfl (cells_of_lc hcell)
set_option maxHeartbeats 2000000 in
theorem sameLines_any (v1 v2 : Value) (L : List Ln) (w : World) (h1 : RLn w v1 L) (h2 : RLn w v2 L) (hl : L.length ≤ 5864062014800) :
    Calls Tryz.prog 25 #[v1, v2] w fun e w' => e = .returned (.bool true) ∧ Below w.heap.size w w' := by
  have HL := hid hl
  clear hl
  rcases h1 with ⟨rfl, ao, cap, rfl, _⟩ | ⟨b, off, cap, rfl, hcap, hcell⟩
  · rcases h2 with ⟨_, ao2, cap2, rfl, _⟩ | ⟨b2, off2, cap2, rfl, _, _⟩
    all_goals
      go_enter Tryz.func25, Tryz.ntmps25
      go_wp2_with fail
      go_rounds 1
      go_ret
      exact ⟨rfl, Below.refl _ _⟩
  · rcases h2 with ⟨rfl, ao2, cap2, rfl, _⟩ | ⟨b2, off2, cap2, rfl, hcap2, hcell2⟩
    · go_enter Tryz.func25, Tryz.ntmps25
      go_wp2_with fail
      go_rounds 1
      go_ret
      exact ⟨rfl, Below.refl _ _⟩
    · have HC := hid (And.intro hcell hcell2)
      clear hcell hcell2
      go_enter Tryz.func25, Tryz.ntmps25
      go_wp2_with fail
      go_loopw [5] (fun i wr => ∃ k : Nat, k ≤ L.length ∧ i = .int .i64 (k : Int) ∧ Below w.heap.size w wr) (fun i _ => L.length - (intOf i).toNat)
      case atStart => exact ⟨0, by omega, rfl, Below.refl _ _⟩
      case round =>
        obtain ⟨k, hk, rfl, hbl⟩ := hrel
        by_cases hlt : k < L.length
        · have hcl := HC.out.1 k hlt
          have hcl2 := HC.out.2 k hlt
          have c0 := below_cells hbl _ _ hcl.1
          have c1 := below_cells hbl _ _ hcl.2
          have d0 := below_cells hbl _ _ hcl2.1
          have d1 := below_cells hbl _ _ hcl2.2
          have hl := HL.out
          have hI : (k : Int) < (L.length : Int) := by omega
          clear hcl hcl2
          generalize (L[k]'hlt).1 = x at c0 d0
          generalize (L[k]'hlt).2 = y at c1 d1
          go_wp2_with fail
          go_quiet (fail)
          have hB1 := below_drewN hbl nq
          clear c0 c1 d0 d1
          go_wp2
          go_roundw
          case rel => exact ⟨k + 1, by omega, by go_num, hB1⟩
          case measure => simp [intOf]; omega
        · go_wp2
          go_ret
          exact ⟨rfl, hbl⟩
def lentA : ByteArray := ⟨#[108, 101, 110, 116]⟩
/-- the marks behind lent lines -/
def mkL : List Ln := (List.range 9).map fun (i : Nat) => (lentA, (i : Int))
theorem mkL_len : mkL.length = 9 := by simp [mkL]
theorem mkL_at (k : Nat) (h : k < mkL.length) : mkL[k] = (lentA, (k : Int)) := by simp [mkL]
theorem mkL_take (k : Nat) (h : k < 9) : mkL.take (k + 1) = mkL.take k ++ [(lentA, (k : Int))] := by
  rw [List.take_succ_eq_append_getElem (by rw [mkL_len]; exact h), mkL_at]
/-- lent lines: the marks lie behind them -/
def LentN (w : World) (v : Value) (L : List Ln) : Prop :=
  ∃ b cap, v = .slice (some ⟨b, 0, none⟩) L.length cap ∧ L.length + 9 ≤ cap ∧ cap ≤ maxLen ∧ ∀ j (hj : j < (L ++ mkL).length), w.cell? ⟨b, j * 2, none⟩ = some (.string (L ++ mkL)[j].1) ∧ w.cell? ⟨b, j * 2 + 1, none⟩ = some (.int .i64 (L ++ mkL)[j].2)
theorem LentN.below {w w' : World} {v : Value} {L : List Ln} (h : LentN w v L) (hb : Below w.heap.size w w') : LentN w' v L := by
  obtain ⟨b, cap, hv, h1, h2, hc⟩ := h
  exact ⟨b, cap, hv, h1, h2, fun j hj => ⟨below_cells hb _ _ (hc j hj).1, below_cells hb _ _ (hc j hj).2⟩⟩
theorem LentN.reads {w : World} {v : Value} {L : List Ln} (h : LentN w v L) : RLn w v L := by
  obtain ⟨b, cap, rfl, h1, hm9, hc⟩ := h
  refine .inr ⟨b, 0, cap, rfl, ⟨by omega, hm9⟩, fun j hj => ?_⟩
  have := hc j (by simp; omega)
  rw [List.getElem_append_left hj] at this
  rw [Nat.zero_add]
  exact this
set_option maxHeartbeats 1000000 in
theorem lentLines_any (v : Value) (L : List Ln) (w : World) (hr : RLn w v L) (hl : L.length ≤ 5864062014634) :
    Calls Tryz.prog 13 #[v] w fun e w' => ∃ v', e = .returned v' ∧ LentN w' v' L ∧ (∀ k, v'.ownBlock = some k → w.heap.size ≤ k) ∧ Below w.heap.size w w' := by
  obtain ⟨ao, cap, rfl⟩ := hr.form
  go_enter Tryz.func13, Tryz.ntmps13
  go_wp2_with (at_builtin; refine wpList_appLs rfl (.tmp 5) (.tmp 6) rfl w.heap.size _ [] rfl (World.ownsRow_nil _ _ _ _) _ L rfl hr (by simp; omega) (Nat.le_refl _) ?hnext)
  case hnext =>
  intro v1 w1 ho1 hg1
  have HO1 := hid ho1
  have HB1 := hid ((Below.refl w.heap.size w).grown hg1 (Nat.le_refl _) (by intro k hk; cases hk))
  clear hr hg1 ho1
  go_wp2_with fail
  go_loopw [3, 4] (fun v i wr => ∃ k : Nat, k ≤ 9 ∧ i = .int .i64 k ∧ OLn wr w.heap.size v (L ++ mkL.take k) ∧ Below w.heap.size w wr) (fun _ i _ => 9 - (intOf i).toNat)
  case atStart => exact ⟨0, by omega, rfl, by simpa using HO1.out, HB1.out⟩
  case round =>
    obtain ⟨k, hk, rfl, ho, hbl⟩ := hrel
    have hz := hbl.size
    have HO := hid ho
    have HB := hid hbl
    clear ho hbl
    by_cases h : k < 9
    · have hlen : (L ++ mkL.take k).length ≤ 5864062014800 := by rw [List.length_append, List.length_take]; omega
      have HT := hid (mkL_take k h)
      generalize mkL.take k = Tk at *
      obtain ⟨W, hW⟩ : ∃ W, wr.alloc (.cells #[.string ⟨#[108, 101, 110, 116]⟩, .int .i64 (k : Int)] 45) = W := ⟨_, rfl⟩
      have RW := hid (show W.heap[wr.heap.size]? = some (.cells #[.string lentA, .int .i64 (k : Int)] 45 (0, 0)) by rw [← hW]; exact heap_alloc_new wr _)
      have BW := hid (show Below wr.heap.size wr W by rw [← hW]; exact (Below.refl _ _).alloc (Nat.le_refl _) _)
      have zW : W.heap.size = wr.heap.size + 1 := by rw [← hW, World.size_alloc]
      have HOW := hid (show OLn W w.heap.size _ (L ++ Tk) from HO.out.old (fun k _ hk => BW.out.block k hk))
      clear HO
      go_wp2_with (at_builtin; refine wpList_appLw rfl (.tmp 12) (.tmp 15) rfl w.heap.size _ (L ++ Tk) rfl HOW.out wr.heap.size (lentA, (k : Int)) rfl RW.out hlen (by omega) ?hnext2)
      case hnext2 =>
      intro v2 w2 ho2 hg2
      have HO2 := hid ho2
      have HB2 := hid ((HB.out.trans (BW.out.mono hz)).grown hg2 (by omega) (fun k hk => HOW.out.block_ge k hk))
      clear ho2 hg2 HOW
      go_wp2_with fail
      go_roundw
      case rel => exact ⟨k + 1, by omega, by go_num, by rw [HT.out]; exact HO2.out, HB2.out⟩
      case measure => simp [intOf]; omega
    · have e9 : k = 9 := by omega
      subst e9
      have hm : mkL.take 9 = mkL := rfl
      rw [hm] at HO
      obtain ⟨g, cap', hv, hc1, hc2, hcell⟩ := HO.out.cells (by simp [mkL])
      have hml : (L ++ mkL).length = L.length + 9 := by rw [List.length_append, mkL_len]
      rw [hml] at hv hc1
      subst hv
      have HC := hid hcell
      have HM := hid hc2
      have HG := hid (HO.out.block_ge g rfl)
      clear hcell hc2 HO hm
      go_wp2
      go_ret
      refine ⟨_, rfl, ⟨g, cap', ?_, hc1, HM.out, HC.out⟩, fun k hk => ?_, HB.out⟩
      · rfl
      · cases hk
        exact HG.out
set_option maxHeartbeats 2000000 in
theorem keptLines_any (v p : Value) (L : List Ln) (w : World) (hv : LentN w v L) (hp : RLn w p L) (hl : L.length ≤ 5864062014634) :
    Calls Tryz.prog 26 #[v, p] w fun e w' => e = .returned (.bool true) ∧ Below w.heap.size w w' := by
  obtain ⟨b, cap', rfl, hc1, hc2, hcell⟩ := hv
  have HC := hid hcell
  have HP := hid hp
  obtain ⟨ao, cap, rfl⟩ := hp.form
  have hcI : ((L.length : Int) + 9) ≤ (cap' : Int) := by omega
  clear hcell hc2 hp
  go_enter Tryz.func26, Tryz.ntmps26
  go_wp2_with fail
  go_loopw [6] (fun i wr => ∃ k : Nat, k ≤ L.length + 9 ∧ i = .int .i64 (k : Int) ∧ Below w.heap.size w wr) (fun i _ => L.length + 9 - (intOf i).toNat)
  case atStart => exact ⟨0, by omega, rfl, Below.refl _ _⟩
  case round =>
    obtain ⟨k, hk, rfl, hbl⟩ := hrel
    have HB := hid hbl
    have hlen : (L ++ mkL).length = L.length + 9 := by rw [List.length_append, mkL_len]
    by_cases hlt : k < L.length + 9
    · have hI : (k : Int) < ((L.length + 9 : Nat) : Int) := by omega
      have hI' : (k : Int) < (L.length : Int) + 9 := by omega
      have hcl := HC.out k (by omega)
      have c0 := below_cells hbl _ _ hcl.1
      have c1 := below_cells hbl _ _ hcl.2
      by_cases hk2 : k < L.length
      · have hI2 : (k : Int) < (L.length : Int) := by omega
        have hI4 : ¬ L.length ≤ k := by omega
        have hI5 : ¬ (L.length : Int) ≤ (k : Int) := by omega
        rcases HP.out with ⟨rfl, _⟩ | ⟨b2, off2, cap2, hv2, hcp, hcell2⟩
        · simp at hk2
        cases hv2
        have hcl2 := hcell2 k hk2
        have d0 := below_cells hbl _ _ hcl2.1
        have d1 := below_cells hbl _ _ hcl2.2
        rw [List.getElem_append_left hk2] at c0 c1
        clear hcl hcl2 hcell2 hbl
        generalize (L[k]'hk2).1 = x at c0 d0
        generalize (L[k]'hk2).2 = y at c1 d1
        go_wp2_with fail
        go_quiet (fail)
        have hB1 := below_drewN HB.out nq
        clear c0 c1 d0 d1
        go_wp2
        go_roundw
        case rel => exact ⟨k + 1, by omega, by go_num, hB1⟩
        case measure => simp [intOf]; omega
      · have hI2 : ¬ (k : Int) < (L.length : Int) := by omega
        have hI3 : (L.length : Int) ≤ (k : Int) := by omega
        have hI4 : L.length ≤ k := by omega
        have hI5 : ¬ k < L.length := by omega
        have em : (L ++ mkL)[k]'(by omega) = (lentA, ((k - L.length : Nat) : Int)) := by
          rw [List.getElem_append_right (by omega), mkL_at]
        rw [em] at c0 c1
        have es : ((k - L.length : Nat) : Int) = (k : Int) - (L.length : Int) := by omega
        rw [es] at c1
        unfold lentA at c0
        clear hcl em es hbl
        go_wp2_with fail
        go_quiet (fail)
        have hB1 := below_drewN HB.out nq
        clear c0 c1
        go_wp2
        go_roundw
        case rel => exact ⟨k + 1, by omega, by go_num, hB1⟩
        case measure => simp [intOf]; omega
    · have hI : ¬ (k : Int) < ((L.length + 9 : Nat) : Int) := by omega
      have hI' : ¬ (k : Int) < (L.length : Int) + 9 := by omega
      clear hbl
      go_wp2
      go_ret
      exact ⟨rfl, HB.out⟩
set_option maxHeartbeats 2000000 in
theorem sameRequest_any (r : Rq) (v1 v2 : Value) (w : World) (h1 : RLn w v1 r.lines) (h2 : RLn w v2 r.lines) (hl : r.lines.length ≤ 5864062014800) :
    Calls Tryz.prog 9 #[.agg (rqC r v1), .agg (rqC r v2)] w fun e w' => e = .returned (.bool true) ∧ Below w.heap.size w w' := by
  unfold rqC
  obtain ⟨a1, p1, e1⟩ := h1.form
  obtain ⟨a2, p2, e2⟩ := h2.form
  obtain ⟨W, hW⟩ : ∃ W, (w.alloc (.cells #[.string r.id, .int .i64 r.kind, v1, .string r.hold, .int .i64 r.ttl, .int .i64 r.now] 24)).alloc (.cells #[.string r.id, .int .i64 r.kind, v2, .string r.hold, .int .i64 r.ttl, .int .i64 r.now] 24) = W := ⟨_, rfl⟩
  have zW : W.heap.size = w.heap.size + 2 := by rw [← hW]; simp
  have BW := hid (show Below w.heap.size w W by rw [← hW]; exact ((Below.refl _ _).alloc (Nat.le_refl _) _).alloc (by simp) _)
  have H1 := hid (show W.heap[w.heap.size]? = some (.cells #[.string r.id, .int .i64 r.kind, v1, .string r.hold, .int .i64 r.ttl, .int .i64 r.now] 24 (0, 0)) by
    rw [← hW]
    exact (((Below.refl (w.alloc (.cells #[.string r.id, .int .i64 r.kind, v1, .string r.hold, .int .i64 r.ttl, .int .i64 r.now] 24)).heap.size _).alloc (Nat.le_refl _) _).block w.heap.size (by simp)).trans (heap_alloc_new w _))
  have H2 := hid (show W.heap[w.heap.size + 1]? = some (.cells #[.string r.id, .int .i64 r.kind, v2, .string r.hold, .int .i64 r.ttl, .int .i64 r.now] 24 (0, 0)) by
    rw [← hW]
    have := heap_alloc_new (w.alloc (.cells #[.string r.id, .int .i64 r.kind, v1, .string r.hold, .int .i64 r.ttl, .int .i64 r.now] 24)) (.cells #[.string r.id, .int .i64 r.kind, v2, .string r.hold, .int .i64 r.ttl, .int .i64 r.now] 24)
    rw [World.size_alloc] at this
    exact this)
  have HS := hid (sameLines_any v1 v2 r.lines W (h1.below BW.out) (h2.below BW.out) hl)
  have c0 : W.cell? ⟨w.heap.size, 0, none⟩ = some (.string r.id) := by rw [Lib.cell_of_heap H1.out]; rfl
  have c1 : W.cell? ⟨w.heap.size, 1, none⟩ = some (.int .i64 r.kind) := by rw [Lib.cell_of_heap H1.out]; rfl
  have c2 : W.cell? ⟨w.heap.size, 2, none⟩ = some (v1) := by rw [Lib.cell_of_heap H1.out]; rfl
  have c3 : W.cell? ⟨w.heap.size, 3, none⟩ = some (.string r.hold) := by rw [Lib.cell_of_heap H1.out]; rfl
  have c4 : W.cell? ⟨w.heap.size, 4, none⟩ = some (.int .i64 r.ttl) := by rw [Lib.cell_of_heap H1.out]; rfl
  have c5 : W.cell? ⟨w.heap.size, 5, none⟩ = some (.int .i64 r.now) := by rw [Lib.cell_of_heap H1.out]; rfl
  have d0 : W.cell? ⟨w.heap.size + 1, 0, none⟩ = some (.string r.id) := by rw [Lib.cell_of_heap H2.out]; rfl
  have d1 : W.cell? ⟨w.heap.size + 1, 1, none⟩ = some (.int .i64 r.kind) := by rw [Lib.cell_of_heap H2.out]; rfl
  have d2 : W.cell? ⟨w.heap.size + 1, 2, none⟩ = some (v2) := by rw [Lib.cell_of_heap H2.out]; rfl
  have d3 : W.cell? ⟨w.heap.size + 1, 3, none⟩ = some (.string r.hold) := by rw [Lib.cell_of_heap H2.out]; rfl
  have d4 : W.cell? ⟨w.heap.size + 1, 4, none⟩ = some (.int .i64 r.ttl) := by rw [Lib.cell_of_heap H2.out]; rfl
  have d5 : W.cell? ⟨w.heap.size + 1, 5, none⟩ = some (.int .i64 r.now) := by rw [Lib.cell_of_heap H2.out]; rfl
  subst e1
  subst e2
  have HW := hid hW
  clear h1 h2
  go_enter Tryz.func9, Tryz.ntmps9
  go_wp2_with fail
  try rw [HW.out]
  refine Calls.mono HS.out ?_
  rintro e w3 ⟨rfl, hb3⟩
  have B3 := hid (BW.out.trans (hb3.mono (by omega)))
  have c3' := below_cells hb3 _ _ c3
  have d3' := below_cells hb3 _ _ d3
  have c4' := below_cells hb3 _ _ c4
  have d4' := below_cells hb3 _ _ d4
  have c5' := below_cells hb3 _ _ c5
  have d5' := below_cells hb3 _ _ d5
  clear hb3 HS hW c0 c1 c2 c3 c4 c5 d0 d1 d2 d3 d4 d5
  go_wp2
  go_ret
  exact ⟨rfl, B3.out⟩
set_option maxHeartbeats 2000000 in
theorem rkept_any (r : Rq) (v1 v2 : Value) (w : World) (h1 : LentN w v1 r.lines) (h2 : RLn w v2 r.lines) (hl : r.lines.length ≤ 5864062014634) :
    Calls Tryz.prog 10 #[.agg (rqC r v1), .agg (rqC r v2)] w fun e w' => e = .returned (.bool true) ∧ Below w.heap.size w w' := by
  obtain ⟨a1, p1, e1⟩ := h1.reads.form
  obtain ⟨a2, p2, e2⟩ := h2.form
  obtain ⟨W, hW⟩ : ∃ W, (w.alloc (.cells #[.string r.id, .int .i64 r.kind, v1, .string r.hold, .int .i64 r.ttl, .int .i64 r.now] 24)).alloc (.cells #[.string r.id, .int .i64 r.kind, v2, .string r.hold, .int .i64 r.ttl, .int .i64 r.now] 24) = W := ⟨_, rfl⟩
  have zW : W.heap.size = w.heap.size + 2 := by rw [← hW]; simp
  have BW := hid (show Below w.heap.size w W by rw [← hW]; exact ((Below.refl _ _).alloc (Nat.le_refl _) _).alloc (by simp) _)
  have H1 := hid (show W.heap[w.heap.size]? = some (.cells #[.string r.id, .int .i64 r.kind, v1, .string r.hold, .int .i64 r.ttl, .int .i64 r.now] 24 (0, 0)) by
    rw [← hW]
    exact (((Below.refl (w.alloc (.cells #[.string r.id, .int .i64 r.kind, v1, .string r.hold, .int .i64 r.ttl, .int .i64 r.now] 24)).heap.size _).alloc (Nat.le_refl _) _).block w.heap.size (by simp)).trans (heap_alloc_new w _))
  have H2 := hid (show W.heap[w.heap.size + 1]? = some (.cells #[.string r.id, .int .i64 r.kind, v2, .string r.hold, .int .i64 r.ttl, .int .i64 r.now] 24 (0, 0)) by
    rw [← hW]
    have := heap_alloc_new (w.alloc (.cells #[.string r.id, .int .i64 r.kind, v1, .string r.hold, .int .i64 r.ttl, .int .i64 r.now] 24)) (.cells #[.string r.id, .int .i64 r.kind, v2, .string r.hold, .int .i64 r.ttl, .int .i64 r.now] 24)
    rw [World.size_alloc] at this
    exact this)
  have HS := hid (sameRequest_any r v1 v2 W (h1.reads.below BW.out) (h2.below BW.out) (by omega))
  have HL1 := hid (h1.below BW.out)
  have HL2 := hid (h2.below BW.out)
  unfold rqC at HS ⊢
  have c0 : W.cell? ⟨w.heap.size, 0, none⟩ = some (.string r.id) := by rw [Lib.cell_of_heap H1.out]; rfl
  have c1 : W.cell? ⟨w.heap.size, 1, none⟩ = some (.int .i64 r.kind) := by rw [Lib.cell_of_heap H1.out]; rfl
  have c2 : W.cell? ⟨w.heap.size, 2, none⟩ = some (v1) := by rw [Lib.cell_of_heap H1.out]; rfl
  have c3 : W.cell? ⟨w.heap.size, 3, none⟩ = some (.string r.hold) := by rw [Lib.cell_of_heap H1.out]; rfl
  have c4 : W.cell? ⟨w.heap.size, 4, none⟩ = some (.int .i64 r.ttl) := by rw [Lib.cell_of_heap H1.out]; rfl
  have c5 : W.cell? ⟨w.heap.size, 5, none⟩ = some (.int .i64 r.now) := by rw [Lib.cell_of_heap H1.out]; rfl
  have d0 : W.cell? ⟨w.heap.size + 1, 0, none⟩ = some (.string r.id) := by rw [Lib.cell_of_heap H2.out]; rfl
  have d1 : W.cell? ⟨w.heap.size + 1, 1, none⟩ = some (.int .i64 r.kind) := by rw [Lib.cell_of_heap H2.out]; rfl
  have d2 : W.cell? ⟨w.heap.size + 1, 2, none⟩ = some (v2) := by rw [Lib.cell_of_heap H2.out]; rfl
  have d3 : W.cell? ⟨w.heap.size + 1, 3, none⟩ = some (.string r.hold) := by rw [Lib.cell_of_heap H2.out]; rfl
  have d4 : W.cell? ⟨w.heap.size + 1, 4, none⟩ = some (.int .i64 r.ttl) := by rw [Lib.cell_of_heap H2.out]; rfl
  have d5 : W.cell? ⟨w.heap.size + 1, 5, none⟩ = some (.int .i64 r.now) := by rw [Lib.cell_of_heap H2.out]; rfl
  have HW := hid hW
  clear h1 h2
  subst e1
  subst e2
  go_enter Tryz.func10, Tryz.ntmps10
  go_wp2_with fail
  try rw [HW.out]
  refine Calls.mono HS.out ?_
  rintro e w3 ⟨rfl, hb3⟩
  have B3 := hid (BW.out.trans (hb3.mono (by omega)))
  have c2' := below_cells hb3 _ _ c2
  have d2' := below_cells hb3 _ _ d2
  have HK := hid (keptLines_any _ _ r.lines w3 (HL1.out.below hb3) (HL2.out.below hb3) hl)
  clear hb3 HS hW c0 c1 c2 c3 c4 c5 d0 d1 d2 d3 d4 d5
  go_wp2_with fail
  refine Calls.mono HK.out ?_
  rintro e w4 ⟨rfl, hb4⟩
  have B4 := hid (B3.out.trans (hb4.mono B3.out.size))
  clear hb4 HK c2' d2'
  go_wp2
  go_ret
  exact ⟨rfl, B4.out⟩
theorem LentN.old {w w' : World} {v : Value} {L : List Ln} {B : Nat} (h : LentN w v L) (hv : ∀ k, v.ownBlock = some k → B ≤ k) (hk : ∀ k, B ≤ k → k < w.heap.size → w'.heap[k]? = w.heap[k]?) : LentN w' v L := by
  obtain ⟨b, cap, rfl, h1, h2, hc⟩ := h
  have hb := hv b rfl
  refine ⟨b, cap, rfl, h1, h2, fun j hj => ?_⟩
  have hlt := World.block_lt_of_cell? _ _ (hc j hj).1
  exact ⟨(World.cell?_of_block (hk b hb hlt)).trans (hc j hj).1, (World.cell?_of_block (hk b hb hlt)).trans (hc j hj).2⟩
set_option maxHeartbeats 2000000 in
theorem rlent_any (r : Rq) (ao : Option Addr) (cap : Nat) (w : World) (hR : RLn w (.slice ao r.lines.length cap) r.lines) (hl : r.lines.length ≤ 5864062014634) :
    Calls Tryz.prog 4 #[rqV r ao cap] w fun e w' => ∃ v', e = .returned (.agg (rqC r v')) ∧ LentN w' v' r.lines ∧ Below w.heap.size w w' := by
  unfold rqV
  obtain ⟨W, hW⟩ : ∃ W, (w.alloc (.cells #[.string r.id, .int .i64 r.kind, .slice ao r.lines.length cap, .string r.hold, .int .i64 r.ttl, .int .i64 r.now] 24)).alloc (.cells #[.string ⟨#[]⟩, .int .i64 0, .slice none 0 0, .string ⟨#[]⟩, .int .i64 0, .int .i64 0] 24) = W := ⟨_, rfl⟩
  have zW : W.heap.size = w.heap.size + 2 := by rw [← hW]; simp
  have BW := hid (show Below w.heap.size w W by rw [← hW]; exact ((Below.refl _ _).alloc (Nat.le_refl _) _).alloc (by simp) _)
  have H1 := hid (show W.heap[w.heap.size]? = some (.cells #[.string r.id, .int .i64 r.kind, .slice ao r.lines.length cap, .string r.hold, .int .i64 r.ttl, .int .i64 r.now] 24 (0, 0)) by
    rw [← hW]
    exact (((Below.refl (w.alloc (.cells #[.string r.id, .int .i64 r.kind, .slice ao r.lines.length cap, .string r.hold, .int .i64 r.ttl, .int .i64 r.now] 24)).heap.size _).alloc (Nat.le_refl _) _).block w.heap.size (by simp)).trans (heap_alloc_new w _))
  have H2 := hid (show W.heap[w.heap.size + 1]? = some (.cells #[.string ⟨#[]⟩, .int .i64 0, .slice none 0 0, .string ⟨#[]⟩, .int .i64 0, .int .i64 0] 24 (0, 0)) by
    rw [← hW]
    have := heap_alloc_new (w.alloc (.cells #[.string r.id, .int .i64 r.kind, .slice ao r.lines.length cap, .string r.hold, .int .i64 r.ttl, .int .i64 r.now] 24)) (.cells #[.string ⟨#[]⟩, .int .i64 0, .slice none 0 0, .string ⟨#[]⟩, .int .i64 0, .int .i64 0] 24)
    rw [World.size_alloc] at this
    exact this)
  have HLt := hid (lentLines_any _ r.lines W (hR.below BW.out) hl)
  have c2 : W.cell? ⟨w.heap.size, 2, none⟩ = some (.slice ao r.lines.length cap) := by rw [Lib.cell_of_heap H1.out]; rfl
  have HW := hid hW
  clear hR
  go_enter Tryz.func4, Tryz.ntmps4
  go_wp2_with fail
  try rw [HW.out]
  refine Calls.mono HLt.out ?_
  rintro e w3 ⟨v3, rfl, hL3, hG3, hb3⟩
  have R3 := hid ((hb3.block w.heap.size (by omega)).trans H1.out)
  have A3 := hid ((hb3.block (w.heap.size + 1) (by omega)).trans H2.out)
  have B3 := hid (BW.out.trans (hb3.mono (by omega)))
  have q2 : w3.cell? ⟨w.heap.size, 2, none⟩ = some (.slice ao r.lines.length cap) := by rw [Lib.cell_of_heap R3.out]; rfl
  have f2 : w3.frozen? ⟨w.heap.size, 2, none⟩ = false := Lib.frozen_of_heap R3.out 2
  have z3 := hb3.size
  obtain ⟨lo, ln, lp, hv3⟩ : ∃ lo ln lp, v3 = .slice lo ln lp := by obtain ⟨b, cp, e, _⟩ := hL3; exact ⟨_, _, _, e⟩
  subst hv3
  obtain ⟨W4, hW4⟩ : ∃ W4, w3.setCell ⟨w.heap.size, 2, none⟩ (.slice lo ln lp) = W4 := ⟨_, rfl⟩
  have R4 := hid (show W4.heap[w.heap.size]? = some (.cells #[.string r.id, .int .i64 r.kind, .slice lo ln lp, .string r.hold, .int .i64 r.ttl, .int .i64 r.now] 24 (0, 0)) by rw [← hW4]; exact heap_setCell_same w3 _ 2 _ _ _ R3.out)
  have A4 := hid (show W4.heap[w.heap.size + 1]? = some (.cells #[.string ⟨#[]⟩, .int .i64 0, .slice none 0 0, .string ⟨#[]⟩, .int .i64 0, .int .i64 0] 24 (0, 0)) by rw [← hW4]; exact (heap_setCell_other w3 ⟨w.heap.size, 2, none⟩ _ _ (by show w.heap.size + 1 ≠ w.heap.size; omega)).trans A3.out)
  have B4 := hid (show Below w.heap.size w W4 by rw [← hW4]; exact B3.out.setCell (Nat.le_refl _) _)
  have z4 : W4.heap.size = w3.heap.size := by rw [← hW4]; simp
  have K4 : Tb w.heap.size w.heap.size w3 W4 := by rw [← hW4]; exact Tb.set w3 ⟨w.heap.size, 2, none⟩ _ (.inl rfl)
  have p0 : W4.cell? ⟨w.heap.size, 0, none⟩ = some (.string r.id) := by rw [Lib.cell_of_heap R4.out]; rfl
  have p1 : W4.cell? ⟨w.heap.size, 1, none⟩ = some (.int .i64 r.kind) := by rw [Lib.cell_of_heap R4.out]; rfl
  have p2 : W4.cell? ⟨w.heap.size, 2, none⟩ = some (.slice lo ln lp) := by rw [Lib.cell_of_heap R4.out]; rfl
  have p3 : W4.cell? ⟨w.heap.size, 3, none⟩ = some (.string r.hold) := by rw [Lib.cell_of_heap R4.out]; rfl
  have p4 : W4.cell? ⟨w.heap.size, 4, none⟩ = some (.int .i64 r.ttl) := by rw [Lib.cell_of_heap R4.out]; rfl
  have p5 : W4.cell? ⟨w.heap.size, 5, none⟩ = some (.int .i64 r.now) := by rw [Lib.cell_of_heap R4.out]; rfl
  have r0 : W4.cell? ⟨w.heap.size + 1, 0, none⟩ = some (.string ⟨#[]⟩) := by rw [Lib.cell_of_heap A4.out]; rfl
  have g0 : W4.frozen? ⟨w.heap.size + 1, 0, none⟩ = false := Lib.frozen_of_heap A4.out 0
  have r1 : W4.cell? ⟨w.heap.size + 1, 1, none⟩ = some (.int .i64 0) := by rw [Lib.cell_of_heap A4.out]; rfl
  have g1 : W4.frozen? ⟨w.heap.size + 1, 1, none⟩ = false := Lib.frozen_of_heap A4.out 1
  have r2 : W4.cell? ⟨w.heap.size + 1, 2, none⟩ = some (.slice none 0 0) := by rw [Lib.cell_of_heap A4.out]; rfl
  have g2 : W4.frozen? ⟨w.heap.size + 1, 2, none⟩ = false := Lib.frozen_of_heap A4.out 2
  have r3 : W4.cell? ⟨w.heap.size + 1, 3, none⟩ = some (.string ⟨#[]⟩) := by rw [Lib.cell_of_heap A4.out]; rfl
  have g3 : W4.frozen? ⟨w.heap.size + 1, 3, none⟩ = false := Lib.frozen_of_heap A4.out 3
  have r4 : W4.cell? ⟨w.heap.size + 1, 4, none⟩ = some (.int .i64 0) := by rw [Lib.cell_of_heap A4.out]; rfl
  have g4 : W4.frozen? ⟨w.heap.size + 1, 4, none⟩ = false := Lib.frozen_of_heap A4.out 4
  have r5 : W4.cell? ⟨w.heap.size + 1, 5, none⟩ = some (.int .i64 0) := by rw [Lib.cell_of_heap A4.out]; rfl
  have g5 : W4.frozen? ⟨w.heap.size + 1, 5, none⟩ = false := Lib.frozen_of_heap A4.out 5
  have HL3 := hid hL3
  have HG3 := hid hG3
  have HB3 := hid hb3
  have HK4 := hid K4
  clear hb3 hL3 HLt c2 hW K4 hG3
  go_wp2_with fail
  obtain ⟨W7, hW7⟩ : ∃ W7, ((((((W4.setCell ⟨w.heap.size + 1, 0, none⟩ (.string r.id)).setCell ⟨w.heap.size + 1, 1, none⟩ (.int .i64 r.kind)).setCell ⟨w.heap.size + 1, 2, none⟩ (.slice lo ln lp)).setCell ⟨w.heap.size + 1, 3, none⟩ (.string r.hold)).setCell ⟨w.heap.size + 1, 4, none⟩ (.int .i64 r.ttl)).setCell ⟨w.heap.size + 1, 5, none⟩ (.int .i64 r.now)) = W7 := ⟨_, rfl⟩
  have E7 : W7.heap[w.heap.size + 1]? = some (.cells #[.string r.id, .int .i64 r.kind, .slice lo ln lp, .string r.hold, .int .i64 r.ttl, .int .i64 r.now] 24 (0, 0)) := by rw [← hW7]; exact (heap_setCell_same _ _ 5 _ _ _ (heap_setCell_same _ _ 4 _ _ _ (heap_setCell_same _ _ 3 _ _ _ (heap_setCell_same _ _ 2 _ _ _ (heap_setCell_same _ _ 1 _ _ _ (heap_setCell_same _ _ 0 _ _ _ A4.out))))))
  have K7 : Tb (w.heap.size + 1) (w.heap.size + 1) W4 W7 := by rw [← hW7]; exact (((((Tb.set W4 ⟨w.heap.size + 1, 0, none⟩ _ (.inl rfl)).trans (Tb.set _ ⟨w.heap.size + 1, 1, none⟩ _ (.inl rfl))).trans (Tb.set _ ⟨w.heap.size + 1, 2, none⟩ _ (.inl rfl))).trans (Tb.set _ ⟨w.heap.size + 1, 3, none⟩ _ (.inl rfl))).trans (Tb.set _ ⟨w.heap.size + 1, 4, none⟩ _ (.inl rfl))).trans (Tb.set _ ⟨w.heap.size + 1, 5, none⟩ _ (.inl rfl))
  have d0 : W7.cell? ⟨w.heap.size + 1, 0, none⟩ = some (.string r.id) := by rw [Lib.cell_of_heap E7]; rfl
  have d1 : W7.cell? ⟨w.heap.size + 1, 1, none⟩ = some (.int .i64 r.kind) := by rw [Lib.cell_of_heap E7]; rfl
  have d2 : W7.cell? ⟨w.heap.size + 1, 2, none⟩ = some (.slice lo ln lp) := by rw [Lib.cell_of_heap E7]; rfl
  have d3 : W7.cell? ⟨w.heap.size + 1, 3, none⟩ = some (.string r.hold) := by rw [Lib.cell_of_heap E7]; rfl
  have d4 : W7.cell? ⟨w.heap.size + 1, 4, none⟩ = some (.int .i64 r.ttl) := by rw [Lib.cell_of_heap E7]; rfl
  have d5 : W7.cell? ⟨w.heap.size + 1, 5, none⟩ = some (.int .i64 r.now) := by rw [Lib.cell_of_heap E7]; rfl
  rw [hW7]
  refine bodyPost_ret (by simp [results, Tryz.results4, go_sem, d0, d1, d2, d3, d4, d5]; try rfl) rfl ?_
  refine ⟨.slice lo ln lp, rfl, ?_, B4.out.trans (K7.lows (B := w.heap.size) (by omega) (by omega))⟩
  refine HL3.out.old HG3.out (fun k hk hk2 => ?_)
  exact (K7.block k (by omega) (by omega) (by omega)).trans (HK4.out.block k hk2 (by omega) (by omega))
end Go.Proofs.YtebkagmlhmdckaaGreat
