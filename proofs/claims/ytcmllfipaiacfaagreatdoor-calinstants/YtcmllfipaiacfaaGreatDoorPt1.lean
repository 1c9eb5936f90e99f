/-
  The document's parts: two lists that grow side by side.
-/
import Derived.Test.YtcmllfipaiacfaaGreatDoorFn1
import Derived.Maps.AppendAt
namespace Go.Proofs.YtcmllfipaiacfaaGreatDoor
open Go.RowKit
set_option maxRecDepth 100000
set_option linter.unusedSimpArgs false

def iv (L : List Int) : List Value := L.map fun z => .int .i64 z
theorem iv_len (L : List Int) : (iv L).length = L.length * 1 := by simp [iv]
theorem iv_app (L : List Int) (y : Int) : iv (L ++ [y]) = iv L ++ [.int .i64 y] := by simp [iv]
/-- two lists of numbers, each in memory of its own -/
structure Two (base : Nat) (w : World) (v p : Value) (V R : List Int) : Prop where
  l : w.ownsRow base 3 1 v V.length (iv V)
  r : w.ownsRow base 3 1 p R.length (iv R)
  ne : ∀ k, v.ownBlock = some k → p.ownBlock ≠ some k
theorem own_keep {w w' : World} {base : Nat} {e : TypeId} {size : Nat} {v : Value} {n : Nat} {xs : List Value} (h : w.ownsRow base e size v n xs) (hk : ∀ k, v.ownBlock = some k → k < w.heap.size → w'.heap[k]? = w.heap[k]?) : w'.ownsRow base e size v n xs := by
  refine ⟨h.1, ?_⟩
  rcases h.2 with hn | ⟨g, cap, cur, rfl, hbs, hgg, rest⟩
  · exact .inl hn
  · exact .inr ⟨g, cap, cur, rfl, hbs, (hk g rfl (Array.getElem?_eq_some_iff.1 hgg).1).trans hgg, rest⟩
theorem Two.below {base : Nat} {w w' : World} {v p : Value} {V R : List Int} (h : Two base w v p V R) (hb : Below w.heap.size w w') : Two base w' v p V R :=
  ⟨own_keep h.l (fun k _ hk => hb.block k hk), own_keep h.r (fun k _ hk => hb.block k hk), h.ne⟩
theorem Two.none (base : Nat) (w : World) : Two base w (.slice none 0 0) (.slice none 0 0) [] [] := ⟨World.ownsRow_nil _ _ _ _, World.ownsRow_nil _ _ _ _, fun k h => by cases h⟩
theorem int_info : (Tryz.prog.info? 3).map (fun i => (i.zero, i.size, i.bytes)) = some (some (.int .i64 0), 1, 8) := by kernel_rfl
theorem below_grown {base : Nat} {w w' : World} {v : Value} (hg : w.grownBy w' v.ownBlock) (hv : ∀ k, v.ownBlock = some k → base ≤ k) (hb : base ≤ w.heap.size) : Below base w w' :=
  ⟨hg.os, hg.tape, hg.output, hg.size, fun k hk => hg.block k (by omega) (fun e => by have := hv k e.symm; omega)⟩
theorem wpList_two_l {w : World} {ops : Array Oper} {rest : List Oper} {o : Oper} {a : Act} {Q : Exit → Act → World → Prop} (hgd : o.guard = none) (s x : Operand)
    (ho : o.op = .call { callee := .builtin .append, args := #[s, x], argTypes := #[82, 82] })
    (base : Nat) (v p : Value) (V R : List Int) (y : Int) (hs : a.eval s = v) (hT : Two base w v p V R) (g : Nat) (hx : a.eval x = .slice (some ⟨g, 0, none⟩) 1 1) (hg : w.heap[g]? = some (.cells #[.int .i64 y] 3 (0, 0)))
    (hlen : V.length ≤ 1000) (hbase : base ≤ w.heap.size)
    (h : ∀ v' w', Two base w' v' p (V ++ [y]) R → Below base w w' → wpList Tryz.prog ops Q rest (a.put o.dst v') w') : wpList Tryz.prog ops Q (o :: rest) a w := by
  obtain ⟨i, hi, hz, hsz, hby⟩ := info_parts int_info
  refine wpList_append_own_at w hgd s x 82 ho base 3 i (.int .i64 0) 1 8 Tryz.underlying82 hi hz hsz hby rfl (by decide) v V.length (iv V) hs hT.l ⟨g, 0, none⟩ 1 1 [.int .i64 y] hx rfl (fun j u hj => by
      match j, hj with
      | 0, hj =>
        simp at hj
        subst hj
        show w.cell? ⟨g, 0 + 0, none⟩ = _
        rw [Lib.cell_of_heap hg]
        rfl) (by intro u hu; simp at hu; subst hu; rfl) (by unfold maxLen; omega) (by omega) hbase ?_
  intro v' w' ho' hgr _ hat
  refine h v' w' ⟨?_, ?_, ?_⟩ (below_grown hgr (fun k hk => (World.ownsRow.lt hT.l k hk).1) hbase)
  · rw [iv_app, List.length_append]
    exact ho'
  · exact own_keep hT.r (fun k hk hlt => hgr.block k hlt (fun e => hT.ne k e.symm hk))
  · intro k hk hp
    rcases hat with e | e
    · exact hT.ne k (e ▸ hk) hp
    · rw [e] at hk
      have := (World.ownsRow.lt hT.r k hp).2
      cases hk
      omega
theorem wpList_two_r {w : World} {ops : Array Oper} {rest : List Oper} {o : Oper} {a : Act} {Q : Exit → Act → World → Prop} (hgd : o.guard = none) (s x : Operand)
    (ho : o.op = .call { callee := .builtin .append, args := #[s, x], argTypes := #[82, 82] })
    (base : Nat) (v p : Value) (V R : List Int) (y : Int) (hs : a.eval s = p) (hT : Two base w v p V R) (g : Nat) (hx : a.eval x = .slice (some ⟨g, 0, none⟩) 1 1) (hg : w.heap[g]? = some (.cells #[.int .i64 y] 3 (0, 0)))
    (hlen : R.length ≤ 1000) (hbase : base ≤ w.heap.size)
    (h : ∀ p' w', Two base w' v p' V (R ++ [y]) → Below base w w' → wpList Tryz.prog ops Q rest (a.put o.dst p') w') : wpList Tryz.prog ops Q (o :: rest) a w :=
  wpList_two_l hgd s x ho base p v R V y hs ⟨hT.r, hT.l, fun k h1 h2 => hT.ne k h2 h1⟩ g hx hg hlen hbase (fun p' w' h1 h2 => h p' w' ⟨h1.r, h1.l, fun k h3 h4 => h1.ne k h4 h3⟩ h2)
/-- the cells of such a list -/
theorem own_cells {w : World} {base : Nat} {v : Value} {L : List Int} (h : w.ownsRow base 3 1 v L.length (iv L)) (h0 : 0 < L.length) : ∃ g cap, v = .slice (some ⟨g, 0, none⟩) L.length cap ∧ L.length ≤ cap ∧ ∀ j (hj : j < L.length), w.cell? ⟨g, j, none⟩ = some (.int .i64 L[j]) := by
  rcases h.2 with ⟨_, hn⟩ | ⟨g, cap, cur, rfl, hbs, hgg, hc, hm, hs, ht⟩
  · omega
  · refine ⟨g, cap, rfl, hc, fun j hj => ?_⟩
    rw [Lib.cell_of_heap hgg]
    have e : (cur.toList.take (L.length * 1))[j]? = some (.int .i64 L[j]) := by
      rw [ht]
      simp [iv, hj]
    rw [List.getElem?_take] at e
    rw [if_pos (by omega)] at e
    simpa using e
/-- the places of the parts -/
def PT (l : List UInt8) : Nat → List Nat → Prop
  | a, [] => a = l.length
  | a, q :: r => a < l.length ∧ q = (if l[a]? = some 58 then a + 1 else a) ∧ q + 2 ≤ l.length ∧ (∀ c ∈ sub l q 2, isDB c = true) ∧ PT l (q + 2) r
set_option maxHeartbeats 4000000 in
theorem parts_any (t : ByteArray) (ht : t.size ≤ 64) (a : Nat) (ps : List Nat) (hps : ps.length ≤ 10) (hP : PT t.data.toList a ps) (w : World) :
    Calls Tryz.prog 64 #[.string t, .int .i64 (a : Int)] w fun e w' => ∃ v p, e = .returned (.tuple #[v, p]) ∧ Two w.heap.size w' v p (ps.map fun q => (n2 t q : Int)) (ps.map fun (q : Nat) => (q : Int)) ∧ Below w.heap.size w w' := by
  have lt : t.data.toList.length = t.size := Array.length_toList
  have LT := hid lt
  have HP := hid hP
  clear lt hP
  go_enter Tryz.func64, Tryz.ntmps64
  go_wp2_with fail
  go_loopw [1, 6, 7] (fun i v p wr => ∃ (x : Nat) (D R : List Nat), i = .int .i64 (x : Int) ∧ D ++ R = ps ∧ PT t.data.toList x R ∧ Two w.heap.size wr v p (D.map fun q => (n2 t q : Int)) (D.map fun (q : Nat) => (q : Int)) ∧ Below w.heap.size w wr) (fun i _ _ _ => t.size - (intOf i).toNat)
  case atStart => exact ⟨a, [], ps, rfl, rfl, HP.out, Two.none _ _, Below.refl _ _⟩
  case round =>
    clear HP
    obtain ⟨x, D, R, rfl, hDR, hPT, hTw, hb⟩ := hrel
    have HT := hid hTw
    have HB := hid hb
    have hz := hb.size
    have hDl : D.length ≤ 10 := by rw [← hDR] at hps; simp at hps; omega
    clear hTw hb
    match R, hPT with
    | [], hPT =>
      have hx : x = t.size := by rw [← LT.out]; exact hPT
      have e1 : ¬ (x : Int) < (t.size : Int) := by omega
      have HD := hid (show D = ps by simpa using hDR)
      clear hPT hDR
      go_wp2
      go_ret2
      exact ⟨_, _, rfl, by rw [← HD.out]; exact HT.out, HB.out⟩
    | q :: R', hPT =>
      obtain ⟨hxl, hq, hq2, hdg, hPn⟩ := hPT
      rw [LT.out] at hxl hq2
      have e1 : (x : Int) < (t.size : Int) := by omega
      have bt := byte_at t x hxl
      have hget : t.data.toList[x]? = some (t[x]'hxl) := by rw [List.getElem?_eq_getElem (by rw [LT.out]; exact hxl), bt]
      rw [hget] at hq
      have HPn := hid hPn
      have HDR := hid hDR
      have HM := hid (fun w => num_any t q 2 ht hq2 (by omega) hdg w)
      have Hn : n2 t q ≤ 99 := n2_le t q hq2 hdg
      have EN : nm (sub t.data.toList q 2) = n2 t q := rfl
      rw [EN] at HM
      obtain ⟨nv, hnv⟩ : ∃ nv, n2 t q = nv := ⟨_, rfl⟩
      rw [hnv] at HM Hn
      have HNV := hid hnv
      obtain ⟨b, hbx⟩ : ∃ b, t[x]'hxl = b := ⟨_, rfl⟩
      rw [hbx] at hq
      clear hPn hDR hget hdg EN hnv bt
      by_cases h58 : b = 58
      · skip
        rw [if_pos (by rw [h58])] at hq
        subst h58
        subst hq
        have HM2 := hid (show ∀ w, Calls Tryz.prog 57 #[.string t, .int .i64 ((x : Int) + 1), .int .i64 2] w fun e w' => e = .returned (.int .i64 (nv : Int)) ∧ w' = w from fun w => by
          have := HM.out w
          rw [show ((x + 1 : Nat) : Int) = ((x : Int) + 1) by omega] at this
          exact this)
        clear HM
        go_wp2_with fail
        refine (HM2.out _).mono ?_
        rintro e w2 ⟨rfl, rfl⟩
        obtain ⟨W, hW⟩ : ∃ W, w2.alloc (.cells #[.int .i64 (nv : Int)] 3) = W := ⟨_, rfl⟩
        have RW := hid (show W.heap[w2.heap.size]? = some (.cells #[.int .i64 (nv : Int)] 3 (0, 0)) by rw [← hW]; exact heap_alloc_new w2 _)
        have bW : Below w2.heap.size w2 W := by rw [← hW]; exact alloc_below _ _
        have zW := bW.size
        have TW := hid (HT.out.below bW)
        have BW := hid (HB.out.trans (bW.mono hz))
        have HW := hid hW
        clear bW hW HM2 HT HB
        go_wp2_with (at_builtin; refine wpList_two_l rfl (.tmp 22) (.tmp 24) rfl w.heap.size _ _ _ _ (nv : Int) rfl (by first | exact TW.out | (rw [HW.out]; exact TW.out)) w2.heap.size rfl (by first | exact RW.out | (rw [HW.out]; exact RW.out)) (by simp; omega) (by first | omega | (rw [HW.out]; omega)) ?hn1)
        case hn1 =>
        intro v' w3 hT3 hb3
        try rw [HW.out] at hb3
        have HT3 := hid hT3
        have HB3 := hid (BW.out.trans hb3)
        have z3 := HB3.out.size
        clear hT3 hb3 TW BW RW HW
        obtain ⟨W5, hW5⟩ : ∃ W5, w3.alloc (.cells #[.int .i64 ((x : Int) + 1)] 3) = W5 := ⟨_, rfl⟩
        have RW := hid (show W5.heap[w3.heap.size]? = some (.cells #[.int .i64 ((x : Int) + 1)] 3 (0, 0)) by rw [← hW5]; exact heap_alloc_new w3 _)
        have bW : Below w3.heap.size w3 W5 := by rw [← hW5]; exact alloc_below _ _
        have zW5 := bW.size
        have TW := hid (HT3.out.below bW)
        have BW := hid (HB3.out.trans (bW.mono z3))
        have HW := hid hW5
        clear bW hW5 HT3 HB3
        go_wp2_with (at_builtin; refine wpList_two_r rfl (.tmp 26) (.tmp 28) rfl w.heap.size _ _ _ _ ((x : Int) + 1) rfl (by first | exact TW.out | (rw [HW.out]; exact TW.out)) w3.heap.size rfl (by first | exact RW.out | (rw [HW.out]; exact RW.out)) (by simp; omega) (by first | omega | (rw [HW.out]; omega)) ?hn2)
        case hn2 =>
        intro p' w4 hT4 hb4
        try rw [HW.out] at hb4
        have HT4 := hid hT4
        have HB4 := hid (BW.out.trans hb4)
        clear hT4 hb4 TW BW RW HW
        go_wp2
        go_roundw
        case rel => exact ⟨x + 1 + 2, D ++ [x + 1], R', by go_num, by rw [List.append_assoc]; exact HDR.out, HPn.out, by
          have := HT4.out
          rw [← HNV.out] at this
          simpa using this, HB4.out⟩
        case measure => simp [intOf]; omega
      · skip
        rw [if_neg (fun e => h58 (by cases e; rfl))] at hq
        subst hq
        have hbn : ((b.toNat : Int) == 58) = false := by
          rw [beq_eq_false_iff_ne]
          intro e
          exact h58 (UInt8.toNat_inj.1 (by show b.toNat = 58; omega))
        have hbn2 : ¬ (b.toNat : Int) = 58 := fun e => h58 (UInt8.toNat_inj.1 (by show b.toNat = 58; omega))
        have HM2 := hid (show ∀ w, Calls Tryz.prog 57 #[.string t, .int .i64 (q : Int), .int .i64 2] w fun e w' => e = .returned (.int .i64 (nv : Int)) ∧ w' = w from fun w => by
          have := HM.out w
          rw [show ((q : Nat) : Int) = (q : Int) by omega] at this
          exact this)
        clear HM
        go_wp2_with fail
        refine (HM2.out _).mono ?_
        rintro e w2 ⟨rfl, rfl⟩
        obtain ⟨W, hW⟩ : ∃ W, w2.alloc (.cells #[.int .i64 (nv : Int)] 3) = W := ⟨_, rfl⟩
        have RW := hid (show W.heap[w2.heap.size]? = some (.cells #[.int .i64 (nv : Int)] 3 (0, 0)) by rw [← hW]; exact heap_alloc_new w2 _)
        have bW : Below w2.heap.size w2 W := by rw [← hW]; exact alloc_below _ _
        have zW := bW.size
        have TW := hid (HT.out.below bW)
        have BW := hid (HB.out.trans (bW.mono hz))
        have HW := hid hW
        clear bW hW HM2 HT HB
        go_wp2_with (at_builtin; refine wpList_two_l rfl (.tmp 22) (.tmp 24) rfl w.heap.size _ _ _ _ (nv : Int) rfl (by first | exact TW.out | (rw [HW.out]; exact TW.out)) w2.heap.size rfl (by first | exact RW.out | (rw [HW.out]; exact RW.out)) (by simp; omega) (by first | omega | (rw [HW.out]; omega)) ?hn1)
        case hn1 =>
        intro v' w3 hT3 hb3
        try rw [HW.out] at hb3
        have HT3 := hid hT3
        have HB3 := hid (BW.out.trans hb3)
        have z3 := HB3.out.size
        clear hT3 hb3 TW BW RW HW
        obtain ⟨W5, hW5⟩ : ∃ W5, w3.alloc (.cells #[.int .i64 (q : Int)] 3) = W5 := ⟨_, rfl⟩
        have RW := hid (show W5.heap[w3.heap.size]? = some (.cells #[.int .i64 (q : Int)] 3 (0, 0)) by rw [← hW5]; exact heap_alloc_new w3 _)
        have bW : Below w3.heap.size w3 W5 := by rw [← hW5]; exact alloc_below _ _
        have zW5 := bW.size
        have TW := hid (HT3.out.below bW)
        have BW := hid (HB3.out.trans (bW.mono z3))
        have HW := hid hW5
        clear bW hW5 HT3 HB3
        go_wp2_with (at_builtin; refine wpList_two_r rfl (.tmp 26) (.tmp 28) rfl w.heap.size _ _ _ _ (q : Int) rfl (by first | exact TW.out | (rw [HW.out]; exact TW.out)) w3.heap.size rfl (by first | exact RW.out | (rw [HW.out]; exact RW.out)) (by simp; omega) (by first | omega | (rw [HW.out]; omega)) ?hn2)
        case hn2 =>
        intro p' w4 hT4 hb4
        try rw [HW.out] at hb4
        have HT4 := hid hT4
        have HB4 := hid (BW.out.trans hb4)
        clear hT4 hb4 TW BW RW HW
        go_wp2
        go_roundw
        case rel => exact ⟨q + 2, D ++ [q], R', by go_num, by rw [List.append_assoc]; exact HDR.out, HPn.out, by
          have := HT4.out
          rw [← HNV.out] at this
          simpa using this, HB4.out⟩
        case measure => simp [intOf]; omega
end Go.Proofs.YtcmllfipaiacfaaGreatDoor
