/-
  Sqe: Sheets: Parse. Laid by mksqe.py.
-/
import Derived.Test.YtmgfdnccmeahjaaGreatDoorYSqd9
import Derived.Laws.IdiomStrings
namespace Go.Proofs.YtmgfdnccmeahjaaGreatDoor
open Go.RowKit
set_option maxRecDepth 100000
set_option linter.unusedVariables false
set_option linter.unusedSimpArgs false

def zeroR : Array Value := #[.nilFunc, .int .i64 0, .int .i64 0, .int .i64 0, .int .i64 0, .int .i64 0, .int .i64 0, .int .i64 0, .int .i64 0, .int .i64 0, .pointer none, .slice none 0 0, .slice none 0 0, .slice none 0 0, .int .i64 0, .int .i64 0, .nilIface, .bool false]
set_option maxHeartbeats 1000000 in
theorem newReader_any (w : World) : Calls Tryz.prog 49 #[] w fun e w' => e = .returned (.pointer (some ⟨w.heap.size, 0, none⟩)) ∧ w' = w.alloc (.cells zeroR 179) := by
  go_enter Tryz.func49, Tryz.ntmps49
  go_wp2
  go_ret
  exact ⟨rfl, rfl⟩
/-- append of what a slice reads as, nil or not -/
theorem wpList_appX {e st : TypeId} {z : Value} {size bytes : Nat} (inf : (Tryz.prog.info? e).map (fun i => (i.zero, i.size, i.bytes)) = some (some z, size, bytes)) (hst : Tryz.prog.underlying st = some (.slice e)) (hzs : z.cells.size = size) (hk0 : 0 < size)
    {w : World} {ops : Array Oper} {rest : List Oper} {o : Oper} {a : Act} {Q : Exit → Act → World → Prop} (hgd : o.guard = none) (s x : Operand)
    (ho : o.op = .call { callee := .builtin .append, args := #[s, x], argTypes := #[st, st] })
    (base : Nat) (v : Value) (n : Nat) (xs : List Value) (hs : a.eval s = v) (hown : w.ownsRow base e size v n xs) (xv : Value) (m : Nat) (news : List Value) (hx : a.eval x = xv) (hl : news.length = m * size)
    (hr : (xv = .slice none 0 0 ∧ m = 0) ∨ ∃ ad cp, xv = .slice (some ad) m cp ∧ ∀ j u, news[j]? = some u → w.cell? (ad.add j) = some u) (h1 : ∀ u ∈ news, u.oneCell' = true)
    (h63 : n + m ≤ maxLen) (hbytes : (n + m) * bytes ≤ 140737488355328) (hbase : base ≤ w.heap.size)
    (h : ∀ v' w', w'.ownsRow base e size v' (n + m) (xs ++ news) → w.grownBy w' v.ownBlock → (v'.ownBlock = v.ownBlock ∨ v'.ownBlock = some w.heap.size) → wpList Tryz.prog ops Q rest (a.put o.dst v') w') : wpList Tryz.prog ops Q (o :: rest) a w := by
  obtain ⟨i, hi, hz, hsz, hby⟩ := info_parts inf
  rcases hr with ⟨hv, rfl⟩ | ⟨ad, cp, hv, hnews⟩
  · have hn : news = [] := List.eq_nil_of_length_eq_zero (by omega)
    subst hn
    refine wpList_append_own_none hgd s x st ho base e i size hst hi v n xs hs hown (hx.trans hv) ?_
    exact h v w (by rw [List.append_nil, Nat.add_zero]; exact hown) ⟨rfl, rfl, rfl, Nat.le_refl _, fun _ _ _ => rfl⟩ (.inl rfl)
  · exact wpList_append_own_at w hgd s x st ho base e i z size bytes hst hi hz hsz hby hzs hk0 v n xs hs hown ad m cp news (hx.trans hv) hl hnews h1 h63 hbytes hbase (fun v' w' a1 a2 _ a4 => h v' w' a1 a2 a4)

theorem feed_bdd (L : List UInt8) : ∀ (n i : Nat) (s : Rs), L.length - i ≤ n → Bdd s → s.sz ≤ 262144 → Bdd (feed L s i) ∧ (feed L s i).sz ≤ 262144 := by
  intro n
  induction n with
  | zero => intro i s hn hb hs; rw [feed_end L s i (by omega)]; exact ⟨hb, hs⟩
  | succ n ih =>
    intro i s hn hb hs
    by_cases h : i < L.length ∧ s.er = 0
    · rw [feed_go L s i h.1 h.2]
      exact ih (i + 1) _ (by omega) (hb.take _) (take_sz s _ hs hb.cur)
    · have e : feed L s i = s := by
        rcases Nat.lt_or_ge i L.length with h1 | h1
        · exact feed_er L s i (fun h2 => h ⟨h1, h2⟩)
        · exact feed_end L s i h1
      rw [e]
      exact ⟨hb, hs⟩
/-- what Parse answers -/
def PaR (A : Nat → Addr) (w' : World) (L : List UInt8) (rv ev : Value) : Prop :=
  ((rdA L).2.2.1 = 0 ∧ ev = .nilIface ∧ ∃ V, TR w' rv V (rdA L).1) ∨ ((rdA L).2.2.1 ≠ 0 ∧ ((rdA L).2.2.1 ≤ 8 ∨ (rdA L).2.2.1 = 20) ∧ rv = .slice none 0 0 ∧ FT A w' ev (rdA L).2.2.1 (plc L (rdA L).2.2.2))
/-- Feed and Close together -/
theorem parse_two (L : List UInt8) : ((rdA L).2.2.1 = 0 ∧ (clP { fdP L with td := [] }).er = 0 ∧ (fdP L).td ++ (clP { fdP L with td := [] }).td = (rdA L).1)
    ∨ ((rdA L).2.2.1 ≠ 0 ∧ ((rdA L).2.2.1 ≤ 8 ∨ (rdA L).2.2.1 = 20) ∧ (clP { fdP L with td := [] }).er = (rdA L).2.2.1 ∧ (clP { fdP L with td := [] }).fp = plc L (rdA L).2.2.2) := by
  have e : (clP { fdP L with td := [] }).er = (clP (fdP L)).er ∧ (clP { fdP L with td := [] }).fp = (clP (fdP L)).fp ∧ ((fdP L).er = 0 → clP { fdP L with td := [] } = clP (fdP L)) := by
    unfold clP
    by_cases h : (fdP L).er = 0
    · simp [h]
    · simp [h]
  rcases parse_one L with ⟨h1, h2, h3, h4⟩ | ⟨h1, h2, h3, h4, _⟩
  · left
    rw [e.1, e.2.2 h2]
    exact ⟨h1, h3, h4⟩
  · right
    rw [e.1, e.2.1]
    exact ⟨h1, h2, h3, h4⟩
/-- the blocks that Parse leaves alone -/
def Gp (w : World) : Nat → Prop := fun k => k < w.heap.size ∨ k = w.heap.size + 1
theorem below_kg {w W w' : World} (h : Kg (Gp w) W w') (h0 : Below w.heap.size w W) : Below w.heap.size w w' := ⟨h.os.trans h0.os, h.tape.trans h0.tape, h.output.trans h0.output, Nat.le_trans h0.size h.size, fun k hk => (h.block k (.inl hk)).trans (h0.block k hk)⟩
theorem TR.src {w : World} {tv : Value} {V : List Value} {T : List (List (List UInt8))} (h : TR w tv V T) : (tv = .slice none 0 0 ∧ V.length = 0) ∨ ∃ ad cp, tv = .slice (some ad) V.length cp ∧ ∀ j u, V[j]? = some u → w.cell? (ad.add j) = some u := by
  have hc := fun g hg => World.ownsRow.cells h.own (g := g) hg
  rcases h.own.2 with ⟨hv, h0⟩ | ⟨g, cap, cur, rfl, _⟩
  · exact .inl ⟨hv, h0⟩
  · exact .inr ⟨_, cap, rfl, hc g rfl⟩
theorem TR.one {w : World} {tv : Value} {V : List Value} {T : List (List (List UInt8))} (h : TR w tv V T) : ∀ u ∈ V, u.oneCell' = true := by
  intro u hu
  obtain ⟨j, hj, rfl⟩ := List.mem_iff_getElem.1 hu
  obtain ⟨a, c, e⟩ := own_slice (h.rws.row j (by rw [← h.rws.len]; exact hj) hj)
  rw [e]
  rfl
theorem RwS.app {w : World} {V V2 : List Value} {T T2 : List (List (List UInt8))} (h : RwS w V T) (h2 : RwS w V2 T2) : RwS w (V ++ V2) (T ++ T2) := by
  refine ⟨by simp [h.len, h2.len], fun j hj hv => ?_⟩
  have hl := h.len
  by_cases hlt : j < T.length
  · have e1 : (T ++ T2)[j] = T[j] := List.getElem_append_left hlt
    have e2 : (V ++ V2)[j] = V[j]'(by omega) := List.getElem_append_left (by omega)
    rw [e1, e2]
    exact h.row j hlt (by omega)
  · have e1 : (T ++ T2)[j] = T2[j - T.length]'(by simp at hj; omega) := List.getElem_append_right (by omega)
    have e2 : (V ++ V2)[j] = V2[j - V.length]'(by simp at hv; omega) := List.getElem_append_right (by omega)
    rw [e1, e2]
    have := h2.row (j - T.length) (by simp at hj; omega) (by simp at hv; omega)
    simp only [hl] at this ⊢
    exact this

set_option maxHeartbeats 4000000 in
theorem parse_any (A : Nat → Addr) (s : ByteArray) (w : World) (hE : HE A w) :
    Calls Tryz.prog 18 #[.string s] w fun e w' => ∃ rv ev, e = .returned (.tuple #[rv, ev]) ∧ PaR A w' s.data.toList rv ev ∧ Below w.heap.size w w' := by
  have kc := fun w (s : ByteArray) => run_bytes_of_string (P := Tryz.prog) w 9 92 5 s Tryz.underlying9 Tryz.underlying92 Tryz.underlying5
  have HNR := hid newReader_any
  have HE := hid hE
  have hds : s.data.toList.length = s.size := by rw [Array.length_toList]; rfl
  obtain ⟨L, hLd⟩ : ∃ L, L = s.data.toList := ⟨_, rfl⟩
  clear hE
  by_cases hs : s.size ≤ 262145
  · skip
    have hcut : cut s.data.toList = (s).data.toList := by unfold cut; rw [hds, Nat.min_eq_left hs, List.take_of_length_le (by omega)]
    have hn : (s).data.toList.length = s.size := by exact hds
    obtain ⟨W, hW⟩ : ∃ W, W = ((w.alloc (.cells zeroR 179)).alloc (.cells (bytesRow (s) (grownCap (w.alloc (.cells zeroR 179)) s.size 0 5)) 5 ((bytesRow (s) (grownCap (w.alloc (.cells zeroR 179)) s.size 0 5)).size, (bytesRow (s) (grownCap (w.alloc (.cells zeroR 179)) s.size 0 5)).size + 1))).drew := ⟨_, rfl⟩
    have z1 : (w.alloc (.cells zeroR 179)).heap.size = w.heap.size + 1 := by simp
    have hWz : W.heap.size = w.heap.size + 2 := by rw [hW]; show ((w.alloc (.cells zeroR 179)).alloc _).heap.size = _; simp
    have hWo : ∀ k, k < w.heap.size → W.heap[k]? = w.heap[k]? := fun k hk => by
      rw [hW]
      exact (Lib.alloc_old (w.alloc (.cells zeroR 179)) _ k (by rw [z1]; omega)).trans (Lib.alloc_old w _ k hk)
    have hWr : RZ W w.heap.size := by
      rw [hW]
      exact (Lib.alloc_old (w.alloc (.cells zeroR 179)) _ w.heap.size (by rw [z1]; omega)).trans (heap_alloc_new w _)
    have hWb : BsA W (w.heap.size + 1) 0 (s).data.toList := by
      intro i hi
      have hnew := heap_alloc_new (w.alloc (.cells zeroR 179)) (.cells (bytesRow (s) (grownCap (w.alloc (.cells zeroR 179)) s.size 0 5)) 5 ((bytesRow (s) (grownCap (w.alloc (.cells zeroR 179)) s.size 0 5)).size, (bytesRow (s) (grownCap (w.alloc (.cells zeroR 179)) s.size 0 5)).size + 1))
      rw [z1] at hnew
      have hnew' : W.heap[w.heap.size + 1]? = some (.cells (bytesRow (s) (grownCap (w.alloc (.cells zeroR 179)) s.size 0 5)) 5 ((bytesRow (s) (grownCap (w.alloc (.cells zeroR 179)) s.size 0 5)).size, (bytesRow (s) (grownCap (w.alloc (.cells zeroR 179)) s.size 0 5)).size + 1)) := by rw [hW]; exact hnew
      rw [Nat.zero_add, Lib.cell_of_heap hnew', bytesRow_at (s) _ i (by simpa using hi)]
      simp
    have hWB : Below w.heap.size w W := ⟨by rw [hW]; rfl, by rw [hW]; rfl, by rw [hW]; rfl, by omega, hWo⟩
    have hLea : Lea A (Gp w) W := ⟨HE.out.kept (G := fun k => k < w.heap.size) ⟨hWB.os, hWB.tape, hWB.output, hWB.size, fun k hk => hWo k hk⟩ (fun k hk => HE.out.lt k hk), fun k hk => .inl (HE.out.lt k hk)⟩
    have HFe := hid (feed_new A (Gp w) w.heap.size (w.heap.size + 1) (grownCap (w.alloc (.cells zeroR 179)) s.size 0 5) (s).data.toList W hLea hWr (by rintro k (hk | hk) <;> omega) (by rintro (hk | hk) <;> omega) (.inr rfl) hWb (by rw [hn]; exact grownCap_ge _ _ _ _) (by rw [hn]; omega))
    rw [hn] at HFe
    have HLea := hid hLea
    have HWB := hid hWB
    have HWz := hid hWz
    have HC := hid hcut
    clear hLea hWB hWb hWr hWo hWz z1 hcut hn
    go_enter Tryz.func18, Tryz.ntmps18
    go_wp2_with fail
    refine Calls.mono (HNR.out _) ?_
    rintro e w1 ⟨rfl, hw1⟩
    replace hw1 := hw1.symm
    subst hw1
    go_wp2_with fail
    rw [← hW]
    clear hW
    refine Calls.mono HFe.out ?_
    rintro e w2 ⟨tv, V, ev, rfl, ht, hx, hk, hnv⟩
    obtain ⟨a1, c1, rfl⟩ := own_slice ht.own
    have hfd : feed (s).data.toList s0 0 = fdP s.data.toList := by unfold fdP; rw [HC.out]
    rw [hfd] at ht hx
    have hbd := feed_bdd (cut s.data.toList) _ 0 s0 (Nat.le_refl _) s0_bdd (by decide)
    have hb1 : (fdP s.data.toList).cur.length ≤ 4096 := hbd.1.cur
    have hb2 : (fdP s.data.toList).cs.length ≤ 900000 := by have := hbd.1.cs; have := hbd.2; unfold fdP; omega
    have hb3 : (fdP s.data.toList).rw ≤ 1000000 := by have := hbd.1.rw; have := hbd.2; unfold fdP; omega
    have hb4 : V.length ≤ 1000000 := by have := hbd.1.td; have := hbd.2; rw [ht.rws.len]; unfold fdP; omega
    have HCl := hid (close_any A (Gs (Gp w) (.slice a1 V.length c1) V) w.heap.size { fdP s.data.toList with td := [] } w2 ⟨(HLea.out.kept hk).er, fun k hk => .inl (HLea.out.gl k hk)⟩ hx rfl hb1 hb2 hb3)
    have HK := hid hk
    have HT := hid ht
    have HNo := hid hnv
    clear hx hk ht hfd hbd hb1 hb2 hb3 hnv
    go_wp2_with fail
    refine Calls.mono HCl.out ?_
    rintro e w3 ⟨tv2, V2, ev2, rfl, ht2, hf2, hk3, _⟩
    have HT3 := hid (HT.out.kept hk3)
    have HK3 := hid (hk3.mono (G' := Gp w) fun k hk => .inl hk)
    obtain ⟨a2, c2, rfl⟩ := own_slice ht2.own
    clear hk3
    rcases parse_two s.data.toList with ⟨p1, p2, p3⟩ | ⟨p1, p2, p3, p4⟩
    · rcases hf2 with ⟨_, rfl⟩ | ⟨hf, _⟩
      · have hb5 : V2.length ≤ 1 ∨ V2.length ≤ 1000000 := by
          right
          have hN := nxt_any { fdP s.data.toList with td := [] } none (feed_bdd (cut s.data.toList) _ 0 s0 (Nat.le_refl _) s0_bdd (by decide)).1.cur
          have hcl : (clP { fdP s.data.toList with td := [] }).td.length ≤ 1 := by
            unfold clP
            split
            · exact hN.td
            · simp
          exact Nat.le_trans (Nat.le_of_eq ht2.rws.len) (Nat.le_trans hcl (by decide))
        have h63 : V.length + V2.length ≤ maxLen := by unfold maxLen; omega
        have h24 : (V.length + V2.length) * 24 ≤ 140737488355328 := by omega
        have HT2 := hid ht2
        have HP := hid (And.intro p1 p3)
        clear ht2 p1 p2 p3 hb5 hb4
        go_wp2_with (at_builtin; refine wpList_appX ssi Tryz.underlying22 rfl (by decide) rfl (.tmp 29) (.tmp 30) rfl 0 _ V.length V rfl HT3.out.own _ V2.length V2 rfl (by simp) HT2.out.src HT2.out.one h63 h24 (Nat.zero_le _) ?n1)
        case n1 =>
        intro v' w4 ho4 hg4 hb4
        obtain ⟨a4, c4, rfl⟩ := own_slice ho4
        go_wp2
        go_ret2
        refine ⟨_, _, rfl, .inl ⟨HP.out.1, rfl, V ++ V2, ?_⟩, below_kg (((HK.out.trans HK3.out)).grown (by have := HWz.out; rintro k (hk | hk) <;> omega) hg4 ?_) HWB.out⟩
        · refine ⟨by rw [List.length_append]; exact ho4, ?_⟩
          rw [← HP.out.2]
          have hrow : ∀ {v : Value} {n : Nat} {xs : List Value}, w3.ownsRow 0 9 1 v n xs → w4.ownsRow 0 9 1 v n xs := fun {v n xs} ho => own_of ho fun g hg => hg4.block g (World.ownsRow.lt ho g hg).2 (fun e => own_two ho HT3.out.own (by decide) g hg e.symm)
          exact RwS.app ⟨HT3.out.rws.len, fun j hj hv => hrow (HT3.out.rws.row j hj hv)⟩ ⟨HT2.out.rws.len, fun j hj hv => hrow (HT2.out.rws.row j hj hv)⟩
        · intro k hk hg
          exact HNo.out k hk hg
      · exact absurd p2 hf
    · rcases hf2 with ⟨hf, _⟩ | ⟨hf, g, rfl, hg⟩
      · exact absurd (p3.symm.trans hf) p1
      · have HP := hid (And.intro p1 (And.intro p2 (And.intro p3 p4)))
        have HG := hid hg
        clear ht2 p1 p2 p3 p4 hf hg
        go_wp2
        go_ret2
        refine ⟨_, _, rfl, .inr ⟨HP.out.1, HP.out.2.1, rfl, .inr ⟨HP.out.1, g, rfl, ?_⟩⟩, below_kg (HK.out.trans HK3.out) HWB.out⟩
        have := HG.out
        rw [HP.out.2.2.1, HP.out.2.2.2] at this
        exact this
  · skip
    have hcut : cut s.data.toList = (s.extract 0 262145).data.toList := by unfold cut; rw [hds, Nat.min_eq_right (by omega), ByteArray.data_extract, Array.toList_extract]; simp [List.extract]
    have hn : (s.extract 0 262145).data.toList.length = (min 262145 s.size) := by rw [ByteArray.data_extract, Array.toList_extract]; simp [List.extract, hds]
    obtain ⟨W, hW⟩ : ∃ W, W = ((w.alloc (.cells zeroR 179)).alloc (.cells (bytesRow (s.extract 0 262145) (grownCap (w.alloc (.cells zeroR 179)) (min 262145 s.size) 0 5)) 5 ((bytesRow (s.extract 0 262145) (grownCap (w.alloc (.cells zeroR 179)) (min 262145 s.size) 0 5)).size, (bytesRow (s.extract 0 262145) (grownCap (w.alloc (.cells zeroR 179)) (min 262145 s.size) 0 5)).size + 1))).drew := ⟨_, rfl⟩
    have z1 : (w.alloc (.cells zeroR 179)).heap.size = w.heap.size + 1 := by simp
    have hWz : W.heap.size = w.heap.size + 2 := by rw [hW]; show ((w.alloc (.cells zeroR 179)).alloc _).heap.size = _; simp
    have hWo : ∀ k, k < w.heap.size → W.heap[k]? = w.heap[k]? := fun k hk => by
      rw [hW]
      exact (Lib.alloc_old (w.alloc (.cells zeroR 179)) _ k (by rw [z1]; omega)).trans (Lib.alloc_old w _ k hk)
    have hWr : RZ W w.heap.size := by
      rw [hW]
      exact (Lib.alloc_old (w.alloc (.cells zeroR 179)) _ w.heap.size (by rw [z1]; omega)).trans (heap_alloc_new w _)
    have hWb : BsA W (w.heap.size + 1) 0 (s.extract 0 262145).data.toList := by
      intro i hi
      have hnew := heap_alloc_new (w.alloc (.cells zeroR 179)) (.cells (bytesRow (s.extract 0 262145) (grownCap (w.alloc (.cells zeroR 179)) (min 262145 s.size) 0 5)) 5 ((bytesRow (s.extract 0 262145) (grownCap (w.alloc (.cells zeroR 179)) (min 262145 s.size) 0 5)).size, (bytesRow (s.extract 0 262145) (grownCap (w.alloc (.cells zeroR 179)) (min 262145 s.size) 0 5)).size + 1))
      rw [z1] at hnew
      have hnew' : W.heap[w.heap.size + 1]? = some (.cells (bytesRow (s.extract 0 262145) (grownCap (w.alloc (.cells zeroR 179)) (min 262145 s.size) 0 5)) 5 ((bytesRow (s.extract 0 262145) (grownCap (w.alloc (.cells zeroR 179)) (min 262145 s.size) 0 5)).size, (bytesRow (s.extract 0 262145) (grownCap (w.alloc (.cells zeroR 179)) (min 262145 s.size) 0 5)).size + 1)) := by rw [hW]; exact hnew
      rw [Nat.zero_add, Lib.cell_of_heap hnew', bytesRow_at (s.extract 0 262145) _ i (by simpa using hi)]
      simp
    have hWB : Below w.heap.size w W := ⟨by rw [hW]; rfl, by rw [hW]; rfl, by rw [hW]; rfl, by omega, hWo⟩
    have hLea : Lea A (Gp w) W := ⟨HE.out.kept (G := fun k => k < w.heap.size) ⟨hWB.os, hWB.tape, hWB.output, hWB.size, fun k hk => hWo k hk⟩ (fun k hk => HE.out.lt k hk), fun k hk => .inl (HE.out.lt k hk)⟩
    have HFe := hid (feed_new A (Gp w) w.heap.size (w.heap.size + 1) (grownCap (w.alloc (.cells zeroR 179)) (min 262145 s.size) 0 5) (s.extract 0 262145).data.toList W hLea hWr (by rintro k (hk | hk) <;> omega) (by rintro (hk | hk) <;> omega) (.inr rfl) hWb (by rw [hn]; exact grownCap_ge _ _ _ _) (by rw [hn]; omega))
    rw [hn] at HFe
    have HLea := hid hLea
    have HWB := hid hWB
    have HWz := hid hWz
    have HC := hid hcut
    clear hLea hWB hWb hWr hWo hWz z1 hcut hn
    go_enter Tryz.func18, Tryz.ntmps18
    go_wp2_with fail
    refine Calls.mono (HNR.out _) ?_
    rintro e w1 ⟨rfl, hw1⟩
    replace hw1 := hw1.symm
    subst hw1
    go_wp2_with fail
    rw [← hW]
    clear hW
    refine Calls.mono HFe.out ?_
    rintro e w2 ⟨tv, V, ev, rfl, ht, hx, hk, hnv⟩
    obtain ⟨a1, c1, rfl⟩ := own_slice ht.own
    have hfd : feed (s.extract 0 262145).data.toList s0 0 = fdP s.data.toList := by unfold fdP; rw [HC.out]
    rw [hfd] at ht hx
    have hbd := feed_bdd (cut s.data.toList) _ 0 s0 (Nat.le_refl _) s0_bdd (by decide)
    have hb1 : (fdP s.data.toList).cur.length ≤ 4096 := hbd.1.cur
    have hb2 : (fdP s.data.toList).cs.length ≤ 900000 := by have := hbd.1.cs; have := hbd.2; unfold fdP; omega
    have hb3 : (fdP s.data.toList).rw ≤ 1000000 := by have := hbd.1.rw; have := hbd.2; unfold fdP; omega
    have hb4 : V.length ≤ 1000000 := by have := hbd.1.td; have := hbd.2; rw [ht.rws.len]; unfold fdP; omega
    have HCl := hid (close_any A (Gs (Gp w) (.slice a1 V.length c1) V) w.heap.size { fdP s.data.toList with td := [] } w2 ⟨(HLea.out.kept hk).er, fun k hk => .inl (HLea.out.gl k hk)⟩ hx rfl hb1 hb2 hb3)
    have HK := hid hk
    have HT := hid ht
    have HNo := hid hnv
    clear hx hk ht hfd hbd hb1 hb2 hb3 hnv
    go_wp2_with fail
    refine Calls.mono HCl.out ?_
    rintro e w3 ⟨tv2, V2, ev2, rfl, ht2, hf2, hk3, _⟩
    have HT3 := hid (HT.out.kept hk3)
    have HK3 := hid (hk3.mono (G' := Gp w) fun k hk => .inl hk)
    obtain ⟨a2, c2, rfl⟩ := own_slice ht2.own
    clear hk3
    rcases parse_two s.data.toList with ⟨p1, p2, p3⟩ | ⟨p1, p2, p3, p4⟩
    · rcases hf2 with ⟨_, rfl⟩ | ⟨hf, _⟩
      · have hb5 : V2.length ≤ 1 ∨ V2.length ≤ 1000000 := by
          right
          have hN := nxt_any { fdP s.data.toList with td := [] } none (feed_bdd (cut s.data.toList) _ 0 s0 (Nat.le_refl _) s0_bdd (by decide)).1.cur
          have hcl : (clP { fdP s.data.toList with td := [] }).td.length ≤ 1 := by
            unfold clP
            split
            · exact hN.td
            · simp
          exact Nat.le_trans (Nat.le_of_eq ht2.rws.len) (Nat.le_trans hcl (by decide))
        have h63 : V.length + V2.length ≤ maxLen := by unfold maxLen; omega
        have h24 : (V.length + V2.length) * 24 ≤ 140737488355328 := by omega
        have HT2 := hid ht2
        have HP := hid (And.intro p1 p3)
        clear ht2 p1 p2 p3 hb5 hb4
        go_wp2_with (at_builtin; refine wpList_appX ssi Tryz.underlying22 rfl (by decide) rfl (.tmp 29) (.tmp 30) rfl 0 _ V.length V rfl HT3.out.own _ V2.length V2 rfl (by simp) HT2.out.src HT2.out.one h63 h24 (Nat.zero_le _) ?n1)
        case n1 =>
        intro v' w4 ho4 hg4 hb4
        obtain ⟨a4, c4, rfl⟩ := own_slice ho4
        go_wp2
        go_ret2
        refine ⟨_, _, rfl, .inl ⟨HP.out.1, rfl, V ++ V2, ?_⟩, below_kg (((HK.out.trans HK3.out)).grown (by have := HWz.out; rintro k (hk | hk) <;> omega) hg4 ?_) HWB.out⟩
        · refine ⟨by rw [List.length_append]; exact ho4, ?_⟩
          rw [← HP.out.2]
          have hrow : ∀ {v : Value} {n : Nat} {xs : List Value}, w3.ownsRow 0 9 1 v n xs → w4.ownsRow 0 9 1 v n xs := fun {v n xs} ho => own_of ho fun g hg => hg4.block g (World.ownsRow.lt ho g hg).2 (fun e => own_two ho HT3.out.own (by decide) g hg e.symm)
          exact RwS.app ⟨HT3.out.rws.len, fun j hj hv => hrow (HT3.out.rws.row j hj hv)⟩ ⟨HT2.out.rws.len, fun j hj hv => hrow (HT2.out.rws.row j hj hv)⟩
        · intro k hk hg
          exact HNo.out k hk hg
      · exact absurd p2 hf
    · rcases hf2 with ⟨hf, _⟩ | ⟨hf, g, rfl, hg⟩
      · exact absurd (p3.symm.trans hf) p1
      · have HP := hid (And.intro p1 (And.intro p2 (And.intro p3 p4)))
        have HG := hid hg
        clear ht2 p1 p2 p3 p4 hf hg
        go_wp2
        go_ret2
        refine ⟨_, _, rfl, .inr ⟨HP.out.1, HP.out.2.1, rfl, .inr ⟨HP.out.1, g, rfl, ?_⟩⟩, below_kg (HK.out.trans HK3.out) HWB.out⟩
        have := HG.out
        rw [HP.out.2.2.1, HP.out.2.2.2] at this
        exact this
end Go.Proofs.YtmgfdnccmeahjaaGreatDoor
