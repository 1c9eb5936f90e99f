/-
  codec's forms with a reader: a list of lines. Laid by mkcr3.py.
-/
import Derived.Test.YtfhicemfhkhjaabCr2
import Derived.Test.YtfhicemfhkhjaabCw5
import Derived.Deep.RegionLaw
namespace Go.Proofs.Ytfhicemfhkhjaab
open Go.RowKit
set_option maxRecDepth 100000

/-- lines as cells -/
def lc (L : List Ln) : List Value := L.flatMap fun x => [.string x.1, .int .i64 x.2]
theorem lc_len (L : List Ln) : (lc L).length = L.length * 2 := by
  induction L with
  | nil => rfl
  | cons x t ih =>
    have e : lc (x :: t) = [.string x.1, .int .i64 x.2] ++ lc t := rfl
    rw [e, List.length_append, ih, List.length_cons]
    show 2 + t.length * 2 = (t.length + 1) * 2
    omega
theorem lc_app (L M : List Ln) : lc (L ++ M) = lc L ++ lc M := by simp [lc]
theorem lc_one (L : List Ln) : ∀ u ∈ lc L, u.oneCell' = true := by
  intro u hu
  obtain ⟨x, _, hx⟩ := List.mem_flatMap.1 hu
  simp at hx
  rcases hx with rfl | rfl <;> rfl
theorem lninfo : (Try.prog.info? 75).map (fun i => (i.zero, i.size, i.bytes)) = some (some (.agg #[.string ⟨#[]⟩, .int .i64 0]), 2, 24) := by kernel_rfl
/-- lines in a row of the call's own -/
def OLn (w : World) (base : Nat) (v : Value) (L : List Ln) : Prop := w.ownsRow base 75 2 v L.length (lc L)
/-- the first j lines from place i on: the error, its place or where they end, the lines -/
def fLs (l : List UInt8) (most i : Nat) : Nat → Nat × Nat × List Ln
  | 0 => (0, i, [])
  | j + 1 =>
    if (fLs l most i j).1 ≠ 0 then ((fLs l most i j).1, (fLs l most i j).2.1, [])
    else if (fLn l most (fLs l most i j).2.1).1 ≠ 0 then ((fLn l most (fLs l most i j).2.1).1, (fLn l most (fLs l most i j).2.1).2.1, [])
    else (0, (fLn l most (fLs l most i j).2.1).2.1, (fLs l most i j).2.2 ++ [(⟨(fLn l most (fLs l most i j).2.1).2.2.1.toArray⟩, (fLn l most (fLs l most i j).2.1).2.2.2)])
theorem fLs_stuck (l : List UInt8) (most i j : Nat) (h : (fLs l most i j).1 ≠ 0) : ∀ k, j ≤ k → (fLs l most i k).1 = (fLs l most i j).1 ∧ (fLs l most i k).2.1 = (fLs l most i j).2.1 := by
  intro k hk
  induction hk with
  | refl => exact ⟨rfl, rfl⟩
  | step _ ih =>
    rename_i k _
    have e : fLs l most i (k + 1) = ((fLs l most i k).1, (fLs l most i k).2.1, []) := if_pos (by rw [ih.1]; exact h)
    rw [Nat.succ_eq_add_one, e]
    exact ih
/-- a list of lines from place i on -/
def fLi (l : List UInt8) (most i : Nat) : Nat × Nat × List Ln :=
  if (ct (l.drop i) most).2.2 ≠ 0 then ((ct (l.drop i) most).2.2, i + (ct (l.drop i) most).2.1, []) else fLs l most (i + (ct (l.drop i) most).2.1) (ct (l.drop i) most).1
theorem step_app {ops : Array Oper} {o : Oper} {a : Act} {w : World} {K : Act → World → Prop} {Q : Exit → Act → World → Prop} {E : Prop} (hg : o.guard = none) (s x : Operand) (hop : o.op = Op.call { callee := Callee.builtin Builtin.append, args := #[s, x], argTypes := #[22, 22] }) (hty : o.type = 22)
    {v xv v' : Value} {w' : World} (hs : a.eval s = v) (hx : a.eval x = xv) (hrun : (Builtin.append_ #[22, 22] 22 #[v, xv]).run Try.prog w = .ok v' w') (hK : K (a.put o.dst v') w') :
    if Region.wanted o (yielded ops a.tmps) = true then Oper.wp Try.prog o a w K Q else E := by
  rw [if_pos (show Region.wanted o (yielded ops a.tmps) = true by simp [Region.wanted, hg])]
  unfold Oper.wp
  simp [execOp, hop, hty, resolve, invoke, builtin, hs, hx, hrun, Result.andThen]
  exact hK
theorem set_self {row : Array Value} {po : Nat} {u : Value} (h : row[po]? = some u) : row.setIfInBounds po u = row := by
  obtain ⟨hlt, e⟩ := Array.getElem?_eq_some_iff.1 h
  apply Array.ext
  · simp
  · intro j h1 h2
    rw [Array.getElem_setIfInBounds]
    split
    · rename_i hc; subst hc; exact e.symm
    · rfl
theorem fLs_len (l : List UInt8) (most i : Nat) : ∀ j, (fLs l most i j).1 = 0 → (fLs l most i j).2.2.length = j
  | 0, _ => rfl
  | j + 1, h => by
    unfold fLs at h ⊢
    split at h
    · rename_i hc; exact (hc h).elim
    · rename_i hc
      split at h
      · rename_i hd; exact (hd h).elim
      · rename_i hd
        rw [if_neg hc, if_neg hd]
        have := fLs_len l most i j (by simpa using hc)
        simp [this]
theorem tb_two {rb qb g : Nat} {w W w' : World} (h : Tb rb qb w W) (k : Tb rb g W w') (hg : w.heap.size ≤ g) : Tb rb qb w w' :=
  ⟨k.os.trans h.os, k.tape.trans h.tape, k.output.trans h.output, Nat.le_trans h.size k.size, fun j hj h1 h2 => (k.block j (Nat.lt_of_lt_of_le hj h.size) h1 (by omega)).trans (h.block j hj h1 h2)⟩
/-- behind a list of lines that is read into the cell po of block qb -/
def De (rb b off cap : Nat) (l : List UInt8) (i most qb po : Nat) (row : Array Value) (T : TypeId) (w : World) (e : Ending) (w' : World) : Prop :=
  Tb rb qb w w' ∧ (((fLi l most i).1 = 0 ∧ e = .returned (.tuple #[]) ∧ RD w' rb b off cap l (fLi l most i).2.1 most ∧ ∃ v', w'.heap[qb]? = some (.cells (row.setIfInBounds po v') T (0, 0)) ∧ OLn w' w.heap.size v' (fLi l most i).2.2)
  ∨ ((fLi l most i).1 ≠ 0 ∧ e = flt ((fLi l most i).1 : Int) ((fLi l most i).2.1 : Int) ∧ ∃ ao n c, w'.heap[qb]? = some (.cells (row.setIfInBounds po (.slice ao n c)) T (0, 0))))
theorem dl_ok {rb qb g po j i0 most q cap2 : Nat} {w W w' : World} {l : List UInt8} {row cur : Array Value} {T : TypeId} {v2 a : Value} (hT : Tb rb qb w W) (hQ : W.heap[qb]? = some (.cells (row.setIfInBounds po v2) T (0, 0))) (k : Tb rb g W w') (hrw : W.heap[g]? = some (.cells cur 75 (0, 0)))
    (hz : (fLs l most i0 j).1 = 0) (hz4 : (fLn l most (fLs l most i0 j).2.1).1 = 0)
    (hw : w' = ((((W.drewN q).setCell ⟨rb, 1, none⟩ a).setCell ⟨g, j * 2, none⟩ (.string ⟨(fLn l most (fLs l most i0 j).2.1).2.2.1.toArray⟩)).setCell ⟨rb, 1, none⟩ (.int .i64 ((fLn l most (fLs l most i0 j).2.1).2.1 : Int))).setCell ⟨g, j * 2 + 1, none⟩ (.int .i64 (fLn l most (fLs l most i0 j).2.1).2.2.2))
    (hlen : (fLs l most i0 j).2.2.length = j) (hS : j + 1 ≤ cap2 ∧ cap2 ≤ maxLen ∧ cur.size = cap2 * 2 ∧ w.heap.size ≤ g ∧ cur.toList.take ((j + 1) * 2) = lc (fLs l most i0 j).2.2 ++ [.string ⟨#[]⟩, .int .i64 0]) (hq : qb ≠ rb ∧ qb < w.heap.size) (hgb : g ≠ rb) :
    (fLs l most i0 (j + 1)).1 = 0 ∧ (fLs l most i0 (j + 1)).2.1 = (fLn l most (fLs l most i0 j).2.1).2.1 ∧ Tb rb qb w w' ∧ w'.heap[qb]? = some (.cells (row.setIfInBounds po v2) T (0, 0)) ∧ OLn w' w.heap.size (.slice (some ⟨g, 0, none⟩) (j + 1) cap2) (fLs l most i0 (j + 1)).2.2 := by
  obtain ⟨h1, h2, h3, h4, h5⟩ := hS
  have e1 : fLs l most i0 (j + 1) = (0, (fLn l most (fLs l most i0 j).2.1).2.1, (fLs l most i0 j).2.2 ++ [(⟨(fLn l most (fLs l most i0 j).2.1).2.2.1.toArray⟩, (fLn l most (fLs l most i0 j).2.1).2.2.2)]) := (if_neg (fun e => e hz)).trans (if_neg (fun e => e hz4))
  rw [e1]
  refine ⟨rfl, rfl, tb_two hT k h4, ?_, ?_⟩
  · refine (k.block qb ?_ hq.1 (by omega)).trans hQ
    have := hT.size
    omega
  · generalize (fLn l most (fLs l most i0 j).2.1).2.2.2 = nn at *
    generalize (⟨(fLn l most (fLs l most i0 j).2.1).2.2.1.toArray⟩ : ByteArray) = ss at *
    generalize (fLs l most i0 j).2.2 = L at *
    have g1 : (((W.drewN q).setCell ⟨rb, 1, none⟩ a).setCell ⟨g, j * 2, none⟩ (.string ss)).heap[g]? = some (.cells (cur.setIfInBounds (j * 2) (.string ss)) 75 (0, 0)) := heap_setCell_same _ g (j * 2) _ _ _ ((heap_setCell_other (W.drewN q) ⟨rb, 1, none⟩ g a hgb).trans hrw)
    have g2 := (heap_setCell_other (((W.drewN q).setCell ⟨rb, 1, none⟩ a).setCell ⟨g, j * 2, none⟩ (.string ss)) ⟨rb, 1, none⟩ g (.int .i64 ((fLn l most (fLs l most i0 j).2.1).2.1 : Int)) hgb).trans g1
    have g3 := heap_setCell_same _ g (j * 2 + 1) _ _ (.int .i64 nn) g2
    rw [← hw] at g3
    have hll : (L ++ [(ss, nn)]).length = j + 1 := by simp [hlen]
    unfold OLn
    rw [hll]
    refine ⟨by rw [lc_len, hll], .inr ⟨g, cap2, _, rfl, h4, g3, h1, h2, by simp [h3], ?_⟩⟩
    have ll : (lc L).length = j * 2 := by rw [lc_len, hlen]
    rw [Array.toList_setIfInBounds, Array.toList_setIfInBounds, List.take_set, List.take_set, h5, lc_app, List.set_append_right _ _ (by omega), ll, Nat.sub_self, List.set_append_right _ _ (by omega), ll, show j * 2 + 1 - j * 2 = 1 by omega]
    rfl
set_option maxHeartbeats 2000000 in
theorem dlist_any (cb qb po : Nat) (row : Array Value) (T : TypeId) (w : World) {rb b off cap i most : Nat} {l : List UInt8} (h : RD w rb b off cap l i most) (hcp : l.length ≤ 100000000000000) (hm : most ≤ 1000000000)
    (hcb : w.cell? ⟨cb, 0, none⟩ = some (ir rb)) (hcw : cb ≠ rb ∧ cb ≠ qb) (hq : w.heap[qb]? = some (.cells row T (0, 0))) (hrow : row[po]? = some (.slice none 0 0)) (hqb : qb ≠ rb ∧ qb ≠ b) (hbw : b < w.heap.size) :
    Calls Try.prog 93 #[ir rb, .pointer (some ⟨qb, po, none⟩), .func (.func 94) #[] #[.pointer (some ⟨cb, 0, none⟩)]] w fun e w' => De rb b off cap l i most qb po row T w e w' := by
  have hmf : ∀ (fn : Fn) (first cap : Array Value) (w : World), (Instr.makeFunc fn first cap).run Try.prog w = .ok (.func fn first cap) w := fun _ _ _ _ => rfl
  have HC := hid (fun q => dcount_any 0 (w.drewN q) (h.drewN q) hcp hm)
  have hle := at_le h.at' (ct_le (l.drop i) most)
  have hp : w.cell? ⟨qb, po, none⟩ = some (.slice none 0 0) := by rw [cell_of_row w qb po _ _ _ hq]; exact hrow
  have H := hid h
  have HCB := hid hcb
  have HCW := hid hcw
  have HQ := hid hq
  have HQB := hid hqb
  have hna := nr_count rb
  have hme := mr_count
  clear h hcw hcb hq hqb
  go_enter Try.func93, Try.ntmps93
  go_wp2_with fail
  refine wp_region_any (by kernel_rfl) ?_
  try (change wpAny _ _ _ _ _ _ _ (World.drew _))
  refine wpAny_take (i := 0) (v := ir rb) rfl (by kernel_rfl) (by kernel_rfl) (by kernel_rfl) (fun _ _ _ h => h) (Or.inl ⟨by rfl, by intro w; go_simp⟩) ?_
  refine wpAny_take (i := 1) (v := .pointer (some ⟨qb, po, none⟩)) rfl (by kernel_rfl) (by kernel_rfl) (by kernel_rfl) (fun _ _ _ h => h) (Or.inl ⟨by rfl, by intro w; go_simp⟩) ?_
  refine wpAny_take (i := 2) (v := .pointer (some ⟨qb, po, none⟩)) rfl (by kernel_rfl) (by kernel_rfl) (by kernel_rfl) (fun _ _ _ h => h) (Or.inl ⟨by rfl, by intro w; go_simp⟩) ?_
  refine wpAny_take (i := 9) (v := .int .i64 0) rfl (by kernel_rfl) (by kernel_rfl) (by kernel_rfl) (fun _ _ _ h => h) (Or.inl ⟨by rfl, by intro w; go_simp⟩) ?_
  refine wpAny_take (i := 5) (v := .func (.method "larder/codec.count") #[ir rb] #[]) rfl (by kernel_rfl) (by kernel_rfl) (by kernel_rfl) (fun _ _ _ h => h) (Or.inl ⟨by rfl, by intro w; go_simp⟩) ?_
  refine wpAny_take (i := 6) (v := .func (.method "larder/codec.count") #[ir rb] #[]) rfl (by kernel_rfl) (by kernel_rfl) (by kernel_rfl) (fun _ _ _ h => h) (Or.inl ⟨by rfl, by intro w; go_simp⟩) ?_
  refine wpAny_take (i := 7) (v := ir rb) rfl (by kernel_rfl) (by kernel_rfl) (by kernel_rfl) (fun _ _ _ h => h) (Or.inl ⟨by rfl, by intro w; go_simp⟩) ?_
  refine wpAny_ready (rs := [3]) (by kernel_rfl) (by simp) ?_
  refine AllReady.cons rfl (fun K hK => ?_) AllReady.nil
  go_simp
  refine hK _ _ ?_
  clear hK K
  refine wpAny_take (i := 4) (v := .int .i64 0) rfl (by kernel_rfl) (by kernel_rfl) (by kernel_rfl) (fun _ _ _ h => h) (Or.inl ⟨by rfl, by intro w; go_simp⟩) ?_
  refine wpAny_ready (rs := [8]) (by kernel_rfl) (by simp) ?_
  refine AllReady.cons rfl (fun K hK => ?_) AllReady.nil
  go_simp
  go_wp2_with fail
  refine (HC.out _).mono ?_
  rintro e w2 ⟨q, ⟨he, rfl, hw2⟩ | ⟨he, rfl, hw2⟩⟩
  · have HTb2 := hid (show Tb rb qb w w2 from (Tb.drewN rb qb w 1).trans (by rw [hw2]; exact (Tb.drewN rb qb _ q).trans (Tb.set _ ⟨rb, 1, none⟩ _ (.inl rfl))))
    have HR2 := hid (show RD w2 rb b off cap l (i + (ct (l.drop i) most).2.1) most from by
      rw [hw2]
      refine ⟨heap_setCell_same _ rb 1 _ _ _ H.out.top, H.out.room, hle, H.out.ne, fun j hj => ?_⟩
      rw [World.cell?_setCell_other _ _ _ _ (fun e => H.out.ne (by injection e with e; exact e.symm))]
      exact H.out.bytes j hj)
    have HQ2 := hid (show w2.heap[qb]? = some (.cells row T (0, 0)) from by
      rw [hw2, heap_setCell_other _ ⟨rb, 1, none⟩ qb _ HQB.out.1]
      exact HQ.out)
    have HFi := hid (show fLi l most i = fLs l most (i + (ct (l.drop i) most).2.1) (ct (l.drop i) most).1 from if_neg (fun e => e he))
    have hcn : (ct (l.drop i) most).1 ≤ most := by
      have he2 := he
      unfold ct at he2 ⊢
      split at he2
      · cases he2
      · rename_i hc; rw [if_neg hc]; omega
    have HRo := hid hrow
    have HE := hid he
    clear he hw2 HC hp hrow
    obtain ⟨i0, hi0⟩ : ∃ i0, i + (ct (l.drop i) most).2.1 = i0 := ⟨_, rfl⟩
    obtain ⟨n, hn⟩ : ∃ n, (ct (l.drop i) most).1 = n := ⟨_, rfl⟩
    rw [hi0] at HR2 hle
    rw [hi0, hn] at HFi
    rw [hn] at hcn
    rw [hn]
    clear hi0 hn
    go_wp2_with fail
    refine wpAny_done (by kernel_rfl) ?_ _
    go_wp2_with fail
    go_loopw [6, 7, 17] (fun _ _ vi wx => ∃ (j : Nat) (v' : Value), j ≤ n ∧ vi = .int .i64 (j : Int) ∧ (fLs l most i0 j).1 = 0 ∧ RD wx rb b off cap l (fLs l most i0 j).2.1 most ∧ Tb rb qb w wx ∧ wx.heap[qb]? = some (.cells (row.setIfInBounds po v') T (0, 0)) ∧ OLn wx w.heap.size v' (fLs l most i0 j).2.2) (fun _ _ vi _ => n - (intOf vi).toNat)
    case atStart => exact ⟨0, .slice none 0 0, Nat.zero_le _, rfl, rfl, HR2.out, HTb2.out, by rw [set_self HRo.out]; exact HQ2.out, World.ownsRow_nil _ _ _ _⟩
    case round =>
      obtain ⟨j, v', hj, rfl, hz, hR, hTb, hQ, hO⟩ := hrel
      by_cases hlt : j < n
      · have hI : (j : Int) < (n : Int) := by omega
        have hIb : ((j : Int) == (j : Int)) = true := by simp
        have hlen := fLs_len l most i0 j hz
        obtain ⟨aoj, capj, hv'⟩ : ∃ ao c, v' = .slice ao j c := by
          rcases hO.2 with ⟨rfl, h0⟩ | ⟨g, c, cur, rfl, _⟩
          · exact ⟨none, 0, by rw [← hlen, h0]⟩
          · exact ⟨_, c, by rw [hlen]⟩
        subst hv'
        have hpo : po < row.size := (Array.getElem?_eq_some_iff.1 HRo.out).1
        have cq : wr.cell? ⟨qb, po, none⟩ = some (.slice aoj j capj) := by
          rw [cell_of_row wr qb po _ _ _ hQ, Array.getElem?_setIfInBounds, if_pos rfl, if_pos hpo]
        obtain ⟨W1, hW1⟩ : ∃ W1, wr.alloc (.cells #[.string ⟨#[]⟩, .int .i64 0] 75) = W1 := ⟨_, rfl⟩
        obtain ⟨WA, hWA⟩ : ∃ WA, W1.drew.alloc (.cells #[.string ⟨#[]⟩, .int .i64 0] 75) = WA := ⟨_, rfl⟩
        have z1 : W1.heap.size = wr.heap.size + 1 := by rw [← hW1, World.size_alloc]
        have hb1 : Below wr.heap.size wr W1 := by rw [← hW1]; exact (Below.refl _ _).alloc (Nat.le_refl _) _
        have hbA : Below wr.heap.size wr WA := by
          have : Below W1.drew.heap.size W1.drew WA := by rw [← hWA]; exact (Below.refl _ _).alloc (Nat.le_refl _) _
          exact hb1.drew.trans (this.mono (by show wr.heap.size ≤ W1.heap.size; omega))
        have zA : WA.heap.size = wr.heap.size + 2 := by rw [← hWA, World.size_alloc]; show W1.heap.size + 1 = _; omega
        have hOA : WA.ownsRow w.heap.size 75 2 (.slice aoj j capj) j (lc (fLs l most i0 j).2.2) := by
          have h1 := World.ownsRow.kept hO (show wr.grownBy WA none from ⟨hbA.os, hbA.tape, hbA.output, hbA.size, fun k hk _ => hbA.block k hk⟩) (by cases (Value.slice aoj j capj).ownBlock <;> simp)
          rw [hlen] at h1
          exact h1
        have cq1 : W1.drew.cell? ⟨qb, po, none⟩ = some (.slice aoj j capj) := below_cells hb1 _ _ cq
        have cqW : WA.cell? ⟨qb, po, none⟩ = some (.slice aoj j capj) := below_cells hbA _ _ cq
        have hzl : W1.heap[wr.heap.size]? = some (.cells #[.string ⟨#[]⟩, .int .i64 0] 75 (0, 0)) := by rw [← hW1]; exact heap_alloc_new wr _
        have cz0 : W1.drew.cell? ⟨wr.heap.size, 0, none⟩ = some (.string ⟨#[]⟩) := by show W1.cell? _ = _; rw [cell_of_row _ _ _ _ _ _ hzl]; rfl
        have cz1 : W1.drew.cell? ⟨wr.heap.size, 1, none⟩ = some (.int .i64 0) := by show W1.cell? _ = _; rw [cell_of_row _ _ _ _ _ _ hzl]; rfl
        obtain ⟨ti, hti, hz0, hz1, hz2⟩ := info_parts lninfo
        have hsz := hTb.size
        obtain ⟨v2, wA, hap, hown2, hgr, _, hloc⟩ := run_append_own_at (P := Try.prog) WA w.heap.size 22 22 75 ti (.agg #[.string ⟨#[]⟩, .int .i64 0]) 2 24 Try.underlying22 hti hz0 hz1 hz2 rfl (by decide) _ j _ hOA ⟨W1.heap.size, 0, none⟩ 1 1 [.string ⟨#[]⟩, .int .i64 0] rfl (fun k u hk => by
          rw [← hWA]
          have hn : (W1.drew.alloc (.cells #[.string ⟨#[]⟩, .int .i64 0] 75)).heap[W1.heap.size]? = some (.cells #[.string ⟨#[]⟩, .int .i64 0] 75 (0, 0)) := heap_alloc_new W1.drew _
          rw [Addr.add_lit, Nat.zero_add, cell_of_row _ _ _ _ _ _ hn]
          simpa using hk) (by intro u hu; simp at hu; rcases hu with rfl | rfl <;> rfl) (by unfold maxLen; omega) (by omega) (by omega)
        rw [z1] at hap
        have HAP := hid hap
        clear hap
        have hqlt : qb < w.heap.size := (Array.getElem?_eq_some_iff.1 HQ.out).1
        have hqA : wA.heap[qb]? = some (.cells (row.setIfInBounds po (.slice aoj j capj)) T (0, 0)) := by
          refine (hgr.block qb (by omega) (fun e => ?_)).trans ((hbA.block qb (by omega)).trans hQ)
          have := (World.ownsRow.lt hO qb e.symm).1
          omega
        have cqA : wA.cell? ⟨qb, po, none⟩ = some (.slice aoj j capj) := by
          rw [cell_of_row wA qb po _ _ _ hqA, Array.getElem?_setIfInBounds, if_pos rfl, if_pos hpo]
        have fqA : wA.frozen? ⟨qb, po, none⟩ = false := by simp [World.frozen?, hqA]
        obtain ⟨g2, cap2, cur2, hv2, hg2, hh2, hc2, hm2, hs2, ht2⟩ : ∃ g cap cur, v2 = .slice (some ⟨g, 0, none⟩) (j + 1) cap ∧ w.heap.size ≤ g ∧ wA.heap[g]? = some (.cells cur 75 (0, 0)) ∧ j + 1 ≤ cap ∧ cap ≤ maxLen ∧ cur.size = cap * 2 ∧ cur.toList.take ((j + 1) * 2) = lc (fLs l most i0 j).2.2 ++ [.string ⟨#[]⟩, .int .i64 0] := by
          rcases hown2.2 with ⟨_, h0⟩ | h2
          · omega
          · exact h2
        subst hv2
        obtain ⟨W3, hW3⟩ : ∃ W3, wA.setCell ⟨qb, po, none⟩ (.slice (some ⟨g2, 0, none⟩) (j + 1) cap2) = W3 := ⟨_, rfl⟩
        have hown_ge : ∀ k, (Value.slice aoj j capj).ownBlock = some k → w.heap.size ≤ k := fun k e => (World.ownsRow.lt hO k e).1
        have hrlt : rb < w.heap.size := (Array.getElem?_eq_some_iff.1 H.out.top).1
        have hclt : cb < w.heap.size := World.block_lt_of_cell? _ _ HCB.out
        have h3 : ∀ k, k < w.heap.size → k ≠ qb → W3.heap[k]? = wr.heap[k]? := fun k hk h1 => by
          rw [← hW3, heap_setCell_other wA ⟨qb, po, none⟩ k _ h1]
          refine (hgr.block k (by omega) (fun e => ?_)).trans (hbA.block k (by omega))
          have := hown_ge k e.symm
          omega
        have hT3 : Tb rb qb w W3 := by
          refine ⟨?_, ?_, ?_, ?_, fun k hk h1 h2 => (h3 k hk h2).trans (hTb.block k hk h1 h2)⟩
          · rw [← hW3]; exact hgr.os.trans (hbA.os.trans hTb.os)
          · rw [← hW3]; exact hgr.tape.trans (hbA.tape.trans hTb.tape)
          · rw [← hW3]; exact hgr.output.trans (hbA.output.trans hTb.output)
          · rw [← hW3, World.size_setCell]; have := hgr.size; omega
        have hR3 : RD W3 rb b off cap l (fLs l most i0 j).2.1 most := by
          refine ⟨(h3 rb hrlt (fun e => HQB.out.1 e.symm)).trans hR.top, hR.room, hR.at', hR.ne, fun k hk => ?_⟩
          have hb0 := World.block_lt_of_cell? _ _ (H.out.bytes k hk)
          have := h3 b hb0 (fun e => HQB.out.2 e.symm)
          have hc := hR.bytes k hk
          simp only [World.cell?] at hc ⊢
          rw [this]
          exact hc
        have hcb3 : W3.cell? ⟨cb, 0, none⟩ = some (ir rb) := by
          have e1 := hT3.block cb hclt HCW.out.1 HCW.out.2
          have hc := HCB.out
          simp only [World.cell?] at hc ⊢
          rw [e1]
          exact hc
        have hrw3 : W3.heap[g2]? = some (.cells cur2 75 (0, 0)) := by
          rw [← hW3, heap_setCell_other wA ⟨qb, po, none⟩ g2 _ (by show g2 ≠ qb; omega)]
          exact hh2
        have hq3 : W3.heap[qb]? = some (.cells (row.setIfInBounds po (.slice (some ⟨g2, 0, none⟩) (j + 1) cap2)) T (0, 0)) := by
          rw [← hW3, heap_setCell_same wA qb po _ _ _ hqA]
          simp
        have k0 : cur2[j * 2]? = some (.string ⟨#[]⟩) ∧ cur2[j * 2 + 1]? = some (.int .i64 0) := by
          have ll : (lc (fLs l most i0 j).2.2).length = j * 2 := by rw [lc_len, hlen]
          constructor
          · have : (cur2.toList.take ((j + 1) * 2))[j * 2]? = some (.string ⟨#[]⟩) := by rw [ht2, List.getElem?_append_right (by omega), ll, Nat.sub_self]; rfl
            rw [List.getElem?_take, if_pos (by omega)] at this
            rw [← Array.getElem?_toList]; exact this
          · have : (cur2.toList.take ((j + 1) * 2))[j * 2 + 1]? = some (.int .i64 0) := by rw [ht2, List.getElem?_append_right (by omega), ll, show j * 2 + 1 - j * 2 = 1 by omega]; rfl
            rw [List.getElem?_take, if_pos (by omega)] at this
            rw [← Array.getElem?_toList]; exact this
        have HDl := hid (dline_any cb g2 (j * 2) ⟨#[]⟩ 0 W3 hR3 hcp hm hcb3 ⟨HCW.out.1, by omega⟩ (by rw [cell_of_row _ _ _ _ _ _ hrw3]; exact k0.1) (by rw [cell_of_row _ _ _ _ _ _ hrw3]; exact k0.2) (by simp [World.frozen?, hrw3]) (by simp [World.frozen?, hrw3]) ⟨by omega, by omega⟩)
        have c3 : W3.cell? ⟨qb, po, none⟩ = some (.slice (some ⟨g2, 0, none⟩) (j + 1) cap2) := by
          rw [cell_of_row _ _ _ _ _ _ hq3, Array.getElem?_setIfInBounds, if_pos rfl, if_pos hpo]
        have hIc : (j : Int) < (j : Int) + 1 := by omega
        have HT3 := hid hT3
        have HQ3 := hid hq3
        have HRW := hid hrw3
        have HQS := hid (show j + 1 ≤ cap2 ∧ cap2 ≤ maxLen ∧ cur2.size = cap2 * 2 ∧ w.heap.size ≤ g2 ∧ cur2.toList.take ((j + 1) * 2) = lc (fLs l most i0 j).2.2 ++ [.string ⟨#[]⟩, .int .i64 0] from ⟨hc2, hm2, hs2, hg2, ht2⟩)
        clear hR hTb hQ hO hT3 hR3 hcb3 hrw3 hq3 k0 h3 hown_ge hgr hown2 hh2 hqA hOA hloc ht2
        go_wp2_with fail
        go_region_law (refine step_app rfl _ _ rfl rfl rfl rfl HAP.out ?_)
        all_goals
          clear HAP
          go_wp2_with fail
          try rw [hW3]
          refine Calls.mono HDl.out ?_
          rintro e w4 ⟨hT4, ⟨hz4, rfl, hR4, q4, a4, hw4⟩ | ⟨hz4, rfl⟩⟩
          · have HFn := hid (dl_ok HT3.out HQ3.out hT4 HRW.out hz hz4 hw4 hlen HQS.out ⟨HQB.out.1, hqlt⟩ (by omega))
            have HR4 := hid hR4
            have HZ4 := hid hz4
            clear hT4 hw4 hR4
            go_wp2_with fail
            go_roundw
            case rel => exact ⟨j + 1, _, by omega, by go_num, HFn.out.1, by rw [HFn.out.2.1]; exact HR4.out, HFn.out.2.2.1, HFn.out.2.2.2.1, HFn.out.2.2.2.2⟩
            case measure => simp [intOf]; omega
          · have HF := hid (show De rb b off cap l i most qb po row T w (flt ((fLn l most (fLs l most i0 j).2.1).1 : Int) ((fLn l most (fLs l most i0 j).2.1).2.1 : Int)) w4 by
              unfold De
              rw [HFi.out]
              have e1 : fLs l most i0 (j + 1) = ((fLn l most (fLs l most i0 j).2.1).1, (fLn l most (fLs l most i0 j).2.1).2.1, []) := (if_neg (fun e => e hz)).trans (if_pos hz4)
              have e2 := fLs_stuck l most i0 (j + 1) (by rw [e1]; exact hz4) n (by omega)
              rw [e2.1, e2.2, e1]
              exact ⟨tb_two HT3.out hT4 hg2, .inr ⟨hz4, rfl, _, _, _, (hT4.block qb (by have := HT3.out.size; omega) HQB.out.1 (by omega)).trans HQ3.out⟩⟩)
            clear hT4
            go_wp2_with fail
            exact ⟨rfl, HF.out⟩
      · have hI : ¬ (j : Int) < (n : Int) := by omega
        obtain rfl : j = n := by omega
        have HF := hid (show De rb b off cap l i most qb po row T w (.returned (.tuple #[])) wr by
          unfold De
          rw [HFi.out]
          exact ⟨hTb, .inl ⟨hz, rfl, hR, v', hQ, hO⟩⟩)
        clear hR hTb hQ hO
        go_wp2_with fail
        go_end0
        exact HF.out
  · have HF := hid (show De rb b off cap l i most qb po row T w (flt ((ct (l.drop i) most).2.2 : Int) ((i + (ct (l.drop i) most).2.1 : Nat) : Int)) w2 by
      unfold De
      rw [show fLi l most i = _ from if_pos he]
      exact ⟨(Tb.drewN rb qb w 1).trans (by rw [hw2]; exact Tb.drewN _ _ _ _), .inr ⟨he, rfl, none, 0, 0, by rw [set_self hrow, hw2]; exact HQ.out⟩⟩)
    clear hw2
    go_wp2_with fail
    exact ⟨rfl, HF.out⟩
end Go.Proofs.Ytfhicemfhkhjaab
