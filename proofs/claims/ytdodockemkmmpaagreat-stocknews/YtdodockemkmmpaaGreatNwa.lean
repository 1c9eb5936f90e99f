/-
  stock: New, the program's.
-/
import Derived.Test.YtdodockemkmmpaaGreatNw8
import Derived.Test.YtdodockemkmmpaaGreatNw9
namespace Go.Proofs.YtdodockemkmmpaaGreat
open Go.RowKit
set_option maxRecDepth 100000

attribute [local go_sem ↓] stLd_op stSt_op
/-- what New answers -/
def NewA (C : List ByteArray) (room : Int) (e : Ending) (w' : World) : Prop := (nE C room ≠ 0 ∧ e = .returned (.tuple #[.pointer none, .int .i64 (nE C room)])) ∨ (nE C room = 0 ∧ ∃ l, e = .returned (.tuple #[.pointer (some ⟨l, 0, none⟩), .int .i64 0]) ∧ LD0 w' l room ((64 + xv (lvl C) : Nat) : Int) (lvl C))
theorem nE_bad {C : List ByteArray} {room n : Int} {e : Ending} {w' : World} (h : nE C room = n) (hn : n ≠ 0) (he : e = .returned (.tuple #[.pointer none, .int .i64 n])) : NewA C room e w' := .inl ⟨by rw [h]; exact hn, by rw [h]; exact he⟩
theorem lvl_take (C : List ByteArray) (k : Nat) (h : k < C.length) : (lvl C).take (k + 1) = (lvl C).take k ++ [(C[k], 0, 0)] := by
  rw [List.take_succ_eq_append_getElem (by rw [lvl_len]; exact h)]
  simp [lvl]
theorem xv_le (C : List ByteArray) (h : ∀ c ∈ C, tx c 40 = true) : xv (lvl C) ≤ 61 * C.length := by
  induction C with
  | nil => simp [xv, lvl]
  | cons c t ih =>
    have h1 := ih (fun c hc => h c (List.mem_cons_of_mem _ hc))
    have h2 := h c List.mem_cons_self
    unfold tx at h2
    simp only [Bool.and_eq_true, decide_eq_true_eq] at h2
    simp only [xv, lvl, List.map_cons, List.sum_cons, List.length_cons] at h1 ⊢
    omega
set_option maxHeartbeats 4000000 in
theorem new_any (C : List ByteArray) (v : Value) (room : Int) (w : World) (h : RT w v C) (hs : ∀ c ∈ C, c.size ≤ 9223372036854775807) :
    Calls Tryz.prog 6 #[v, .int .i64 room] w fun e w' => NewA C room e w' ∧ Below w.heap.size w w' := by
  have HR := hid h
  have HS := hid hs
  have hlen := h.len
  obtain ⟨a1, p1, rfl⟩ := h.form
  clear h hs
  by_cases h1 : C.length = 0 ∨ room < 0 ∨ 131072 < room
  · have HE := hid (show nE C room = 2 by unfold nE; rw [if_pos h1])
    rcases (show C.length = 0 ∨ (¬ C.length = 0 ∧ room < 0) ∨ (¬ C.length = 0 ∧ ¬ room < 0 ∧ 131072 < room) by omega) with q | ⟨q1, q2⟩ | ⟨q1, q2, q3⟩
    · have q0 : ((C.length : Int) == 0) = true := beq_iff_eq.2 (by omega)
      clear h1 hlen q
      go_enter Tryz.func6, Tryz.ntmps6
      go_wp2_with fail
      go_ret2
      exact ⟨nE_bad HE.out (by decide) rfl, Below.refl _ _⟩
    · have q0 : ((C.length : Int) == 0) = false := beq_eq_false_iff_ne.2 (by omega)
      clear h1 hlen q1
      go_enter Tryz.func6, Tryz.ntmps6
      go_wp2_with fail
      go_ret2
      exact ⟨nE_bad HE.out (by decide) rfl, Below.refl _ _⟩
    · have q0 : ((C.length : Int) == 0) = false := beq_eq_false_iff_ne.2 (by omega)
      clear h1 hlen q1
      go_enter Tryz.func6, Tryz.ntmps6
      go_wp2_with fail
      go_ret2
      exact ⟨nE_bad HE.out (by decide) rfl, Below.refl _ _⟩
  have q0 : ((C.length : Int) == 0) = false := beq_eq_false_iff_ne.2 (by omega)
  have q1 : ¬ room < 0 := by omega
  have q2 : ¬ 131072 < room := by omega
  by_cases h2 : 512 < C.length
  · have HE := hid (show nE C room = 1 by unfold nE; rw [if_neg h1, if_pos h2])
    have q3 : (512 : Int) < (C.length : Int) := by omega
    clear h1 h2 hlen
    go_enter Tryz.func6, Tryz.ntmps6
    go_wp2_with fail
    go_ret2
    exact ⟨nE_bad HE.out (by decide) rfl, Below.refl _ _⟩
  have q3 : ¬ (512 : Int) < (C.length : Int) := by omega
  have H1 := hid h1
  have H2 := hid h2
  obtain ⟨W, E1, R1, g1, z1⟩ := run_stSt (heap_alloc_new w (.cells (stC 0 (.slice none 0 0)) 32)) room (.slice none 0 0) rfl
  unfold stC s0V at E1
  have BW := hid (show Below w.heap.size w W from ((Below.refl w.heap.size w).alloc (Nat.le_refl _) _).grown g1 (by simp) (fun k hk => by cases hk; exact Nat.le_refl _))
  have ZW := hid (show W.heap.size = w.heap.size + 1 by rw [z1]; simp)
  have HB0 := hid (show SB0 W w.heap.size room (.slice none 0 0) from R1)
  have hl512 : C.length ≤ 512 := by omega
  clear h1 h2 R1 g1 z1
  go_enter Tryz.func6, Tryz.ntmps6
  go_wp2_with fail
  clear E1 q0
  go_loopw [29] (fun i wr => ∃ (k : Nat) (u : Value), k ≤ C.length ∧ i = .int .i64 (k : Int) ∧ (∀ j (hj : j < C.length), j < k → tx C[j] 40 = true) ∧ SB0 wr w.heap.size room u ∧ OLv wr (w.heap.size + 1) u ((lvl C).take k) ∧ Below w.heap.size w wr ∧ w.heap.size + 1 ≤ wr.heap.size) (fun i _ => C.length - (intOf i).toNat)
  case atStart => exact ⟨0, _, by omega, rfl, fun j _ h => by omega, HB0.out, World.ownsRow_nil _ _ _ _, BW.out, by rw [ZW.out]; exact Nat.le_refl _⟩
  case round =>
    obtain ⟨k, u, hk, rfl, hall, hsb, hol, hbl, hsz⟩ := hrel
    have HA := hid hall
    have HSB := hid hsb
    have HOL := hid hol
    have HBL := hid hbl
    have HSZ := hid hsz
    obtain ⟨su, tu, hfu⟩ := hol.reads.form
    clear hall
    by_cases hlt : k < C.length
    · have hI : (k : Int) < (C.length : Int) := by omega
      obtain ⟨b, off, cp, e1, hcp, hcell⟩ := (HR.out.below hbl).at k hlt
      cases e1
      have c0 := hcell k hlt
      have CI := hid (fun wx => isCode_any (C[k]'hlt) wx (HS.out _ (List.getElem_mem hlt)))
      have HT := hid (lvl_take C k hlt)
      have KB := hid (fun (h : tx (C[k]'hlt) 40 = false) => show nE C room = 123 by
        unfold nE
        rw [if_neg H1.out, if_neg H2.out, if_pos]
        rw [List.all_eq_false]
        exact ⟨_, List.getElem_mem hlt, by simp [h]⟩)
      have KA := hid (fun (h : tx (C[k]'hlt) 40 = true) => show ∀ j (hj : j < C.length), j < k + 1 → tx C[j] 40 = true from fun j hj h2 => by
        by_cases e : j = k
        · subst e; exact h
        · exact HA.out j hj (by omega))
      generalize C[k]'hlt = x at *
      clear hcell hbl hsz hol
      cases ht : tx x 40
      · rw [ht] at CI
        have HE := hid (KB.out ht)
        clear KA KB ht hsb
        go_wp2_with (go_at_call 17; refine (CI.out _).mono ?_; rintro e w' ⟨rfl, hw⟩; replace hw := hw.symm; subst hw)
        go_ret2
        exact ⟨nE_bad HE.out (by decide) rfl, HBL.out⟩
      · rw [ht] at CI
        have HKA := hid (KA.out ht)
        obtain ⟨_, _, _, c3, _, _⟩ := hsb.cells
        obtain ⟨W1, hW1⟩ : ∃ W1, wr.alloc (.cells #[.string x, .int .i64 0, .int .i64 0] 46) = W1 := ⟨_, rfl⟩
        have RW := hid (show W1.heap[wr.heap.size]? = some (.cells #[.string x, .int .i64 0, .int .i64 0] 46 (0, 0)) by rw [← hW1]; exact heap_alloc_new wr _)
        have BW1 := hid (show Below wr.heap.size wr W1 by rw [← hW1]; exact (Below.refl _ _).alloc (Nat.le_refl _) _)
        have HOW := hid (show OLv W1 (w.heap.size + 1) u ((lvl C).take k) from own_later HOL.out BW1.out)
        have HSW := hid (HSB.out.later BW1.out)
        have hsz2 := hid (show w.heap.size + 1 ≤ W1.heap.size from Nat.le_trans HSZ.out BW1.out.size)
        have hl1 : ((lvl C).take k).length ≤ 512 := by rw [List.length_take]; omega
        have hb32 : (((lvl C).take k).length + 1) * 32 ≤ 140737488355328 := by omega
        have hb63 : ((lvl C).take k).length + 1 ≤ maxLen := by unfold maxLen; omega
        generalize (lvl C).take k = Lk at *
        subst hfu
        have HW1 := hid hW1
        clear KA KB ht hsb
        go_wp2_with (first
          | (go_at_call 17; refine (CI.out _).mono ?_; rintro e w' ⟨rfl, hw⟩; replace hw := hw.symm; subst hw)
          | (at_builtin; refine wpList_appX lvinfo Tryz.underlying28 rfl (by decide) rfl (.tmp 37) (.tmp 40) rfl (w.heap.size + 1) _ Lk.length (vc Lk) rfl HOW.out _ 1 (vc [(x, 0, 0)]) rfl rfl (.inr ⟨_, _, rfl, news_blk RW.out⟩) (vc_one _) hb63 hb32 hsz2.out ?n2))
        case n2 =>
        intro u2 w2 ho2 hg2 _
        have O2 := hid (show OLv w2 (w.heap.size + 1) u2 (Lk ++ [(x, 0, 0)]) by unfold OLv; rw [vc_app, List.length_append]; exact ho2)
        have B2 := hid (show Below (w.heap.size + 1) W1 w2 from (Below.refl _ _).grown hg2 hsz2.out (fun k hk => (World.ownsRow.lt HOW.out k hk).1))
        have SB2 := hid (show SB0 w2 w.heap.size room (.slice su Lk.length tu) from (B2.out.block w.heap.size (by omega)).trans HSW.out)
        obtain ⟨_, _, _, d3, _, _⟩ := SB2.out.cells
        have f3 : w2.frozen? ⟨w.heap.size, 3, none⟩ = false := Lib.frozen_of_heap SB2.out 3
        obtain ⟨so, sn, sp, hu2⟩ : ∃ so sn sp, u2 = .slice so sn sp := by obtain ⟨a, b, h⟩ := O2.out.reads.form; exact ⟨a, _, b, h⟩
        subst hu2
        obtain ⟨W3, hW3⟩ : ∃ W3, w2.setCell ⟨w.heap.size, 3, none⟩ (.slice so sn sp) = W3 := ⟨_, rfl⟩
        have S3 := hid (show SB0 W3 w.heap.size room (.slice so sn sp) by rw [← hW3]; exact Lib.heap_setCell_same SB2.out _)
        have O3 := hid (show OLv W3 (w.heap.size + 1) (.slice so sn sp) (Lk ++ [(x, 0, 0)]) by
          rw [← hW3]
          refine World.ownsRow.kept O2.out (row := some w.heap.size) ⟨rfl, rfl, rfl, by simp, fun k _ hk => heap_setCell_other _ _ _ _ (fun e => hk (by rw [show k = w.heap.size from e]))⟩ ?_
          cases hv : (Value.slice so sn sp).ownBlock with
          | none => exact .inl rfl
          | some g => exact .inr fun e => by cases e; have := (World.ownsRow.lt O2.out _ hv).1; omega)
        have B3 := hid (show Below w.heap.size w W3 by
          rw [← hW3]
          have hb := (HBL.out.trans (BW1.out.mono HBL.out.size)).trans (B2.out.mono (by omega))
          exact ⟨hb.os, hb.tape, hb.output, by rw [World.size_setCell]; exact hb.size, fun i hi => by rw [heap_setCell_other _ _ _ _ (show i ≠ w.heap.size by omega)]; exact hb.block i hi⟩)
        have Z3 := hid (show w.heap.size + 1 ≤ W3.heap.size by rw [← hW3, World.size_setCell]; exact Nat.le_trans hsz2.out B2.out.size)
        clear ho2 hg2 HOW RW c3 hW1
        go_wp2_with fail
        go_roundw
        case rel => exact ⟨k + 1, _, by omega, by go_num, HKA.out, S3.out, by rw [HT.out]; exact O3.out, B3.out, Z3.out⟩
        case measure => simp [intOf]; omega
    · obtain rfl : k = C.length := by omega
      have hI : ¬ (C.length : Int) < (C.length : Int) := by omega
      have hall2 : C.all (tx · 40) = true := by
        rw [List.all_eq_true]
        intro c hc
        obtain ⟨j, hj, rfl⟩ := List.mem_iff_getElem.1 hc
        exact HA.out j hj hj
      rw [show (lvl C).take C.length = lvl C by rw [← lvl_len, List.take_length]] at HOL hfu
      have HX := hid (xv_le C (fun c hc => List.all_eq_true.1 hall2 c hc))
      have H3 := hid (show ¬ C.all (tx · 40) = false by rw [hall2]; decide)
      obtain ⟨_, _, _, c3, _, _⟩ := hsb.cells
      have hlv := lvl_len C
      have CR := hid (risingLv_any u (lvl C) wr HOL.out.reads)
      have HRL := hid HOL.out.reads
      subst hfu
      clear hall2 hsb hol hbl hsz hlv
      go_wp2_with fail
      refine Calls.mono CR.out ?_
      rintro e w3 ⟨⟨bb, rfl, hbb⟩, hb3⟩
      have B3 := hid (HBL.out.trans (hb3.mono HBL.out.size))
      have S3 := hid (HSB.out.later hb3)
      have L3 := hid (HRL.out.below hb3)
      have HBB := hid hbb
      clear hb3 CR c3 hbb
      cases bb
      · have HE := hid (show nE C room = 145 by
          unfold nE
          rw [if_neg H1.out, if_neg H2.out, if_neg H3.out, if_pos]
          cases hr : rsT C
          · rfl
          · exact absurd (HBB.out.2 ((rsL_iff C).2 hr)) (by decide))
        go_wp2_with fail
        go_ret2
        exact ⟨nE_bad HE.out (by decide) rfl, B3.out⟩
      · have H4 := hid (show ¬ rsT C = false by rw [(rsL_iff C).1 (HBB.out.1 rfl)]; decide)
        have E3 := run_stLd (room := room) (v := .slice su (lvl C).length tu) S3.out
        have CW := hid (weight0_any room (lvl C) _ w3 L3.out (by have := HX.out; omega))
        clear HBB
        go_wp2_with fail
        refine Calls.mono CW.out ?_
        rintro e w4 ⟨rfl, hb4⟩
        have B4 := hid (B3.out.trans (hb4.mono B3.out.size))
        have S4 := hid (S3.out.later hb4)
        have L4 := hid (L3.out.below hb4)
        have E4 := run_stLd (room := room) (v := .slice su (lvl C).length tu) S4.out
        clear hb4 CW E3
        by_cases h5 : room < ((64 + xv (lvl C) : Nat) : Int)
        · have HE := hid (show nE C room = 5 by unfold nE; rw [if_neg H1.out, if_neg H2.out, if_neg H3.out, if_neg H4.out, if_pos h5])
          generalize ((64 + xv (lvl C) : Nat) : Int) = n at *
          go_wp2_with fail
          go_ret2
          exact ⟨nE_bad HE.out (by decide) rfl, B4.out⟩
        · have HE := hid (show nE C room = 0 by unfold nE; rw [if_neg H1.out, if_neg H2.out, if_neg H3.out, if_neg H4.out, if_neg h5])
          obtain ⟨ok1, ok2, ok3⟩ := nE_ok HE.out
          have CF := hid (from0_any room (lvl C) _ w4 L4.out ok1 ok2 ok3)
          have h5' : ¬ room < ((64 + xv (lvl C) : Nat) : Int) := h5
          generalize hn : ((64 + xv (lvl C) : Nat) : Int) = n at h5' CF ⊢
          have HN := hid hn
          clear hn
          clear ok1 ok2 ok3 h5
          go_wp2_with fail
          refine Calls.mono CF.out ?_
          rintro e w5 ⟨⟨l, rfl, hld⟩, hb5⟩
          have B5 := hid (B4.out.trans (hb5.mono B4.out.size))
          have HLD := hid hld
          clear hld hb5 CF E4
          go_wp2_with fail
          go_ret2
          exact ⟨.inr ⟨HE.out, _, rfl, by rw [HN.out]; exact HLD.out⟩, B5.out⟩
end Go.Proofs.YtdodockemkmmpaaGreat
