/-
  stock: New, the document's.
-/
import Derived.Test.YtdodockemkmmpaaGreatNw9
import Derived.Test.YtdodockemkmmpaaGreatKw2
import Derived.Test.YtdodockemkmmpaaGreatNw5
import Derived.Deep.CutRange
import Derived.Deep.RegionLaw
namespace Go.Proofs.YtdodockemkmmpaaGreat
open Go.RowKit
set_option maxRecDepth 100000

attribute [local go_sem ↓] stLd_op stSt_op
theorem lvl_take2 (C : List ByteArray) (k : Nat) (h : k < C.length) : (lvl C).take (k + 1) = (lvl C).take k ++ [(C[k], 0, 0)] := by
  rw [List.take_succ_eq_append_getElem (by rw [lvl_len]; exact h)]
  simp [lvl]
/-- an append in a region that draws, by its equation -/
theorem step_ap {st : TypeId} {ops : Array Oper} {o : Oper} {a : Act} {w w' : World} {K : Act → World → Prop} {Q : Exit → Act → World → Prop} {E : Prop} {v xv v' : Value}
    (hg : o.guard = none) (s x : Operand) (hop : o.op = Op.call { callee := Callee.builtin Builtin.append, args := #[s, x], argTypes := #[st, st] })
    (hs : a.eval s = v) (hx : a.eval x = xv) (hrun : (Builtin.append_ #[st, st] o.type #[v, xv]).run Tryz.prog w = .ok v' w') (hK : K (a.put o.dst v') w') :
    if Region.wanted o (yielded ops a.tmps) = true then Oper.wp Tryz.prog o a w K Q else E := by
  have hw : Region.wanted o (yielded ops a.tmps) = true := by simp [Region.wanted, hg]
  rw [if_pos hw]
  unfold Oper.wp
  simp [execOp, hop, resolve, invoke, builtin, hs, hx, hrun, Result.andThen]
  exact hK
theorem app_lv (w : World) (base : Nat) (u : Value) (Lk : List Lv) (h : OLv w base u Lk) (g : Nat) (x : ByteArray) (hg : w.heap[g]? = some (.cells #[.string x, .int .i64 0, .int .i64 0] 46 (0, 0))) (hl : Lk.length ≤ 512) (hb : base ≤ w.heap.size) (ty : TypeId) :
    ∃ u2 w2, (Builtin.append_ #[28, 28] ty #[u, .slice (some ⟨g, 0, none⟩) 1 1]).run Tryz.prog w = .ok u2 w2 ∧ OLv w2 base u2 (Lk ++ [(x, 0, 0)]) ∧ w.grownBy w2 u.ownBlock := by
  obtain ⟨i, hi, hz, hsz, hby⟩ := info_parts lvinfo
  obtain ⟨v', w', hr, h2, h3, _, _⟩ := run_append_own_at (P := Tryz.prog) w base 28 ty 46 i _ 3 32 Tryz.underlying28 hi hz hsz hby rfl (by decide) u Lk.length (vc Lk) h ⟨g, 0, none⟩ 1 1 (vc [(x, 0, 0)]) rfl (news_blk hg) (vc_one _) (by unfold maxLen; omega) (by omega) hb
  exact ⟨v', w', hr, by unfold OLv; rw [vc_app, List.length_append]; exact h2, h3⟩
theorem rweight0_any (room : Int) (L : List Lv) (v : Value) (w : World) (h : RLv w v L) (hx : 64 + xv L ≤ 1000000) :
    Calls Tryz.prog 23 #[s0V room v] w fun e w' => e = .returned (.int .i64 ((64 + xv L : Nat) : Int)) ∧ Below w.heap.size w w' := by
  obtain ⟨a1, p1, rfl⟩ := h.form
  have hw := rweight_any (s0 room L) a1 p1 none 0 none 0 w h (fun j hj => by simp [s0] at hj) (fun j hj => by simp [s0] at hj) (by simp [s0]) (by simp [s0])
  have he : xs (s0 room L) = 64 + xv L := by simp [xs, s0, xh, xd]
  have hr : wrap64 ((64 + xv L : Nat) : Int) = ((64 + xv L : Nat) : Int) := by unfold wrap64; omega
  rw [he, hr] at hw
  exact hw
theorem rxv_le (C : List ByteArray) (h : ∀ c ∈ C, tx c 40 = true) : xv (lvl C) ≤ 61 * C.length := by
  induction C with
  | nil => simp [xv, lvl]
  | cons c t ih =>
    have h1 := ih (fun c hc => h c (List.mem_cons_of_mem _ hc))
    have h2 := h c List.mem_cons_self
    unfold tx at h2
    simp only [Bool.and_eq_true, decide_eq_true_eq] at h2
    simp only [xv, lvl, List.map_cons, List.sum_cons, List.length_cons] at h1 ⊢
    omega
theorem gbB {w W : World} {B g : Nat} {w0 : World} (h : Below B w0 w) (hg : w.grownBy W (some g)) (hB : B ≤ g) (hs : B ≤ w.heap.size) : Below B w0 W := h.grown hg hs (fun k hk => by cases hk; exact hB)
/-- what the document's New answers -/
def RNewA (C : List ByteArray) (room : Int) (e : Ending) (w' : World) : Prop := (nE C room ≠ 0 ∧ e = .returned (.tuple #[s0V 0 (.slice none 0 0), .int .i64 (nE C room)])) ∨ (nE C room = 0 ∧ ∃ u, e = .returned (.tuple #[s0V room u, .int .i64 0]) ∧ RLv w' u (lvl C))
theorem rE_bad {C : List ByteArray} {room n : Int} {e : Ending} {w' : World} (h : nE C room = n) (hn : n ≠ 0) (he : e = .returned (.tuple #[s0V 0 (.slice none 0 0), .int .i64 n])) : RNewA C room e w' := .inl ⟨by rw [h]; exact hn, by rw [h]; exact he⟩
set_option maxHeartbeats 4000000 in
theorem rnew_any (C : List ByteArray) (v : Value) (room : Int) (w : World) (h : RT w v C) (hs : ∀ c ∈ C, c.size ≤ 9223372036854775807) :
    Calls Tryz.prog 7 #[v, .int .i64 room] w fun e w' => RNewA C room e w' ∧ Below w.heap.size w w' := by
  have HR := hid h
  have HS := hid hs
  have hlen := h.len
  obtain ⟨a1, p1, rfl⟩ := h.form
  clear h hs
  have Z0 := heap_alloc_new w (.cells (stC 0 (.slice none 0 0)) 32)
  obtain ⟨W0, E0, R0, g0, z0⟩ := run_stSt Z0 0 (.slice none 0 0) rfl
  have B0 := hid (show Below w.heap.size w W0 from ((Below.refl w.heap.size w).alloc (Nat.le_refl _) _).grown g0 (by simp) (fun k hk => by cases hk; exact Nat.le_refl _))
  have E0' := run_stLd R0
  unfold stC s0V at E0
  by_cases h1 : C.length = 0 ∨ room < 0 ∨ 131072 < room
  · have HE := hid (show nE C room = 2 by unfold nE; rw [if_pos h1])
    rcases (show C.length = 0 ∨ (¬ C.length = 0 ∧ room < 0) ∨ (¬ C.length = 0 ∧ ¬ room < 0 ∧ 131072 < room) by omega) with q | ⟨q1, q2⟩ | ⟨q1, q2, q3⟩
    · have q0 : ((C.length : Int) == 0) = true := beq_iff_eq.2 (by omega)
      clear h1 hlen q Z0 R0 g0 z0
      go_enter Tryz.func7, Tryz.ntmps7
      go_wp2_with fail
      refine bodyPost_ret (v := .tuple #[s0V 0 (.slice none 0 0), .int .i64 2]) (by simp [results, Tryz.results7, asAddr, ↓stLd_op, E0']) rfl ?_
      exact ⟨rE_bad HE.out (by decide) rfl, B0.out⟩
    · have q0 : ((C.length : Int) == 0) = false := beq_eq_false_iff_ne.2 (by omega)
      clear h1 hlen q1 Z0 R0 g0 z0
      go_enter Tryz.func7, Tryz.ntmps7
      go_wp2_with fail
      refine bodyPost_ret (v := .tuple #[s0V 0 (.slice none 0 0), .int .i64 2]) (by simp [results, Tryz.results7, asAddr, ↓stLd_op, E0']) rfl ?_
      exact ⟨rE_bad HE.out (by decide) rfl, B0.out⟩
    · have q0 : ((C.length : Int) == 0) = false := beq_eq_false_iff_ne.2 (by omega)
      clear h1 hlen q1 Z0 R0 g0 z0
      go_enter Tryz.func7, Tryz.ntmps7
      go_wp2_with fail
      refine bodyPost_ret (v := .tuple #[s0V 0 (.slice none 0 0), .int .i64 2]) (by simp [results, Tryz.results7, asAddr, ↓stLd_op, E0']) rfl ?_
      exact ⟨rE_bad HE.out (by decide) rfl, B0.out⟩
  have q0 : ((C.length : Int) == 0) = false := beq_eq_false_iff_ne.2 (by omega)
  have q1 : ¬ room < 0 := by omega
  have q2 : ¬ 131072 < room := by omega
  by_cases h2 : 512 < C.length
  · have HE := hid (show nE C room = 1 by unfold nE; rw [if_neg h1, if_pos h2])
    have q3 : (512 : Int) < (C.length : Int) := by omega
    clear h1 h2 hlen Z0 R0 g0 z0
    go_enter Tryz.func7, Tryz.ntmps7
    go_wp2_with fail
    refine bodyPost_ret (v := .tuple #[s0V 0 (.slice none 0 0), .int .i64 1]) (by simp [results, Tryz.results7, asAddr, ↓stLd_op, E0']) rfl ?_
    exact ⟨rE_bad HE.out (by decide) rfl, B0.out⟩
  have q3 : ¬ (512 : Int) < (C.length : Int) := by omega
  have H1 := hid h1
  have H2 := hid h2
  have Z1 : ((w.alloc (.cells (stC 0 (.slice none 0 0)) 32)).alloc (.cells (stC 0 (.slice none 0 0)) 32)).heap[w.heap.size + 1]? = some (.cells (stC 0 (.slice none 0 0)) 32 (0, 0)) := by
    have := heap_alloc_new (w.alloc (.cells (stC 0 (.slice none 0 0)) 32)) (.cells (stC 0 (.slice none 0 0)) 32)
    rw [World.size_alloc] at this
    exact this
  have Y1 : ((w.alloc (.cells (stC 0 (.slice none 0 0)) 32)).alloc (.cells (stC 0 (.slice none 0 0)) 32)).heap[w.heap.size]? = some (.cells (stC 0 (.slice none 0 0)) 32 (0, 0)) :=
    (((Below.refl (w.alloc (.cells (stC 0 (.slice none 0 0)) 32)).heap.size (w.alloc (.cells (stC 0 (.slice none 0 0)) 32))).alloc (Nat.le_refl _) (.cells (stC 0 (.slice none 0 0)) 32)).block w.heap.size (by simp)).trans Z0
  obtain ⟨W, E1, R1, g1, z1⟩ := run_stSt Z1 room (.slice none 0 0) rfl
  have RB := hid (show W.heap[w.heap.size]? = some (.cells (stC 0 (.slice none 0 0)) 32 (0, 0)) from (g1.block w.heap.size (by simp; omega) (by intro e; have := Option.some.inj e; omega)).trans Y1)
  unfold stC s0V at E1
  have BW := hid (show Below w.heap.size w W from gbB (((Below.refl w.heap.size w).alloc (Nat.le_refl _) _).alloc (by simp) _) g1 (by omega) (by simp; omega))
  have ZW := hid (show W.heap.size = w.heap.size + 2 by rw [z1]; simp)
  have HB0 := hid (show SB0 W (w.heap.size + 1) room (.slice none 0 0) from R1)
  clear h1 R1 g1 z1 Z1 Y1 Z0 R0 g0 z0 E0 E0' B0
  go_enter Tryz.func7, Tryz.ntmps7
  go_wp2_with fail
  clear E1 q0
  go_loopw [7] (fun i wr => ∃ (k : Nat) (u : Value), k ≤ C.length ∧ i = .int .i64 (k : Int) ∧ (∀ j (hj : j < C.length), j < k → tx C[j] 40 = true) ∧ SB0 wr (w.heap.size + 1) room u ∧ SB0 wr w.heap.size 0 (.slice none 0 0) ∧ OLv wr (w.heap.size + 2) u ((lvl C).take k) ∧ Below w.heap.size w wr ∧ w.heap.size + 2 ≤ wr.heap.size) (fun i _ => C.length - (intOf i).toNat)
  case atStart => exact ⟨0, _, by omega, rfl, fun j _ h => by omega, HB0.out, RB.out, World.ownsRow_nil _ _ _ _, BW.out, by rw [ZW.out]; exact Nat.le_refl _⟩
  case round =>
    obtain ⟨k, u, hk, rfl, hall, hsb, hrb, hol, hbl, hsz⟩ := hrel
    have HA := hid hall
    have HSB := hid hsb
    have HRB := hid hrb
    have HOL := hid hol
    have HBL := hid hbl
    have HSZ := hid hsz
    obtain ⟨su, tu, hfu⟩ := hol.reads.form
    clear hall
    by_cases hlt : k < C.length
    · have hI : (k : Int) < (C.length : Int) := by omega
      obtain ⟨b, off, cp, e1, hcp, hcell⟩ := (HR.out.below hbl).at k hlt
      cases e1
      have c0 := hcell k hlt
      have CI := hid (fun wx => rCode_any (C[k]'hlt) wx (HS.out _ (List.getElem_mem hlt)))
      have HT := hid (lvl_take2 C k hlt)
      have KB := hid (fun (h : tx (C[k]'hlt) 40 = false) => show nE C room = 123 by
        unfold nE
        rw [if_neg H1.out, if_neg H2.out, if_pos]
        rw [List.all_eq_false]
        exact ⟨_, List.getElem_mem hlt, by simp [h]⟩)
      have KA := hid (fun (h : tx (C[k]'hlt) 40 = true) => show ∀ j (hj : j < C.length), j < k + 1 → tx C[j] 40 = true from fun j hj h2 => by
        by_cases e : j = k
        · subst e; exact h
        · exact HA.out j hj (by omega))
      generalize C[k]'hlt = x at *
      have HC0 := hid c0
      clear hcell hbl hsz hol
      cases ht : tx x 40
      · rw [ht] at CI
        have HE := hid (KB.out ht)
        obtain ⟨W4, E4, R4, g4, z4⟩ := run_stSt hrb 0 (.slice none 0 0) rfl
        have E5 := run_stLd R4
        have B4 := hid (gbB HBL.out g4 (Nat.le_refl _) HBL.out.size)
        unfold s0V at E4
        clear KA KB ht hsb hrb R4 g4 z4
        go_wp2_with (go_at_call 22; refine (CI.out _).mono ?_; rintro e w' ⟨rfl, hw⟩; replace hw := hw.symm; subst hw)
        refine bodyPost_ret (v := .tuple #[s0V 0 (.slice none 0 0), .int .i64 123]) (by simp [results, Tryz.results7, asAddr, ↓stLd_op, E5]) rfl ?_
        exact ⟨rE_bad HE.out (by decide) rfl, B4.out⟩
      · rw [ht] at CI
        have HKA := hid (KA.out ht)
        obtain ⟨_, _, _, c3, _, _⟩ := hsb.cells
        have hl1 : ((lvl C).take k).length ≤ 512 := by rw [List.length_take]; omega
        obtain ⟨W1, hW1⟩ : ∃ W1, (wr.alloc (.cells #[.string x, .int .i64 0, .int .i64 0] 46)).drew = W1 := ⟨_, rfl⟩
        have BW1 := hid (show Below wr.heap.size wr W1 by rw [← hW1]; exact ((Below.refl _ _).alloc (Nat.le_refl _) _).drew)
        have RW := hid (show W1.heap[wr.heap.size]? = some (.cells #[.string x, .int .i64 0, .int .i64 0] 46 (0, 0)) by rw [← hW1]; exact heap_alloc_new wr _)
        have hsz2 := hid (show w.heap.size + 2 ≤ W1.heap.size from Nat.le_trans HSZ.out BW1.out.size)
        have HOW := hid (show OLv W1 (w.heap.size + 2) u ((lvl C).take k) from own_later HOL.out BW1.out)
        obtain ⟨u2, w2, hap, ho2, hg2⟩ := app_lv W1 (w.heap.size + 2) u ((lvl C).take k) HOW.out wr.heap.size x RW.out hl1 hsz2.out 28
        have B2 := hid (show Below (w.heap.size + 2) W1 w2 from (Below.refl _ _).grown hg2 hsz2.out (fun k hk => (World.ownsRow.lt HOW.out k hk).1))
        generalize (lvl C).take k = Lk at *
        subst hfu
        have SB2 := hid (show SB0 w2 (w.heap.size + 1) room (.slice su Lk.length tu) from (B2.out.block _ (by omega)).trans (HSB.out.later BW1.out))
        have RB2 := hid (show SB0 w2 w.heap.size 0 (.slice none 0 0) from (B2.out.block _ (by omega)).trans (HRB.out.later BW1.out))
        obtain ⟨so, sn, sp, hu2⟩ : ∃ so sn sp, u2 = .slice so sn sp := by obtain ⟨a, b, h⟩ := ho2.reads.form; exact ⟨a, _, b, h⟩
        subst hu2
        obtain ⟨W3, hW3⟩ : ∃ W3, w2.setCell ⟨w.heap.size + 1, 3, none⟩ (.slice so sn sp) = W3 := ⟨_, rfl⟩
        have S3 := hid (show SB0 W3 (w.heap.size + 1) room (.slice so sn sp) by rw [← hW3]; exact Lib.heap_setCell_same SB2.out _)
        have T3 := hid (show SB0 W3 w.heap.size 0 (.slice none 0 0) by rw [← hW3]; exact (heap_setCell_other _ _ _ _ (show w.heap.size ≠ w.heap.size + 1 by omega)).trans RB2.out)
        have O3 := hid (show OLv W3 (w.heap.size + 2) (.slice so sn sp) (Lk ++ [(x, 0, 0)]) by
          rw [← hW3]
          refine World.ownsRow.kept ho2 (row := some (w.heap.size + 1)) ⟨rfl, rfl, rfl, by simp, fun k _ hk => heap_setCell_other _ _ _ _ (fun e => hk (by rw [show k = w.heap.size + 1 from e]))⟩ ?_
          cases hv : (Value.slice so sn sp).ownBlock with
          | none => exact .inl rfl
          | some g => exact .inr fun e => by cases e; have := (World.ownsRow.lt ho2 _ hv).1; omega)
        have B3 := hid (show Below w.heap.size w W3 by
          rw [← hW3]
          have hb := (HBL.out.trans (BW1.out.mono HBL.out.size)).trans (B2.out.mono (by omega))
          exact ⟨hb.os, hb.tape, hb.output, by rw [World.size_setCell]; exact hb.size, fun i hi => by rw [heap_setCell_other _ _ _ _ (show i ≠ w.heap.size + 1 by omega)]; exact hb.block i hi⟩)
        have Z3 := hid (show w.heap.size + 2 ≤ W3.heap.size by rw [← hW3, World.size_setCell]; exact Nat.le_trans hsz2.out B2.out.size)
        obtain ⟨_, _, _, d3, _, _⟩ := SB2.out.cells
        have f3 : w2.frozen? ⟨w.heap.size + 1, 3, none⟩ = false := Lib.frozen_of_heap SB2.out 3
        have HAP := hid (show (Builtin.append_ #[28, 28] 28 #[.slice su Lk.length tu, .slice (some ⟨wr.heap.size, 0, none⟩) 1 1]).run Tryz.prog (wr.alloc (.cells #[.string x, .int .i64 0, .int .i64 0] 46)).drew = .ok (.slice so sn sp) w2 by rw [hW1]; exact hap)
        have c3d : (wr.alloc (.cells #[.string x, .int .i64 0, .int .i64 0] 46)).drew.cell? ⟨w.heap.size + 1, 3, none⟩ = some (.slice su Lk.length tu) := below_cells ((Below.refl _ _).alloc (Nat.le_refl _) _) _ _ c3
        have c0d : (wr.alloc (.cells #[.string x, .int .i64 0, .int .i64 0] 46)).drew.cell? ⟨b, off + k, none⟩ = some (.string x) := below_cells ((Below.refl _ _).alloc (Nat.le_refl _) _) _ _ c0
        have c3e : wr.drew.cell? ⟨w.heap.size + 1, 3, none⟩ = some (.slice su Lk.length tu) := c3
        have c0e : wr.drew.cell? ⟨b, off + k, none⟩ = some (.string x) := c0
        have hk0 : (0 : Int) ≤ (k : Int) := by omega
        have H3W := hid hW3
        clear KA KB ht hsb hrb hW1 hap ho2 hg2
        go_wp2_with (go_at_call 22; refine (CI.out _).mono ?_; rintro e w' ⟨rfl, hw⟩; replace hw := hw.symm; subst hw)
        go_region_law (refine step_ap rfl _ _ rfl rfl rfl HAP.out ?_)
        all_goals
          go_wp2_with fail
          go_roundw
          case rel => exact ⟨k + 1, _, by omega, by go_num, HKA.out, S3.out, T3.out, by rw [HT.out]; exact O3.out, B3.out, Z3.out⟩
          case measure => simp [intOf]; omega
    · obtain rfl : k = C.length := by omega
      have hI : ¬ (C.length : Int) < (C.length : Int) := by omega
      have hall2 : C.all (tx · 40) = true := by
        rw [List.all_eq_true]
        intro c hc
        obtain ⟨j, hj, rfl⟩ := List.mem_iff_getElem.1 hc
        exact HA.out j hj hj
      rw [show (lvl C).take C.length = lvl C by rw [← lvl_len, List.take_length]] at HOL hfu
      have HX := hid (rxv_le C (fun c hc => List.all_eq_true.1 hall2 c hc))
      have H3 := hid (show ¬ C.all (tx · 40) = false by rw [hall2]; decide)
      have HRL := hid HOL.out.reads
      obtain ⟨wz, hwz⟩ : ∃ wz, wz = wr := ⟨_, rfl⟩
      rw [← hwz] at HSB HRB HOL HBL HSZ HRL
      have HWZ := hid hwz
      clear hall2 hsb hrb hol hbl hsz
      go_wp2_with fail
      rw [← HWZ.out]
      clear hwz HWZ
      go_loopw [8] (fun i wx => ∃ q : Nat, q ≤ C.length ∧ 1 ≤ q ∧ i = .int .i64 (q : Int) ∧ (∀ i (h : i + 1 < C.length), i + 1 < q → leB C[i + 1] (C[i]'(by omega)) = false) ∧ Below wz.heap.size wz wx) (fun i _ => C.length - (intOf i).toNat)
      case atStart => exact ⟨1, by have := H1.out; omega, by omega, rfl, fun i _ h => by omega, Below.refl _ _⟩
      case round =>
        obtain ⟨q, hq, hq1, rfl, hall, hbl⟩ := hrel
        have HA2 := hid hall
        have HBz := hid hbl
        have HSBr := hid (HSB.out.later hbl)
        have HRBr := hid (HRB.out.later hbl)
        have HRLr := hid (HRL.out.below hbl)
        have HBr := hid (HBL.out.trans (hbl.mono HBL.out.size))
        clear hall hbl
        by_cases hqt : q < C.length
        · obtain ⟨j, rfl⟩ : ∃ j, q = j + 1 := ⟨q - 1, by omega⟩
          obtain ⟨b, off, cp, e1, hcp, hcell⟩ := (HR.out.below HBr.out).at (j + 1) hqt
          cases e1
          have hj : j < C.length := by omega
          have c0 := hcell (j + 1) hqt
          have c1 := hcell j hj
          have KN := hid (fun (h : leB (C[j + 1]'hqt) (C[j]'hj) = false) => show ∀ i (h : i + 1 < C.length), i + 1 < j + 1 + 1 → leB C[i + 1] (C[i]'(by omega)) = false from fun i hi h2 => by
            by_cases e : i = j
            · subst e; exact h
            · exact HA2.out i hi (by omega))
          have KY := hid (fun (h : leB (C[j + 1]'hqt) (C[j]'hj) = true) => show nE C room = 145 by
            unfold nE
            rw [if_neg H1.out, if_neg H2.out, if_neg H3.out, if_pos]
            cases hr : rsT C
            · rfl
            · have := (rsT_iff C).1 hr j hqt
              rw [this] at h
              cases h)
          generalize C[j + 1]'hqt = x at c0 KN KY
          generalize C[j]'hj = y at c1 KN KY
          have i1 : (0 : Int) ≤ (j : Int) + 1 := by omega
          have i2 : (j : Int) + 1 < (C.length : Int) := by omega
          have i3 : (j : Int) < (C.length : Int) := by omega
          have i4 : IntKind.i64.wrap ((j : Int) + 1 - 1) = (j : Int) := by rw [IntKind.wrap_i64]; omega
          have i5 : IntKind.i64.wrap (j : Int) = (j : Int) := by rw [IntKind.wrap_i64]; omega
          have i6 : (0 : Int) ≤ (j : Int) := by omega
          clear hcell
          by_cases hle : leB x y = true
          · have hle2 : (Op.bytesLess x.toList y.toList || x.toList == y.toList) = true := hle
            have HE := hid (KY.out hle)
            clear hle KN KY
            go_wp2_with fail
            go_quiet (fail)
            have R9 : SB0 (wr.drewN nq) w.heap.size 0 (.slice none 0 0) := HRBr.out
            have B9 := below_drewN HBr.out nq
            obtain ⟨W4, E4, R4, g4, z4⟩ := run_stSt R9 0 (.slice none 0 0) rfl
            have E5 := run_stLd R4
            have B4 := hid (gbB B9 g4 (Nat.le_refl _) B9.size)
            unfold s0V at E4
            clear R4 g4 z4 R9 B9 c0 c1
            go_wp2_with fail
            refine bodyPost_ret (v := .tuple #[s0V 0 (.slice none 0 0), .int .i64 145]) (by simp [results, Tryz.results7, asAddr, ↓stLd_op, E5]) rfl ?_
            exact ⟨rE_bad HE.out (by decide) rfl, B4.out⟩
          · have hle0 : leB x y = false := by simpa using hle
            have hle2 : (Op.bytesLess x.toList y.toList || x.toList == y.toList) = false := hle0
            have HN := hid (KN.out hle0)
            clear hle hle0 KN KY
            go_wp2_with fail
            go_quiet (fail)
            have B9 := hid (below_drewN HBz.out nq)
            clear c0 c1
            go_wp2_with fail
            go_roundw
            case rel => exact ⟨j + 1 + 1, by omega, by omega, by go_num, HN.out, B9.out⟩
            case measure => simp [intOf]; omega
        · obtain rfl : q = C.length := by omega
          have H4 := hid (show ¬ rsT C = false by rw [(rsT_iff C).2 (fun i hi => HA2.out i hi hi)]; decide)
          have E3 := run_stLd (room := room) (v := u) HSBr.out
          have CW := hid (rweight0_any room (lvl C) u wr HRLr.out (by have := HX.out; have := H2.out; omega))
          have hI2 : ¬ (C.length : Int) < (C.length : Int) := by omega
          subst hfu
          clear hI
          go_wp2_with fail
          refine Calls.mono CW.out ?_
          rintro e w4 ⟨rfl, hb4⟩
          have B4 := hid (HBr.out.trans (hb4.mono HBr.out.size))
          have S4 := hid (HSBr.out.later hb4)
          have T4 := hid (HRBr.out.later hb4)
          have E4 := run_stLd (room := room) (v := .slice su (lvl C).length tu) S4.out
          have HB4 := hid hb4
          clear hb4 CW E3
          by_cases h5 : room < ((64 + xv (lvl C) : Nat) : Int)
          · have HE := hid (show nE C room = 5 by unfold nE; rw [if_neg H1.out, if_neg H2.out, if_neg H3.out, if_neg H4.out, if_pos h5])
            obtain ⟨W5, E5, R5, g5, z5⟩ := run_stSt T4.out 0 (.slice none 0 0) rfl
            have E6 := run_stLd R5
            have B5 := hid (gbB B4.out g5 (Nat.le_refl _) B4.out.size)
            unfold s0V at E5
            generalize ((64 + xv (lvl C) : Nat) : Int) = n at *
            clear R5 g5 z5 E4
            go_wp2_with fail
            refine bodyPost_ret (v := .tuple #[s0V 0 (.slice none 0 0), .int .i64 5]) (by simp [results, Tryz.results7, asAddr, ↓stLd_op, E6]) rfl ?_
            exact ⟨rE_bad HE.out (by decide) rfl, B5.out⟩
          · have HE := hid (show nE C room = 0 by unfold nE; rw [if_neg H1.out, if_neg H2.out, if_neg H3.out, if_neg H4.out, if_neg h5])
            obtain ⟨W5, E5, R5, g5, z5⟩ := run_stSt T4.out room (.slice su (lvl C).length tu) rfl
            have E6 := run_stLd R5
            have B5 := hid (gbB B4.out g5 (Nat.le_refl _) B4.out.size)
            have O5 := hid (show RLv W5 (.slice su (lvl C).length tu) (lvl C) by
              have o4 : OLv w4 (w.heap.size + 2) (.slice su (lvl C).length tu) (lvl C) := own_later (own_later HOL.out HBz.out) HB4.out
              exact OLv.reads (World.ownsRow.kept o4 g5 (by
                cases hv : (Value.slice su (lvl C).length tu).ownBlock with
                | none => exact .inl rfl
                | some g => exact .inr fun e => by have e := Option.some.inj e; have := (World.ownsRow.lt o4 _ hv).1; omega)))
            generalize ((64 + xv (lvl C) : Nat) : Int) = n at *
            clear R5 g5 z5
            go_wp2_with fail
            refine bodyPost_ret (v := .tuple #[s0V room (.slice su (lvl C).length tu), .int .i64 0]) (by simp [results, Tryz.results7, asAddr, ↓stLd_op, E6]) rfl ?_
            exact ⟨.inr ⟨HE.out, _, rfl, O5.out⟩, B5.out⟩
end Go.Proofs.YtdodockemkmmpaaGreat
