/-
  lin: both Untils. Laid by mklj3.py.
-/
import Derived.Test.YtgjalfmnnoaemaaLj2
namespace Go.Proofs.Ytgjalfmnnoaemaa
open Go.RowKit
set_option maxRecDepth 100000

attribute [local go_sem ↓] opLd_op opSt_op bsO_op rySt_op
theorem sn_req (m : Int) (x : Opx) : (sn m x).req = x.req := by unfold sn; split <;> rfl
theorem sn_beg (m : Int) (x : Opx) : (sn m x).beg = x.beg := by unfold sn; split <;> rfl
theorem sv_reads {w : World} {m : Int} {x : Opx} {v : Value} (h : RLv w v x.rep.levels) : RLv w (sv m x v) (sn m x).rep.levels := by
  unfold sv sn
  split
  · exact .inl ⟨rfl, none, 0, rfl, fun _ => rfl⟩
  · exact h
theorem sn_levels (m : Int) (x : Opx) : (sn m x).rep.levels.length ≤ x.rep.levels.length := by
  unfold sn
  split
  · exact Nat.zero_le _
  · exact Nat.le_refl _
theorem ne_of {w w' : World} {base base' : Nat} {e e' : TypeId} {size size' n n' : Nat} {xs xs' : List Value} {v out : Value} (h : w.ownsRow base e size v n xs) (k : w'.ownsRow base' e' size' out n' xs') (hb : w'.heap.size ≤ base) : NE v out := by
  cases hv : v.ownBlock with
  | none => exact .inl hv
  | some g =>
    right
    rw [hv]
    intro e2
    have h1 := (World.ownsRow.lt h g hv).1
    have h2 := (World.ownsRow.lt k g e2.symm).2
    omega
/-- what holds between two rounds -/
def UI (L : List Opx) (m : Int) (w : World) (o i : Value) (wr : World) : Prop := ∃ (k : Nat) (E : List Opv), k ≤ L.length ∧ i = .int .i64 (k : Int) ∧ E.map (·.1) = un m (L.take k) ∧ E.length ≤ k ∧ wr.ownsRow w.heap.size 35 14 o E.length (E.flatMap encO) ∧ UE wr w.heap.size o E ∧ Below w.heap.size w wr
theorem UI.skip {L : List Opx} {m : Int} {k : Nat} {E : List Opv} (hlt : k < L.length) (hE : E.map (·.1) = un m (L.take k)) (hb : ¬ L[k].beg ≤ m) : E.map (·.1) = un m (L.take (k + 1)) := by
  rw [List.take_succ_eq_append_getElem hlt, un_snoc, if_neg hb]
  exact hE
theorem UI.more {L : List Opx} {m : Int} {k : Nat} {E : List Opv} {u1 u2 : Value} (hlt : k < L.length) (hE : E.map (·.1) = un m (L.take k)) (hb : L[k].beg ≤ m) : (E ++ [(sn m L[k], u1, u2)]).map (·.1) = un m (L.take (k + 1)) := by
  rw [List.take_succ_eq_append_getElem hlt, un_snoc, if_pos hb, List.map_append, hE]
  rfl
set_option maxHeartbeats 4000000 in
theorem until_any (v : Value) (L : List Opx) (m : Int) (w : World) (h1 : RO w v L) (hL : LOk L) :
    Calls Try.prog 12 #[v, .int .i64 m] w fun e w' => (∃ v' R, e = .returned v' ∧ UR L m R ∧ UO w' w.heap.size v' R) ∧ Below w.heap.size w w' := by
  have H1 := hid h1
  have HL := hid hL
  have HC := hid (check_any v L w h1)
  obtain ⟨a1, p1, rfl⟩ := h1.form
  clear h1 hL
  go_enter Try.func12, Try.ntmps12
  go_wp2_with fail
  refine Calls.mono HC.out ?_
  rintro e w1 ⟨⟨ea, en, rfl, hck⟩, hb1⟩
  have HCK := hid hck
  have B1 := hid hb1
  clear HC hck hb1
  by_cases he : ¬ ea = 0
  · have he2 : (ea == 0) = false := by simpa using he
    have HE := hid he
    go_wp2_with fail
    go_ret
    exact ⟨⟨_, [], rfl, .inl ⟨_, _, HCK.out, HE.out, rfl⟩, UO.nil _ _⟩, B1.out⟩
  · obtain rfl : ea = 0 := Classical.not_not.1 he
    clear he
    go_wp2_with fail
    go_loopw [7, 19] (fun o i wr => UI L m w o i wr) (fun _ i _ => L.length - (intOf i).toNat)
    case atStart => exact ⟨0, [], by omega, rfl, rfl, by simp, World.ownsRow_nil _ _ _ _, fun y hy => by simp at hy, B1.out⟩
    case round =>
      obtain ⟨k, E, hk, rfl, hE, hEl, hown, hUE, hbl⟩ := hrel
      have hlen := HL.out.1
      have HE := hid hE
      have HEl := hid hEl
      have HOut := hid hown
      have HU := hid hUE
      have HB := hid hbl
      by_cases hlt : k < L.length
      · obtain ⟨b, off, cap, v1, v2, e1, hc1, o1, l1, m1⟩ := (H1.out.below hbl).at k hlt
        cases e1
        have hI : (k : Int) < (L.length : Int) := by omega
        have E1 := run_opLd o1
        have hx := hid (HL.out.2 (L[k]'hlt) (List.getElem_mem hlt))
        have KS := hid (fun hb => UI.skip (m := m) (E := E) hlt hE hb)
        have KM := hid (fun u1 u2 hb => UI.more (m := m) (E := E) (u1 := u1) (u2 := u2) hlt hE hb)
        have L1 := hid l1
        have M1 := hid m1
        obtain ⟨W, E2, bW, zW, oW⟩ := op_new wr (L[k]'hlt) l1.one m1.one
        have BW := hid bW
        have HO := hid oW
        have E3 := run_opLd oW.at
        have c11 := oW.at 11 _ rfl
        rw [Nat.zero_add] at c11
        have ZW := hid zW
        have f1 := l1.one
        have f2 := m1.one
        generalize L[k]'hlt = x at *
        clear o1 l1 m1 hc1 oW bW zW hE hEl hown hUE hbl
        by_cases hbe : x.beg ≤ m
        · have CS := hid (seenAt_any x v1 v2 m W f1 f2)
          generalize opA x v1 v2 = X at E1 E2 E3 CS
          clear f1 f2
          go_wp2_with fail
          refine Calls.mono CS.out ?_
          rintro e w2 ⟨rfl, hb2⟩
          have B2 := hid (show Below wr.heap.size wr w2 from BW.out.trans (hb2.mono BW.out.size))
          have CC := hid (copied_any (sn m x) v1 (sv m x v2) w2 (by rw [sn_req]; exact L1.out.below B2.out) (sv_reads (M1.out.below B2.out)) (by rw [sn_req]; exact ⟨hx.out.1, Nat.le_trans (sn_levels m x) hx.out.2⟩))
          generalize opA (sn m x) v1 (sv m x v2) = Y at *
          clear hb2 CS E1 E2 E3 c11 KS
          go_wp2_with fail
          refine Calls.mono CC.out ?_
          rintro e w3 ⟨⟨y1, y2, rfl, p1, p2⟩, hb3⟩
          have BWr := hid (show Below wr.heap.size wr w3 from B2.out.trans (hb3.mono B2.out.size))
          have NE1 := hid (ne_of p1 HOut.out B2.out.size)
          have NE2 := hid (ne_of p2 HOut.out B2.out.size)
          have hlow := Nat.le_trans HB.out.size B2.out.size
          have P1 := hid (show OLn w3 w.heap.size y1 (sn m x).req.lines from own_lower p1 hlow)
          have P2 := hid (show OLv w3 w.heap.size y2 (sn m x).rep.levels from own_lower p2 hlow)
          obtain ⟨s3, t3, rfl⟩ := P1.out.reads.form
          obtain ⟨s4, t4, rfl⟩ := P2.out.reads.form
          clear p1 p2 hb3 CC hlow
          have E7 := run_bsO w3 (sn m x) (Value.slice s3 (sn m x).req.lines.length t3) (Value.slice s4 (sn m x).rep.levels.length t4)
          obtain ⟨W7, hW7⟩ : ∃ W7, w3.alloc (.cells (opC (sn m x) (Value.slice s3 (sn m x).req.lines.length t3) (Value.slice s4 (sn m x).rep.levels.length t4)).toArray 35) = W7 := ⟨_, rfl⟩
          have RW7 := hid (show W7.heap[w3.heap.size]? = some (.cells (encO (sn m x, (Value.slice s3 (sn m x).req.lines.length t3), (Value.slice s4 (sn m x).rep.levels.length t4))).toArray 35 (0, 0)) by rw [← hW7]; exact heap_alloc_new w3 _)
          have BW7 := hid (show Below w3.heap.size w3 W7 by rw [← hW7]; exact (Below.refl _ _).alloc (Nat.le_refl _) _)
          rw [hW7] at E7
          have B7 := hid (show Below wr.heap.size wr W7 from BWr.out.trans (BW7.out.mono BWr.out.size))
          have O7 := hid (own_later HOut.out B7.out)
          have U7 := hid (UE.snoc (y := (sn m x, (Value.slice s3 (sn m x).req.lines.length t3), (Value.slice s4 (sn m x).rep.levels.length t4))) (HU.out.later B7.out) (show OLn W7 w.heap.size (Value.slice s3 (sn m x).req.lines.length t3) (sn m x).req.lines from own_later P1.out BW7.out) (show OLv W7 w.heap.size (Value.slice s4 (sn m x).rep.levels.length t4) (sn m x).rep.levels from own_later P2.out BW7.out) NE1.out NE2.out)
          have hbig : (E.length + 1) * 168 ≤ 140737488355328 := by have := HEl.out; omega
          have hbig2 : E.length + 1 ≤ maxLen := by unfold maxLen; have := HEl.out; omega
          have hbs := hid (show w.heap.size ≤ W7.heap.size from Nat.le_trans HB.out.size B7.out.size)
          have one1 : Value.oneCell' (Value.slice s3 (sn m x).req.lines.length t3) = true := rfl
          have one2 : Value.oneCell' (Value.slice s4 (sn m x).rep.levels.length t4) = true := rfl
          have HON := hid (opC_one (x := sn m x) one1 one2)
          clear one1 one2 hW7
          generalize hY : opA (sn m x) (Value.slice s3 (sn m x).req.lines.length t3) (Value.slice s4 (sn m x).rep.levels.length t4) = Y2 at *
          clear hY
          go_wp2_with (at_builtin; refine wpList_appX opinfo Try.underlying22 rfl (by decide) rfl (.tmp 27) (.tmp 32) rfl w.heap.size _ E.length (E.flatMap encO) rfl O7.out _ 1 (encO (sn m x, (Value.slice s3 (sn m x).req.lines.length t3), (Value.slice s4 (sn m x).rep.levels.length t4))) rfl rfl (.inr ⟨_, _, rfl, news_blk RW7.out⟩) HON.out hbig2 hbig hbs.out ?n5)
          case n5 =>
          intro u8 w8 ho8 hg8 hd8
          have U8 := hid (UE.grow U7.out hg8 hd8)
          have O8 := hid (show w8.ownsRow w.heap.size 35 14 u8 (E ++ [(sn m x, (Value.slice s3 (sn m x).req.lines.length t3), (Value.slice s4 (sn m x).rep.levels.length t4))]).length ((E ++ [(sn m x, (Value.slice s3 (sn m x).req.lines.length t3), (Value.slice s4 (sn m x).rep.levels.length t4))]).flatMap encO) by
            rw [List.length_append, List.flatMap_append]
            simpa using ho8)
          have B8 := hid (show Below w.heap.size w w8 from (HB.out.trans (B7.out.mono HB.out.size)).grown hg8 hbs.out (fun k hk => (World.ownsRow.lt HOut.out k hk).1))
          have M8 := hid (KM.out (Value.slice s3 (sn m x).req.lines.length t3) (Value.slice s4 (sn m x).rep.levels.length t4) hbe)
          have L8 := hid (show (E ++ [(sn m x, (Value.slice s3 (sn m x).req.lines.length t3), (Value.slice s4 (sn m x).rep.levels.length t4))]).length ≤ k + 1 by rw [List.length_append]; have := HEl.out; simp; omega)
          clear ho8 hg8 hd8 E7 hbig hbig2
          go_wp2_with fail
          go_roundw
          case rel => exact ⟨k + 1, _, by omega, by go_num, M8.out, L8.out, O8.out, U8.out, B8.out⟩
          case measure => simp [intOf]; omega
        · have hbe2 : ¬ x.beg ≤ m := hbe
          have MM := hid (KS.out (by omega))
          have BB := hid (HB.out.trans (BW.out.mono HB.out.size))
          have OO := hid (own_later HOut.out BW.out)
          have UU := hid (HU.out.later BW.out)
          have LL := hid (show E.length ≤ k + 1 by have := HEl.out; omega)
          generalize opA x v1 v2 = X at E1 E2 E3
          clear KM KS E3 f1 f2
          go_wp2_with fail
          go_roundw
          case rel => exact ⟨k + 1, E, by omega, by go_num, MM.out, LL.out, OO.out, UU.out, BB.out⟩
          case measure => simp [intOf]; omega
      · obtain rfl : k = L.length := by omega
        have KE := hid (show E.map (·.1) = un m L by rw [hE, List.take_length])
        clear hE hEl hown hUE hbl
        go_wp2_with fail
        go_ret
        exact ⟨⟨_, _, rfl, .inr ⟨_, HCK.out, rfl⟩, E, KE.out, HOut.out, HU.out⟩, HB.out⟩
set_option maxHeartbeats 4000000 in
theorem runtil_any (v : Value) (L : List Opx) (m : Int) (w : World) (h1 : RO w v L) (hL : LOk L) :
    Calls Try.prog 13 #[v, .int .i64 m] w fun e w' => (∃ v' R, e = .returned v' ∧ UR L m R ∧ UO w' w.heap.size v' R) ∧ Below w.heap.size w w' := by
  have H1 := hid h1
  have HL := hid hL
  have HC := hid (rcheck_any v L w h1)
  obtain ⟨a1, p1, rfl⟩ := h1.form
  clear h1 hL
  go_enter Try.func13, Try.ntmps13
  go_wp2_with fail
  refine Calls.mono HC.out ?_
  rintro e w1 ⟨⟨ea, en, rfl, hck⟩, hb1⟩
  have HCK := hid hck
  have B1 := hid hb1
  clear HC hck hb1
  by_cases he : ¬ ea = 0
  · have he2 : (ea == 0) = false := by simpa using he
    have HE := hid he
    go_wp2_with fail
    go_ret
    exact ⟨⟨_, [], rfl, .inl ⟨_, _, HCK.out, HE.out, rfl⟩, UO.nil _ _⟩, B1.out⟩
  · obtain rfl : ea = 0 := Classical.not_not.1 he
    clear he
    go_wp2_with fail
    go_loopw [7, 8] (fun o i wr => UI L m w o i wr) (fun _ i _ => L.length - (intOf i).toNat)
    case atStart => exact ⟨0, [], by omega, rfl, rfl, by simp, World.ownsRow_nil _ _ _ _, fun y hy => by simp at hy, B1.out⟩
    case round =>
      obtain ⟨k, E, hk, rfl, hE, hEl, hown, hUE, hbl⟩ := hrel
      have hlen := HL.out.1
      have HE := hid hE
      have HEl := hid hEl
      have HOut := hid hown
      have HU := hid hUE
      have HB := hid hbl
      by_cases hlt : k < L.length
      · obtain ⟨b, off, cap, v1, v2, e1, hc1, o1, l1, m1⟩ := (H1.out.below hbl).at k hlt
        cases e1
        have hI : (k : Int) < (L.length : Int) := by omega
        have E1 := run_opLd o1
        have hx := hid (HL.out.2 (L[k]'hlt) (List.getElem_mem hlt))
        have KS := hid (fun hb => UI.skip (m := m) (E := E) hlt hE hb)
        have KM := hid (fun u1 u2 hb => UI.more (m := m) (E := E) (u1 := u1) (u2 := u2) hlt hE hb)
        have L1 := hid l1
        have M1 := hid m1
        have CT := hid (rtwin_any (L[k]'hlt) v1 v2 wr l1 m1 hx.out)
        generalize L[k]'hlt = x at *
        generalize opA x v1 v2 = X at E1 CT
        clear o1 l1 m1 hc1 hE hEl hown hUE hbl
        go_wp2_with fail
        refine Calls.mono CT.out ?_
        rintro e w2 ⟨⟨q1, q2, rfl, o1, o2⟩, hb2⟩
        have f1 := o1.reads.one
        have f2 := o2.reads.one
        obtain ⟨W, E2, bW, zW, oW⟩ := op_new w2 x f1 f2
        have B2 := hid hb2
        have BW := hid (show Below wr.heap.size wr W from hb2.trans (bW.mono hb2.size))
        have P1 := hid (show OLn W wr.heap.size q1 x.req.lines from own_later o1 bW)
        have P2 := hid (show OLv W wr.heap.size q2 x.rep.levels from own_later o2 bW)
        have N1 := hid (ne_of o1 HOut.out (Nat.le_refl _))
        have N2 := hid (ne_of o2 HOut.out (Nat.le_refl _))
        have Q1 := hid (fun g (h : q1.ownBlock = some g) => (World.ownsRow.lt o1 g h).2)
        have Q2 := hid (fun g (h : q2.ownBlock = some g) => (World.ownsRow.lt o2 g h).2)
        have HO := hid oW
        have c11 := oW.at 11 _ rfl
        have c12 := oW.at 12 _ rfl
        have c13 := oW.at 13 _ rfl
        rw [Nat.zero_add] at c11 c12 c13
        have ZW := hid zW
        have f13 : W.frozen? ⟨w2.heap.size, 13, none⟩ = false := Lib.frozen_of_heap oW 13
        obtain ⟨s3, t3, rfl⟩ := o1.reads.form
        obtain ⟨s4, t4, rfl⟩ := o2.reads.form
        obtain ⟨Y, hY⟩ : ∃ Y, Y = opA x (.slice s3 x.req.lines.length t3) (.slice s4 x.rep.levels.length t4) := ⟨_, rfl⟩
        rw [← hY] at E2 ⊢
        have HY := hid hY
        have KW := hid (show ∀ wx, W.grownBy wx (some w2.heap.size) → OLn wx wr.heap.size (.slice s3 x.req.lines.length t3) x.req.lines ∧ OLv wx wr.heap.size (.slice s4 x.rep.levels.length t4) x.rep.levels from fun wx hg => ⟨World.ownsRow.kept P1.out hg (by
          cases h : (Value.slice s3 x.req.lines.length t3).ownBlock with
          | none => exact .inl rfl
          | some g => exact .inr fun e => by cases e; have := Q1.out _ h; omega), World.ownsRow.kept P2.out hg (by
          cases h : (Value.slice s4 x.rep.levels.length t4).ownBlock with
          | none => exact .inl rfl
          | some g => exact .inr fun e => by cases e; have := Q2.out _ h; omega)⟩)
        clear o1 o2 hb2 bW zW oW CT E1 f1 f2 hY
        by_cases hbe : x.beg ≤ m
        · have hbe2 : ¬ m < x.beg := by omega
          by_cases hfi : m < x.fin
          · have hs : sn m x = ⟨x.req, ry0, x.beg, 4611686018427387904, true⟩ := if_pos hfi
            obtain ⟨W2, hW2⟩ : ∃ W2, W.setCell ⟨w2.heap.size, 13, none⟩ (.bool true) = W2 := ⟨_, rfl⟩
            have O2 : OB W2 w2.heap.size ⟨x.req, x.rep, x.beg, x.fin, true⟩ (.slice s3 x.req.lines.length t3) (.slice s4 x.rep.levels.length t4) := by rw [← hW2]; exact HO.out.opn true
            have g2 : W.grownBy W2 (some w2.heap.size) := by rw [← hW2]; exact gb_put _ _ _ _
            obtain ⟨W3, E4, O3, g3, z3⟩ := run_rySt O2
            have f12 : W3.frozen? ⟨w2.heap.size, 12, none⟩ = false := Lib.frozen_of_heap O3 12
            have d12 := O3.at 12 _ rfl
            rw [Nat.zero_add] at d12
            obtain ⟨W4, hW4⟩ : ∃ W4, W3.setCell ⟨w2.heap.size, 12, none⟩ (.int .i64 4611686018427387904) = W4 := ⟨_, rfl⟩
            have O4 : OB W4 w2.heap.size ⟨x.req, ry0, x.beg, 4611686018427387904, true⟩ (.slice s3 x.req.lines.length t3) (.slice none 0 0) := by rw [← hW4]; exact O3.fin _
            have g4 : W.grownBy W4 (some w2.heap.size) := by rw [← hW4]; exact (g2.trans g3).trans (gb_put _ _ _ _)
            rw [← hs] at O4
            have E5 := run_opLd O4.at
            have BWr := hid (show Below wr.heap.size wr W4 from below_gb BW.out g4 B2.out.size BW.out.size)
            have hsl : (sn m x).req = x.req := sn_req m x
            have NE1 := N1
            have NE2 := hid (show NE (.slice none 0 0) u7 from Or.inl rfl)
            have P14 := hid (show OLn W4 w.heap.size (.slice s3 x.req.lines.length t3) (sn m x).req.lines by rw [hsl]; exact own_lower (KW.out W4 g4).1 HB.out.size)
            have P24 := hid (show OLv W4 w.heap.size (.slice none 0 0) (sn m x).rep.levels by rw [hs]; exact World.ownsRow_nil _ _ _ _)
            clear O2 O3 O4 g2 g3 g4 z3 hs hsl
            have E7 := run_bsO W4 (sn m x) (Value.slice s3 x.req.lines.length t3) (Value.slice none 0 0)
            obtain ⟨W7, hW7⟩ : ∃ W7, W4.alloc (.cells (opC (sn m x) (Value.slice s3 x.req.lines.length t3) (Value.slice none 0 0)).toArray 35) = W7 := ⟨_, rfl⟩
            have RW7 := hid (show W7.heap[W4.heap.size]? = some (.cells (encO (sn m x, (Value.slice s3 x.req.lines.length t3), (Value.slice none 0 0))).toArray 35 (0, 0)) by rw [← hW7]; exact heap_alloc_new W4 _)
            have BW7 := hid (show Below W4.heap.size W4 W7 by rw [← hW7]; exact (Below.refl _ _).alloc (Nat.le_refl _) _)
            rw [hW7] at E7
            have B7 := hid (show Below wr.heap.size wr W7 from BWr.out.trans (BW7.out.mono BWr.out.size))
            have O7 := hid (own_later HOut.out B7.out)
            have U7 := hid (UE.snoc (y := (sn m x, (Value.slice s3 x.req.lines.length t3), (Value.slice none 0 0))) (HU.out.later B7.out) (show OLn W7 w.heap.size (Value.slice s3 x.req.lines.length t3) (sn m x).req.lines from own_later P14.out BW7.out) (show OLv W7 w.heap.size (Value.slice none 0 0) (sn m x).rep.levels from own_later P24.out BW7.out) NE1.out NE2.out)
            have hbig : (E.length + 1) * 168 ≤ 140737488355328 := by have := HEl.out; omega
            have hbig2 : E.length + 1 ≤ maxLen := by unfold maxLen; have := HEl.out; omega
            have hbs := hid (show w.heap.size ≤ W7.heap.size from Nat.le_trans HB.out.size B7.out.size)
            have one1 : Value.oneCell' (Value.slice s3 x.req.lines.length t3) = true := rfl
            have one2 : Value.oneCell' (Value.slice none 0 0) = true := rfl
            have HON := hid (opC_one (x := sn m x) one1 one2)
            clear one1 one2 hW7
            generalize hY : opA (sn m x) (Value.slice s3 x.req.lines.length t3) (Value.slice none 0 0) = Y2 at *
            clear hY
            go_wp2_with (at_builtin; refine wpList_appX opinfo Try.underlying22 rfl (by decide) rfl (.tmp 40) (.tmp 42) rfl w.heap.size _ E.length (E.flatMap encO) rfl O7.out _ 1 (encO (sn m x, (Value.slice s3 x.req.lines.length t3), (Value.slice none 0 0))) rfl rfl (.inr ⟨_, _, rfl, news_blk RW7.out⟩) HON.out hbig2 hbig hbs.out ?n5)
            case n5 =>
            intro u8 w8 ho8 hg8 hd8
            have U8 := hid (UE.grow U7.out hg8 hd8)
            have O8 := hid (show w8.ownsRow w.heap.size 35 14 u8 (E ++ [(sn m x, (Value.slice s3 x.req.lines.length t3), (Value.slice none 0 0))]).length ((E ++ [(sn m x, (Value.slice s3 x.req.lines.length t3), (Value.slice none 0 0))]).flatMap encO) by
              rw [List.length_append, List.flatMap_append]
              simpa using ho8)
            have B8 := hid (show Below w.heap.size w w8 from (HB.out.trans (B7.out.mono HB.out.size)).grown hg8 hbs.out (fun k hk => (World.ownsRow.lt HOut.out k hk).1))
            have M8 := hid (KM.out (Value.slice s3 x.req.lines.length t3) (Value.slice none 0 0) hbe)
            have L8 := hid (show (E ++ [(sn m x, (Value.slice s3 x.req.lines.length t3), (Value.slice none 0 0))]).length ≤ k + 1 by rw [List.length_append]; have := HEl.out; simp; omega)
            clear ho8 hg8 hd8 E7 hbig hbig2
            go_wp2_with fail
            go_roundw
            case rel => exact ⟨k + 1, _, by omega, by go_num, M8.out, L8.out, O8.out, U8.out, B8.out⟩
            case measure => simp [intOf]; omega
          · have hs : sn m x = x := if_neg hfi
            have E5 := run_opLd HO.out.at
            rw [← HY.out] at E5
            have BWr := BW
            have NE1 := N1
            have NE2 := N2
            have P14 := hid (show OLn W w.heap.size (.slice s3 x.req.lines.length t3) (sn m x).req.lines by rw [hs]; exact own_lower P1.out HB.out.size)
            have P24 := hid (show OLv W w.heap.size (.slice s4 x.rep.levels.length t4) (sn m x).rep.levels by rw [hs]; exact own_lower P2.out HB.out.size)
            have hYs : opA (sn m x) (.slice s3 x.req.lines.length t3) (.slice s4 x.rep.levels.length t4) = Y := by rw [hs, ← HY.out]
            clear hs
            have E7 := run_bsO W (sn m x) (Value.slice s3 x.req.lines.length t3) (Value.slice s4 x.rep.levels.length t4)
            obtain ⟨W7, hW7⟩ : ∃ W7, W.alloc (.cells (opC (sn m x) (Value.slice s3 x.req.lines.length t3) (Value.slice s4 x.rep.levels.length t4)).toArray 35) = W7 := ⟨_, rfl⟩
            have RW7 := hid (show W7.heap[W.heap.size]? = some (.cells (encO (sn m x, (Value.slice s3 x.req.lines.length t3), (Value.slice s4 x.rep.levels.length t4))).toArray 35 (0, 0)) by rw [← hW7]; exact heap_alloc_new W _)
            have BW7 := hid (show Below W.heap.size W W7 by rw [← hW7]; exact (Below.refl _ _).alloc (Nat.le_refl _) _)
            rw [hW7] at E7
            have B7 := hid (show Below wr.heap.size wr W7 from BWr.out.trans (BW7.out.mono BWr.out.size))
            have O7 := hid (own_later HOut.out B7.out)
            have U7 := hid (UE.snoc (y := (sn m x, (Value.slice s3 x.req.lines.length t3), (Value.slice s4 x.rep.levels.length t4))) (HU.out.later B7.out) (show OLn W7 w.heap.size (Value.slice s3 x.req.lines.length t3) (sn m x).req.lines from own_later P14.out BW7.out) (show OLv W7 w.heap.size (Value.slice s4 x.rep.levels.length t4) (sn m x).rep.levels from own_later P24.out BW7.out) NE1.out NE2.out)
            have hbig : (E.length + 1) * 168 ≤ 140737488355328 := by have := HEl.out; omega
            have hbig2 : E.length + 1 ≤ maxLen := by unfold maxLen; have := HEl.out; omega
            have hbs := hid (show w.heap.size ≤ W7.heap.size from Nat.le_trans HB.out.size B7.out.size)
            have one1 : Value.oneCell' (Value.slice s3 x.req.lines.length t3) = true := rfl
            have one2 : Value.oneCell' (Value.slice s4 x.rep.levels.length t4) = true := rfl
            have HON := hid (opC_one (x := sn m x) one1 one2)
            clear one1 one2 hW7
            rw [hYs] at E7
            clear hYs
            go_wp2_with (at_builtin; refine wpList_appX opinfo Try.underlying22 rfl (by decide) rfl (.tmp 40) (.tmp 42) rfl w.heap.size _ E.length (E.flatMap encO) rfl O7.out _ 1 (encO (sn m x, (Value.slice s3 x.req.lines.length t3), (Value.slice s4 x.rep.levels.length t4))) rfl rfl (.inr ⟨_, _, rfl, news_blk RW7.out⟩) HON.out hbig2 hbig hbs.out ?n5)
            case n5 =>
            intro u8 w8 ho8 hg8 hd8
            have U8 := hid (UE.grow U7.out hg8 hd8)
            have O8 := hid (show w8.ownsRow w.heap.size 35 14 u8 (E ++ [(sn m x, (Value.slice s3 x.req.lines.length t3), (Value.slice s4 x.rep.levels.length t4))]).length ((E ++ [(sn m x, (Value.slice s3 x.req.lines.length t3), (Value.slice s4 x.rep.levels.length t4))]).flatMap encO) by
              rw [List.length_append, List.flatMap_append]
              simpa using ho8)
            have B8 := hid (show Below w.heap.size w w8 from (HB.out.trans (B7.out.mono HB.out.size)).grown hg8 hbs.out (fun k hk => (World.ownsRow.lt HOut.out k hk).1))
            have M8 := hid (KM.out (Value.slice s3 x.req.lines.length t3) (Value.slice s4 x.rep.levels.length t4) hbe)
            have L8 := hid (show (E ++ [(sn m x, (Value.slice s3 x.req.lines.length t3), (Value.slice s4 x.rep.levels.length t4))]).length ≤ k + 1 by rw [List.length_append]; have := HEl.out; simp; omega)
            clear ho8 hg8 hd8 E7 hbig hbig2
            go_wp2_with fail
            go_roundw
            case rel => exact ⟨k + 1, _, by omega, by go_num, M8.out, L8.out, O8.out, U8.out, B8.out⟩
            case measure => simp [intOf]; omega
        · have hbe2 : m < x.beg := by omega
          have MM := hid (KS.out (by omega))
          have BB := hid (HB.out.trans (BW.out.mono HB.out.size))
          have OO := hid (own_later HOut.out BW.out)
          have UU := hid (HU.out.later BW.out)
          have LL := hid (show E.length ≤ k + 1 by have := HEl.out; omega)
          clear KM KS
          go_wp2_with fail
          go_roundw
          case rel => exact ⟨k + 1, E, by omega, by go_num, MM.out, LL.out, OO.out, UU.out, BB.out⟩
          case measure => simp [intOf]; omega
      · obtain rfl : k = L.length := by omega
        have KE := hid (show E.map (·.1) = un m L by rw [hE, List.take_length])
        clear hE hEl hown hUE hbl
        go_wp2_with fail
        go_ret
        exact ⟨⟨_, _, rfl, .inr ⟨_, HCK.out, rfl⟩, E, KE.out, HOut.out, HU.out⟩, HB.out⟩
end Go.Proofs.Ytgjalfmnnoaemaa
