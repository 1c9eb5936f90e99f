/-
  GtinSpoilt: the law's own walk, out of the contracts.
-/
import Derived.Test.YtjmpkogjilefnaaDoorGrw
import Derived.Test.YtjmpkogjilefnaaDoorWrk
import Derived.Deep.QuietTactic
import Derived.BigQuiet
import Derived.WalkSmall
namespace Go.Proofs.YtjmpkogjilefnaaDoor
open Go.RowKit
set_option maxRecDepth 100000

theorem set_cut (l : List UInt8) (k : Nat) (c : UInt8) (h : k < l.length) : l.take k ++ [c] ++ l.drop (k + 1) = l.set k c := by
  rw [List.set_eq_take_append_cons_drop, if_pos h, List.append_assoc]
  rfl

theorem with_any (s : ByteArray) (k : Nat) (c : UInt8) (w : World) (hk : k < s.size) (hs : s.size ≤ 1000) :
    Calls Tryd.prog 19 #[.string s, .int .i64 (k : Int), .int .u8 (c.toNat : Int)] w fun e w' => ∃ t : ByteArray, e = .returned (.string t) ∧ t.data.toList = s.data.toList.set k c ∧ Below w.heap.size w w' := by
  have hl := len_list s
  have kc := run_one_drew w _ c rfl
  have hset := set_cut s.data.toList k c (by omega)
  go_enter Tryd.func19, Tryd.ntmps19
  go_wp2_with fail
  go_region
  go_wp2
  go_ret
  refine ⟨_, rfl, ?_, ((Below.refl _ _).alloc (Nat.le_refl _) _).drew⟩
  rw [← hset]
  have e1 : (s.extract (k + 1) s.size).data.toList = s.data.toList.drop (k + 1) := by
    rw [Lib.extract_data, ← hl, ← List.length_drop, List.take_length]
  have e2 : (s.extract 0 k).data.toList = s.data.toList.take k := by rw [Lib.extract_data]; rfl
  rw [ByteArray.data_append, Array.toList_append, ByteArray.data_append, Array.toList_append, e1, e2]

/-- is element c a code? -/
def CB (L : List El) (c : Nat) : Bool := match L[c]? with
  | some x => decide (x.1.data.toList = [48, 48]) || decide (x.1.data.toList = [48, 49]) || decide (x.1.data.toList = [52, 49, 52])
  | none => false
theorem CB_at {L : List El} {c : Nat} (h : c < L.length) : CB L c = (decide ((L[c]).1.data.toList = [48, 48]) || decide ((L[c]).1.data.toList = [48, 49]) || decide ((L[c]).1.data.toList = [52, 49, 52])) := by
  unfold CB
  rw [List.getElem?_eq_getElem h]
theorem CB_is {L : List El} {c : Nat} (h : CB L c = true) : ∃ hc : c < L.length, ∃ kk, kfind (L[c]).1.data.toList = some kk ∧ kk ≤ 2 := by
  by_cases hc : c < L.length
  · refine ⟨hc, ?_⟩
    rw [CB_at hc] at h
    simp only [Bool.or_eq_true, decide_eq_true_eq] at h
    rcases h with (h | h) | h
    · exact ⟨0, by rw [h]; rfl, by omega⟩
    · exact ⟨1, by rw [h]; rfl, by omega⟩
    · exact ⟨2, by rw [h]; rfl, by omega⟩
  · unfold CB at h
    rw [List.getElem?_eq_none (by omega)] at h
    cases h
theorem CB_01 {L : List El} (h : tw L [48, 49] L.length = true) : ∃ c, c < L.length ∧ CB L c = true := by
  unfold tw at h
  rw [List.take_length] at h
  obtain ⟨x, hx, he⟩ := List.any_eq_true.1 h
  obtain ⟨c, hc, rfl⟩ := List.mem_iff_getElem.1 hx
  refine ⟨c, hc, ?_⟩
  rw [CB_at hc]
  have : (L[c]).1.data.toList = [48, 49] := by simpa using he
  rw [this]
  decide
theorem GL.take {L : List El} (h : GL L) (m : Nat) : GL (L.take m) := by
  refine ⟨fun j hj => ?_, fun x hx => h.2 x (List.mem_of_mem_take hx)⟩
  have hj2 : j < m ∧ j < L.length := by rw [List.length_take] at hj; omega
  have := h.1 j hj2.2
  rw [ft_at hj2.2] at this
  rw [ft_at hj, List.take_take, List.getElem_take, show min j m = j by omega]
  exact this
theorem GL.prt13 {L : List El} (h : GL L) (hl : L.length ≤ 13) : PrA L ⟨(scP L L.length).toArray⟩ 0 0 :=
  .inr ⟨h.1, .inr (.inr ⟨h.lone, by have := h.sc L.length (Nat.le_refl _); omega, by simp, rfl, rfl⟩)⟩
theorem RE.fst {w : World} {ao : Option Addr} {cap : Nat} {L : List El} (h : RE w (.slice ao L.length cap) L) {m : Nat} (h0 : 0 < m) (hm : m ≤ L.length) : RE w (.slice ao m cap) (L.take m) := by
  obtain ⟨b, off, cap', hv, hc, hcell⟩ := h.here (by omega)
  cases hv
  refine .inr ⟨b, off, cap, by rw [List.length_take, show min m L.length = m by omega], by rw [List.length_take]; omega, fun j hj => ?_⟩
  have hj2 : j < m := by rw [List.length_take] at hj; omega
  rw [List.getElem_take]
  exact hcell j (by omega)
theorem scE_next {L : List El} {j : Nat} (h : j + 1 < L.length) : (scP (L.take (j + 2)) (L.take (j + 2)).length).length = (scE (L.take (j + 1))).length + (L[j + 1]).1.size + (L[j + 1]).2.size := by
  have ht : L.take (j + 2) = L.take (j + 1) ++ [L[j + 1]] := by
    rw [List.take_add_one, List.getElem?_eq_getElem h]
    rfl
  rw [ht, scP_last, List.length_append, List.length_append, len_list, len_list]
theorem reads_629 (w : World) : Reads (w.alloc (.cells #[.int .u8 6, .int .u8 2, .int .u8 9] 5)) (.slice (some ⟨w.heap.size, 0, none⟩) 3 3) [6, 2, 9] := by
  refine .inr ⟨w.heap.size, 0, 3, rfl, Nat.le_refl _, fun j hj => ?_⟩
  have hj' : j < 3 := hj
  have : j = 0 ∨ j = 1 ∨ j = 2 := by omega
  rcases this with rfl | rfl | rfl <;> simp

set_option maxHeartbeats 32000000 in
theorem gspoilt_any (v : Value) (n : Nat) (which at_ by_ : Int) (w : World) (hkn : HasKn w) (hit : IT w v n) :
    Calls Tryd.prog 5 #[v, .int .i64 which, .int .i64 at_, .int .i64 by_] w fun e w' => e = .returned (.bool true) ∧ Below w.heap.size w w' := by
  have HK := hid hkn
  have G := hid (grown_any v n w hit)
  have hvf : ∃ ao cap, v = .slice ao n cap := by obtain ⟨_, ao, cap, h, _⟩ := hit; exact ⟨ao, cap, h⟩
  obtain ⟨ao, cap, rfl⟩ := hvf
  clear hkn hit
  go_enter Tryd.func5, Tryd.ntmps5
  go_wp2_with fail
  refine G.out.mono ?_
  rintro e w1 ⟨⟨lv, L, rfl, hO, hG, hL⟩, hb1⟩
  have R1 := hid hO.reads
  obtain ⟨lo, lc, rfl⟩ := R1.out.form
  have HG := hid hG
  have B1 := hid hb1
  clear hO hG hb1 G
  go_wp2_with fail
  refine (works_any _ (HK.out.below B1.out)).mono ?_
  rintro e w2 ⟨rfl, hb2⟩
  have R2 := hid (R1.out.below hb2)
  have B2 := hid (B1.out.trans (hb2.mono B1.out.size))
  clear hb2 R1 B1
  go_wp2_with (at_builtin; refine wpList_appE rfl _ _ rfl w.heap.size _ [] rfl (OE.nil _ _) _ L rfl R2.out ?hlen2 B2.out.size ?hnext2)
  case hlen2 => simp; omega
  case hnext2 =>
    intro ov w3 ho3 hg3
    have O3 := hid ho3
    have B3 := hid (B2.out.grown hg3 B2.out.size (fun j hj => by cases hj))
    clear ho3 hg3 R2 B2
    obtain ⟨oo, oc, rfl⟩ := O3.out.reads.form
    go_wp2_with fail
    go_loopw [12, 13] (fun t i wx => ∃ j : Nat, j ≤ L.length ∧ i = .int .i64 (j : Int) ∧ wx = w3 ∧ t = .bool (tw L [48, 49] j)) (fun _ i _ => L.length - (intOf i).toNat)
    case atStart => exact ⟨0, by omega, rfl, rfl, rfl⟩
    case round =>
      obtain ⟨j, hj, rfl, hw, rfl⟩ := hrel
      have hws := hw.symm
      clear hw
      subst hws
      by_cases hjl : j < L.length
      · have hjI : (j : Int) < (L.length : Int) := by omega
        obtain ⟨b2, off2, cap2, hv, hcap2, hcell⟩ := O3.out.reads.here (by omega)
        have hvo : oo = some ⟨b2, off2, none⟩ := by cases hv; rfl
        have hvc : oc = cap2 := by cases hv; rfl
        subst hvo hvc
        clear hv
        have d0 := (hcell j hjl).1
        clear hcell
        have HT := hid (tw_step (a := [48, 49]) hjl)
        obtain ⟨t0, ht0⟩ : ∃ t0, tw L [48, 49] j = t0 := ⟨_, rfl⟩
        rw [ht0] at HT ⊢
        clear ht0
        cases t0 with
        | true =>
          rw [Bool.true_or] at HT
          go_wp2
          go_roundw
          case rel => exact ⟨j + 1, by omega, by go_num, by simp, by rw [HT.out]⟩
          case measure => simp [intOf]; omega
        | false =>
          rw [Bool.false_or] at HT
          by_cases he : L[j].1.data.toList = [48, 49]
          · have hb : ((L[j]'hjl).1.toList == [48, 49]) = true := by rw [ByteArray.toList_eq, he]; rfl
            have HT2 := hid (HT.out.trans (by rw [he]; rfl : _ = true))
            go_wp2
            go_roundw
            case rel => exact ⟨j + 1, by omega, by go_num, by simp, by rw [HT2.out]⟩
            case measure => simp [intOf]; omega
          · have hb : ((L[j]'hjl).1.toList == [48, 49]) = false := by rw [ByteArray.toList_eq]; exact beq_eq_false_iff_ne.2 he
            have HT2 := hid (HT.out.trans (beq_eq_false_iff_ne.2 he))
            go_wp2
            go_roundw
            case rel => exact ⟨j + 1, by omega, by go_num, by simp, by rw [HT2.out]⟩
            case measure => simp [intOf]; omega
      · have hjI : ¬ (j : Int) < (L.length : Int) := by omega
        have hjL : j = L.length := by omega
        subst hjL
        cases htw : tw L [48, 49] L.length with
        | true =>
          have H01 := hid (CB_01 htw)
          have OB := O3
          have BB := B3
          have hL13 : L.length ≤ 13 := by omega
          clear htw hL O3 B3
          have hL := hL13
          clear hL13
          have hX := hid (show ∀ x ∈ L, x.2.size ≤ 281474976710656 from fun x hx => by have := (HG.out.2 x hx).2; omega)
          go_wp2_with fail
          go_loopw [16, 17] (fun cv i wr => ∃ (k : Nat) (C : List Nat), i = .int .i64 (k : Int) ∧ k ≤ L.length ∧ OE wr w.heap.size (.slice oo L.length oc) L ∧ OG wr w.heap.size cv C ∧ C.length ≤ k ∧ ((∀ c ∈ C, CB L c = true) ∧ ∀ j, j < k → CB L j = true → j ∈ C) ∧ Below w.heap.size w wr) (fun _ i _ => L.length - (intOf i).toNat)
          case atStart => exact ⟨0, [], rfl, by omega, OB.out, OG.nil _ _, by simp, ⟨(fun c hc => by cases hc), (fun j hj => by omega)⟩, BB.out⟩
          case round =>
            obtain ⟨k, C, rfl, hk, hO, hN, hCk, hI, hb⟩ := hrel
            have HO := hid hO
            have HN := hid hN
            have HI := hid hI
            have HB := hid hb
            clear hO hN hI hb OB BB
            have hcf : ∃ co cc, u16 = Value.slice co C.length cc := by
              rcases HN.out.2 with ⟨h, hl⟩ | ⟨g, cap, cur, h, _⟩
              · have hc0 : C = [] := List.eq_nil_of_length_eq_zero hl
                rw [hc0]
                exact ⟨none, 0, h⟩
              · exact ⟨_, _, h⟩
            obtain ⟨co, cc, rfl⟩ := hcf
            by_cases hlt : k < L.length
            · have hkI : (k : Int) < (L.length : Int) := by omega
              obtain ⟨b2, off2, cap2, hv, hcap2, hcell⟩ := HO.out.reads.here (by omega)
              have hvo : oo = some ⟨b2, off2, none⟩ := by cases hv; rfl
              have hvc : oc = cap2 := by cases hv; rfl
              subst hvo hvc
              clear hv
              have d0 := (hcell k hlt).1
              clear hcell
              obtain ⟨a, ha⟩ : ∃ a, (L[k]).1 = a := ⟨_, rfl⟩
              rw [ha] at d0
              by_cases e0 : a.data.toList = [48, 48]
              · have hb0 : (a.toList == [48, 48]) = true := by rw [ByteArray.toList_eq, e0]; rfl
                have hcb : CB L k = true := by rw [CB_at hlt, ha]; simp [e0]
                have HIn := hid (show (∀ c ∈ C ++ [k], CB L c = true) ∧ ∀ j, j < k + 1 → CB L j = true → j ∈ C ++ [k] from ⟨fun c hc => by
                  rcases List.mem_append.1 hc with hc | hc
                  · exact HI.out.1 c hc
                  · rw [List.mem_singleton.1 hc]; exact hcb, fun j hj hjc => by
                  by_cases e : j = k
                  · simp [e]
                  · exact List.mem_append_left _ (HI.out.2 j (by omega) hjc)⟩)
                clear hcb ha
                obtain ⟨j0, hj0, hy0, hy1, hy2⟩ := info_parts intinfo
                have hzr := HB.out.size
                go_wp2_with (at_builtin; refine wpList_append_own _ rfl _ _ 37 rfl w.heap.size 3 j0 (.int .i64 0) 1 8 Tryd.underlying37 hj0 hy0 hy1 hy2 rfl (by decide) _ _ _ rfl (World.ownsRow.alloc HN.out _) ⟨wr.heap.size, 0, none⟩ 1 1 [.int .i64 (k : Int)] rfl rfl ?c1 ?c2 ?c3 ?c4 ?c5 ?c6)
                case c1 =>
                  intro j u hj
                  match j, hj with
                  | 0, hj => simp at hj; subst hj; simp [Addr.add]
                case c2 => intro u hu; simp at hu; subst hu; rfl
                case c3 => unfold maxLen; omega
                case c4 => omega
                case c5 => simp; omega
                case c6 =>
                  intro v8 w8 hown8 hgrow8 _
                  have s8 : wr.grownBy w8 (Value.slice co C.length cc).ownBlock := gb_trans (gb_alloc _ _ _) hgrow8
                  have hap := own_apart HO.out HN.out
                  have O8 := hid (show OE w8 w.heap.size (.slice (some ⟨b2, off2, none⟩) L.length oc) L from World.ownsRow.kept HO.out s8 (by
                    cases hg : (Value.slice (some ⟨b2, off2, none⟩) L.length oc).ownBlock with
                    | none => exact .inl rfl
                    | some j => exact .inr (fun e => hap j hg e.symm)))
                  have N8 := hid (show OG w8 w.heap.size v8 (C ++ [k]) by
                    unfold OG
                    rw [List.map_append, List.length_append]
                    exact hown8)
                  have B8 := hid (HB.out.grown s8 HB.out.size (fun j hj => (World.ownsRow.lt HN.out j hj).1))
                  clear hown8 hgrow8 s8 hap
                  go_wp2
                  go_roundw
                  case rel => exact ⟨k + 1, C ++ [k], by go_num, by omega, O8.out, N8.out, by simp; omega, HIn.out, B8.out⟩
                  case measure => simp [intOf]; omega
              · by_cases e1 : a.data.toList = [48, 49]
                · have hb0 : (a.toList == [48, 48]) = false := by rw [ByteArray.toList_eq]; exact beq_eq_false_iff_ne.2 e0
                  have hb1 : (a.toList == [48, 49]) = true := by rw [ByteArray.toList_eq, e1]; rfl
                  have hcb : CB L k = true := by rw [CB_at hlt, ha]; simp [e1]
                  have HIn := hid (show (∀ c ∈ C ++ [k], CB L c = true) ∧ ∀ j, j < k + 1 → CB L j = true → j ∈ C ++ [k] from ⟨fun c hc => by
                    rcases List.mem_append.1 hc with hc | hc
                    · exact HI.out.1 c hc
                    · rw [List.mem_singleton.1 hc]; exact hcb, fun j hj hjc => by
                    by_cases e : j = k
                    · simp [e]
                    · exact List.mem_append_left _ (HI.out.2 j (by omega) hjc)⟩)
                  clear hcb ha
                  obtain ⟨j0, hj0, hy0, hy1, hy2⟩ := info_parts intinfo
                  have hzr := HB.out.size
                  go_wp2_with (at_builtin; refine wpList_append_own _ rfl _ _ 37 rfl w.heap.size 3 j0 (.int .i64 0) 1 8 Tryd.underlying37 hj0 hy0 hy1 hy2 rfl (by decide) _ _ _ rfl (World.ownsRow.alloc HN.out _) ⟨wr.heap.size, 0, none⟩ 1 1 [.int .i64 (k : Int)] rfl rfl ?c1 ?c2 ?c3 ?c4 ?c5 ?c6)
                  case c1 =>
                    intro j u hj
                    match j, hj with
                    | 0, hj => simp at hj; subst hj; simp [Addr.add]
                  case c2 => intro u hu; simp at hu; subst hu; rfl
                  case c3 => unfold maxLen; omega
                  case c4 => omega
                  case c5 => simp; omega
                  case c6 =>
                    intro v8 w8 hown8 hgrow8 _
                    have s8 : wr.grownBy w8 (Value.slice co C.length cc).ownBlock := gb_trans (gb_alloc _ _ _) hgrow8
                    have hap := own_apart HO.out HN.out
                    have O8 := hid (show OE w8 w.heap.size (.slice (some ⟨b2, off2, none⟩) L.length oc) L from World.ownsRow.kept HO.out s8 (by
                      cases hg : (Value.slice (some ⟨b2, off2, none⟩) L.length oc).ownBlock with
                      | none => exact .inl rfl
                      | some j => exact .inr (fun e => hap j hg e.symm)))
                    have N8 := hid (show OG w8 w.heap.size v8 (C ++ [k]) by
                      unfold OG
                      rw [List.map_append, List.length_append]
                      exact hown8)
                    have B8 := hid (HB.out.grown s8 HB.out.size (fun j hj => (World.ownsRow.lt HN.out j hj).1))
                    clear hown8 hgrow8 s8 hap
                    go_wp2
                    go_roundw
                    case rel => exact ⟨k + 1, C ++ [k], by go_num, by omega, O8.out, N8.out, by simp; omega, HIn.out, B8.out⟩
                    case measure => simp [intOf]; omega
                · by_cases e2 : a.data.toList = [52, 49, 52]
                  · have hb0 : (a.toList == [48, 48]) = false := by rw [ByteArray.toList_eq]; exact beq_eq_false_iff_ne.2 e0
                    have hb1 : (a.toList == [48, 49]) = false := by rw [ByteArray.toList_eq]; exact beq_eq_false_iff_ne.2 e1
                    have hb2 : (a.toList == [52, 49, 52]) = true := by rw [ByteArray.toList_eq, e2]; rfl
                    have hcb : CB L k = true := by rw [CB_at hlt, ha]; simp [e2]
                    have HIn := hid (show (∀ c ∈ C ++ [k], CB L c = true) ∧ ∀ j, j < k + 1 → CB L j = true → j ∈ C ++ [k] from ⟨fun c hc => by
                      rcases List.mem_append.1 hc with hc | hc
                      · exact HI.out.1 c hc
                      · rw [List.mem_singleton.1 hc]; exact hcb, fun j hj hjc => by
                      by_cases e : j = k
                      · simp [e]
                      · exact List.mem_append_left _ (HI.out.2 j (by omega) hjc)⟩)
                    clear hcb ha
                    obtain ⟨j0, hj0, hy0, hy1, hy2⟩ := info_parts intinfo
                    have hzr := HB.out.size
                    go_wp2_with (at_builtin; refine wpList_append_own _ rfl _ _ 37 rfl w.heap.size 3 j0 (.int .i64 0) 1 8 Tryd.underlying37 hj0 hy0 hy1 hy2 rfl (by decide) _ _ _ rfl (World.ownsRow.alloc HN.out _) ⟨wr.heap.size, 0, none⟩ 1 1 [.int .i64 (k : Int)] rfl rfl ?c1 ?c2 ?c3 ?c4 ?c5 ?c6)
                    case c1 =>
                      intro j u hj
                      match j, hj with
                      | 0, hj => simp at hj; subst hj; simp [Addr.add]
                    case c2 => intro u hu; simp at hu; subst hu; rfl
                    case c3 => unfold maxLen; omega
                    case c4 => omega
                    case c5 => simp; omega
                    case c6 =>
                      intro v8 w8 hown8 hgrow8 _
                      have s8 : wr.grownBy w8 (Value.slice co C.length cc).ownBlock := gb_trans (gb_alloc _ _ _) hgrow8
                      have hap := own_apart HO.out HN.out
                      have O8 := hid (show OE w8 w.heap.size (.slice (some ⟨b2, off2, none⟩) L.length oc) L from World.ownsRow.kept HO.out s8 (by
                        cases hg : (Value.slice (some ⟨b2, off2, none⟩) L.length oc).ownBlock with
                        | none => exact .inl rfl
                        | some j => exact .inr (fun e => hap j hg e.symm)))
                      have N8 := hid (show OG w8 w.heap.size v8 (C ++ [k]) by
                        unfold OG
                        rw [List.map_append, List.length_append]
                        exact hown8)
                      have B8 := hid (HB.out.grown s8 HB.out.size (fun j hj => (World.ownsRow.lt HN.out j hj).1))
                      clear hown8 hgrow8 s8 hap
                      go_wp2
                      go_roundw
                      case rel => exact ⟨k + 1, C ++ [k], by go_num, by omega, O8.out, N8.out, by simp; omega, HIn.out, B8.out⟩
                      case measure => simp [intOf]; omega
                  · have hb0 : (a.toList == [48, 48]) = false := by rw [ByteArray.toList_eq]; exact beq_eq_false_iff_ne.2 e0
                    have hb1 : (a.toList == [48, 49]) = false := by rw [ByteArray.toList_eq]; exact beq_eq_false_iff_ne.2 e1
                    have hb2 : (a.toList == [52, 49, 52]) = false := by rw [ByteArray.toList_eq]; exact beq_eq_false_iff_ne.2 e2
                    have hcb : CB L k = false := by rw [CB_at hlt, ha]; simp [e0, e1, e2]
                    have HIn := hid (show (∀ c ∈ C, CB L c = true) ∧ ∀ j, j < k + 1 → CB L j = true → j ∈ C from ⟨HI.out.1, fun j hj hjc => by
                      by_cases e : j = k
                      · rw [e, hcb] at hjc; cases hjc
                      · exact HI.out.2 j (by omega) hjc⟩)
                    clear hcb ha
                    go_wp2
                    go_roundw
                    case rel => exact ⟨k + 1, C, by go_num, by omega, HO.out, HN.out, by omega, HIn.out, HB.out⟩
                    case measure => simp [intOf]; omega
            · have hkI : ¬ (k : Int) < (L.length : Int) := by omega
              have P1 := hid (print_any _ L wr (HK.out.below HB.out) HO.out.reads hX.out (by omega))
              have RL := hid HO.out.reads
              have hCk : k = L.length := by omega
              obtain ⟨cq, hcm⟩ : ∃ cq, cq ∈ C := by
                obtain ⟨c, hc, hcb⟩ := H01.out
                exact ⟨c, HI.out.2 c (by omega) hcb⟩
              have hC0 : 0 < C.length := List.length_pos_of_mem hcm
              clear hcm
              have HW := hid (within_any which ((C.length : Int) - 1) wr (by omega) (by omega))
              rw [show (C.length : Int) - 1 + 1 = (C.length : Int) by omega] at HW
              have hp0 := Int.emod_nonneg which (show (C.length : Int) ≠ 0 by omega)
              have hp1 := Int.emod_lt_of_pos which (show (0 : Int) < C.length by omega)
              obtain ⟨q, hq⟩ : ∃ q : Nat, which % (C.length : Int) = (q : Int) := ⟨(which % (C.length : Int)).toNat, by omega⟩
              rw [hq] at HW hp0 hp1
              clear hq
              have hqC : q < C.length := by omega
              obtain ⟨g, gc, hgv, hgc⟩ := HN.out.at hqC
              simp only [Value.slice.injEq] at hgv
              obtain ⟨hgo, _, hgx⟩ := hgv
              subst hgo hgx
              have hcb := HI.out.1 _ (List.getElem_mem hqC)
              obtain ⟨c, hce⟩ : ∃ c, C[q] = c := ⟨_, rfl⟩
              rw [hce] at hgc hcb
              clear hce
              obtain ⟨hcl, kk, hkf, hk2⟩ := CB_is hcb
              have HKF := hid (And.intro hkf hk2)
              clear hkf hk2 hcb
              go_wp2_with fail
              refine Calls.mono HW.out ?_
              rintro e wz ⟨rfl, hwz⟩
              have hws := hwz.symm
              clear hwz HW
              subst hws
              go_wp2_with fail
              refine P1.out.mono ?_
              rintro e wP ⟨⟨t, en, n3, rfl, hA⟩, hbP⟩
              obtain ⟨rfl, rfl, rfl⟩ := (HG.out.prt13 hL).same hA
              have RP := hid (RL.out.below hbP)
              have BP := hid (HB.out.trans (hbP.mono HB.out.size))
              clear hbP hA P1 RL HO HN HB HI hgc
              obtain ⟨R, hT, hRR⟩ := scP_cut L HG.out.1 c hcl
              have hTl := congrArg List.length hT
              simp only [List.length_append] at hTl
              rw [len_list, len_list] at hTl
              clear hRR
              have hts : (⟨(scP L L.length).toArray⟩ : ByteArray).size = (scP L L.length).length := by rw [← len_list]
              have htd : (⟨(scP L L.length).toArray⟩ : ByteArray).data.toList = scP L L.length := by simp
              have hsc := HG.out.sc L.length (Nat.le_refl _)
              obtain ⟨t0, ht0⟩ : ∃ t0, (⟨(scP L L.length).toArray⟩ : ByteArray) = t0 := ⟨_, rfl⟩
              rw [ht0] at hts htd ⊢
              have HTD := hid htd
              have HT := hid hT
              clear ht0 hT htd
              go_wp2_with fail
              go_loopw [22, 23] (fun f i wx => ∃ j : Nat, j ≤ c ∧ i = .int .i64 (j : Int) ∧ f = .int .i64 (((scE (L.take j)).length : Nat) : Int) ∧ Below wP.heap.size wP wx) (fun _ i _ => c - (intOf i).toNat)
              case atStart => exact ⟨0, by omega, rfl, rfl, Below.refl _ _⟩
              case round =>
                obtain ⟨j, hj, rfl, rfl, hbx⟩ := hrel
                obtain ⟨wx, rfl⟩ : ∃ wx, wx = wr := ⟨_, rfl⟩
                have BX := hid hbx
                have RX := hid (RP.out.below hbx)
                clear hbx
                by_cases hjc : j < c
                · have hjI : (j : Int) < (c : Int) := by omega
                  have hG2 := HG.out.take (j + 2)
                  have hn := scE_next (L := L) (j := j) (by omega)
                  have hl2 : (L.take (j + 2)).length ≤ 13 := by rw [List.length_take]; omega
                  have P2 := hid (print_any _ (L.take (j + 2)) wx (HK.out.below (BP.out.trans (BX.out.mono BP.out.size))) (RX.out.fst (m := j + 2) (by omega) (by omega)) (fun x hx => hX.out x (List.mem_of_mem_take hx)) (by omega))
                  have hPr := hG2.prt13 hl2
                  have hus : (⟨(scP (L.take (j + 2)) (L.take (j + 2)).length).toArray⟩ : ByteArray).size = (scP (L.take (j + 2)) (L.take (j + 2)).length).length := by rw [← len_list]
                  have husc := hG2.sc _ (Nat.le_refl _)
                  obtain ⟨u0, hu0⟩ : ∃ u0, (⟨(scP (L.take (j + 2)) (L.take (j + 2)).length).toArray⟩ : ByteArray) = u0 := ⟨_, rfl⟩
                  rw [hu0] at hus hPr
                  rw [hn] at hus husc
                  have HPr := hid hPr
                  clear hu0 hPr hn hG2
                  obtain ⟨b2, off2, cap2, hv, hcap2, hcell⟩ := RX.out.here (by omega)
                  cases hv
                  have d0 := (hcell (j + 1) (by omega)).1
                  have d1 := (hcell (j + 1) (by omega)).2
                  clear hcell
                  obtain ⟨a1, ha1⟩ : ∃ a1, (L[j + 1]'(by omega)).1 = a1 := ⟨_, rfl⟩
                  obtain ⟨x1, hx1⟩ : ∃ x1, (L[j + 1]'(by omega)).2 = x1 := ⟨_, rfl⟩
                  rw [ha1] at d0 hus husc
                  rw [hx1] at d1 hus husc
                  clear ha1 hx1
                  have hjj : (j : Int) + 2 ≤ (L.length : Int) := by omega
                  have hj2c : j + 2 ≤ oc := by omega
                  obtain ⟨wy, rfl⟩ : ∃ wy, wy = wx := ⟨_, rfl⟩
                  go_wp2_with fail
                  refine P2.out.mono ?_
                  rintro e w2 ⟨⟨t2, en2, n2, rfl, h2⟩, hb2⟩
                  obtain ⟨rfl, rfl, rfl⟩ := HPr.out.same h2
                  have d0 := below_cells hb2 _ _ d0
                  have d1 := below_cells hb2 _ _ d1
                  have B2 := hid (BX.out.trans (hb2.mono BX.out.size))
                  clear h2 hb2 P2 HPr
                  go_wp2_with fail
                  go_quiet (fail)
                  have B3 := hid (below_drewN B2.out nq)
                  go_wp2
                  go_roundw
                  case rel => exact ⟨j + 1, by omega, by go_num, by congr 1; omega, B3.out⟩
                  case measure => simp [intOf]; omega
                · have hjI : ¬ (j : Int) < (c : Int) := by omega
                  have hjc2 : j = c := by omega
                  subst hjc2
                  have hst := HG.out.2 _ (List.getElem_mem hcl)
                  have hfl := HG.out.1 _ hcl
                  have hsp := spoilt_told L HG.out.1 (by omega) j hcl kk HKF.out.1 HKF.out.2
                  have hvl := len_list (L[j]).2
                  have hal := len_list (L[j]).1
                  have hdig : AllD (L[j]).2.data.toList ∧ 0 < (L[j]).2.data.toList.length := by
                    rw [ft_at hcl] at hfl
                    obtain ⟨k', hk', _, hfl⟩ := ftE_zero hfl
                    rw [HKF.out.1] at hk'
                    cases hk'
                    have hk2 := HKF.out.2
                    obtain ⟨k0, _⟩ := kfind_12 HKF.out.1
                    obtain ⟨a1, a2, a3, a4⟩ := fltK_fwd k0 (by omega) hfl
                    refine ⟨fun c hc => (isDB_iff c).1 (dF_dig (by have := a3 c hc; unfold byK at this; rwa [if_pos (by omega)] at this)), ?_⟩
                    have hk3 : kk = 0 ∨ kk = 1 ∨ kk = 2 := by omega
                    rcases hk3 with rfl | rfl | rfl
                    · have : loK 0 = 18 := rfl
                      omega
                    · have : loK 1 = 14 := rfl
                      omega
                    · have : loK 2 = 13 := rfl
                      omega
                  obtain ⟨b2, off2, cap2, hv, hcap2, hcell⟩ := RX.out.here (by omega)
                  cases hv
                  have d0 := (hcell j hcl).1
                  have d1 := (hcell j hcl).2
                  clear hcell hfl
                  have HTs := hid HT.out
                  obtain ⟨fr, hfr⟩ : ∃ fr, (scE (L.take j)).length = fr := ⟨_, rfl⟩
                  obtain ⟨hdig, hpos⟩ := hdig
                  have hgetv : ∀ q2 : Nat, q2 < (L[j]).2.data.toList.length → t0.data.toList[fr + (L[j]).1.data.toList.length + q2]? = (L[j]).2.data.toList[q2]? := by
                    intro q2 h
                    rw [HTD.out, HT.out, ← hfr, List.getElem?_append_right (by omega), List.append_assoc, List.getElem?_append_right (by omega), List.getElem?_append_left (by omega)]
                    congr 1
                    omega
                  obtain ⟨a1, ha1⟩ : ∃ a1, (L[j]).1 = a1 := ⟨_, rfl⟩
                  obtain ⟨x1, hx1⟩ : ∃ x1, (L[j]).2 = x1 := ⟨_, rfl⟩
                  rw [hfr] at hTl ⊢
                  rw [ha1] at d0 hsp hal hTl hst
                  rw [hx1] at d1 hsp hvl hdig hpos hTl hst
                  simp only [ha1, hx1] at hgetv
                  rw [hfr] at hsp
                  rw [hal] at hsp hgetv
                  have hx19 := hst.2
                  have ha4 := st_len _ hst.1
                  rw [hal] at ha4
                  have HSP := hid hsp
                  have HGV := hid hgetv
                  have HDG := hid hdig
                  clear ha1 hx1 hsp hst hfr HTs HT hgetv hdig HKF
                  rw [hvl] at hpos
                  have hsz0 : t0.size = fr + (a1.size + x1.size + R.length) := by omega
                  have HW := hid (within_any at_ ((x1.size : Int) - 1) wx (by omega) (by omega))
                  rw [show (x1.size : Int) - 1 + 1 = (x1.size : Int) by omega] at HW
                  have hp0 := Int.emod_nonneg at_ (show (x1.size : Int) ≠ 0 by omega)
                  have hp1 := Int.emod_lt_of_pos at_ (show (0 : Int) < x1.size by omega)
                  obtain ⟨q2, hq2⟩ : ∃ q2 : Nat, at_ % (x1.size : Int) = (q2 : Int) := ⟨(at_ % (x1.size : Int)).toNat, by omega⟩
                  rw [hq2] at HW hp0 hp1
                  clear hq2
                  have hq2l : q2 < x1.size := by omega
                  obtain ⟨P, hP⟩ : ∃ P, P = fr + a1.size + q2 := ⟨_, rfl⟩
                  have hPt : P < t0.size := by omega
                  have hPI : (fr : Int) + (a1.size : Int) + (q2 : Int) = (P : Int) := by omega
                  have hgd := HGV.out q2 (by rw [hvl]; exact hq2l)
                  rw [← hP, List.getElem?_eq_getElem (by rw [len_list]; exact hPt), byte_list t0 P hPt, List.getElem?_eq_getElem (by rw [hvl]; exact hq2l)] at hgd
                  have hgd2 := Option.some.inj hgd
                  have hdk : IsD (t0[P]'hPt) := by rw [hgd2]; exact HDG.out _ (List.getElem_mem _)
                  unfold IsD at hdk
                  have HGD := hid hgd2
                  clear hgd hgd2
                  have hx0 : 0 ≤ by_ % 9 := by omega
                  have hx1 : by_ % 9 < 9 := by omega
                  have HV : Hid (∀ wx : World, Calls Tryd.prog 17 #[.int .i64 by_, .int .i64 8] wx fun e w' => e = .returned (.int .i64 (by_ % 9)) ∧ w' = wx) := fun wx => within_any by_ 8 wx (by omega) (by omega)
                  generalize by_ % 9 = r at HV hx0 hx1
                  have hc1 : ¬ (t0.size : Int) ≤ (P : Int) := by omega
                  have hc2 : ¬ (t0.size : Int) < (fr : Int) + (a1.size : Int) + (x1.size : Int) := by omega
                  have hb400 : t0.size ≤ 400 := by omega
                  have HP := hid hP
                  have hfb : fr + a1.size + x1.size ≤ 400 := by omega
                  clear hts hTl hsz0 hP hsc
                  go_wp2_with fail
                  refine Calls.mono HW.out ?_
                  rintro e wz ⟨rfl, hwz⟩
                  have hws := hwz.symm
                  clear hwz HW
                  subst hws
                  go_wp2_with fail
                  go_quiet ((go_at_call 17; exact Calls.quiet_of_same (HV.out _)))
                  obtain ⟨d, hd⟩ : ∃ d : UInt8, (48 + (((t0[P]'hPt).toNat : Int) - 48 + 1 + r) % 10) = (d.toNat : Int) := ⟨UInt8.ofNat (48 + (((t0[P]'hPt).toNat : Int) - 48 + 1 + r) % 10).toNat, by rw [UInt8.toNat_ofNat']; omega⟩
                  have hdd : IsD d := by unfold IsD; omega
                  have hne : d ≠ t0[P]'hPt := by
                    intro e
                    rw [e] at hd
                    omega
                  rw [hd]
                  have HWt := hid (with_any t0 P d (wx.drewN nq) (by omega) (by omega))
                  have hpa := HSP.out q2 (by rw [hvl]; exact hq2l) d hdd (by rw [← HGD.out]; exact hne)
                  rw [← HP.out, hvl] at hpa
                  have HPA := hid hpa
                  have BD := hid (below_drewN BX.out nq)
                  clear hne hdd hd hdk hpa HV HSP HGD HGV HDG
                  go_wp2_with fail
                  refine Calls.mono HWt.out ?_
                  rintro e w2 ⟨tt, rfl, htt, hb2⟩
                  clear HWt
                  rw [HTD.out] at htt
                  have htl : tt.size = t0.size := by rw [← len_list tt, htt, List.length_set, ← HTD.out, len_list]
                  have BT := hid (BD.out.trans (hb2.mono BD.out.size))
                  have PT := hid (parse_any tt w2 (HK.out.below (BP.out.trans (BT.out.mono BP.out.size))) (by omega))
                  rw [htt] at PT
                  clear hb2 BD htt
                  go_wp2_with fail
                  refine PT.out.mono ?_
                  rintro e w3 ⟨⟨v3, M3, en3, n3, rfl, hr3, hA3, _⟩, hb3⟩
                  obtain ⟨rfl, rfl, rfl⟩ := HPA.out.same hA3
                  obtain ⟨o3, c3, rfl⟩ := hr3.form
                  have B3 := hid (BT.out.trans (hb3.mono BT.out.size))
                  have hpl : (((fr + a1.size + x1.size : Nat) : Int) - 1 == (fr : Int) + (a1.size : Int) + (x1.size : Int) - 1) = true := by rw [beq_iff_eq]; omega
                  clear hr3 hA3 hb3 HPA PT BT
                  go_wp2
                  go_ret
                  exact ⟨rfl, BP.out.trans (B3.out.mono BP.out.size)⟩
        | false =>
          have HN0 := hid (tw_no htw)
          clear htw
          have HV := hid (value_1 (.slice (some ⟨w3.heap.size, 0, none⟩) 3 3) [6, 2, 9] (w3.alloc (.cells #[.int .u8 6, .int .u8 2, .int .u8 9] 5)) (reads_629 w3) (by decide))
          have BA := hid ((Below.refl w3.heap.size w3).alloc (Nat.le_refl _) (.cells #[.int .u8 6, .int .u8 2, .int .u8 9] 5))
          go_wp2_with fail
          refine Calls.mono HV.out ?_
          rintro e WX ⟨X, rfl, hok, hbv⟩
          have hbv := BA.out.trans (hbv.mono BA.out.size)
          have HGn := hid (HG.out.snoc (a := ⟨#[48, 49]⟩) (by decide) rfl hok HN0.out)
          have OX := hid (O3.out.later hbv)
          have BX := hid (B3.out.trans (hbv.mono B3.out.size))
          clear hok hbv HV HN0 BA
          have R1 := hid (RE.one WX ⟨#[48, 49]⟩ X)
          have O6 := hid (OX.out.alloc (.cells #[.string ⟨#[48, 49]⟩, .string X] 33))
          have B6 := hid (BX.out.alloc BX.out.size (.cells #[.string ⟨#[48, 49]⟩, .string X] 33))
          go_wp2_with (at_builtin; refine wpList_appE rfl _ _ rfl w.heap.size _ L rfl O6.out _ [(⟨#[48, 49]⟩, X)] rfl R1.out ?hlen3 B6.out.size ?hnext3)
          case hlen3 => show (L.length + 1) * 32 ≤ _; omega
          case hnext3 =>
            intro v5 w5 ho5 hg5
            have s5 : WX.grownBy w5 (Value.slice oo L.length oc).ownBlock := gb_trans (gb_alloc _ _ _) hg5
            have OB := hid ho5
            have BB := hid (BX.out.grown s5 BX.out.size (fun j hj => (World.ownsRow.lt OX.out j hj).1))
            have H01 := hid (show ∃ c, c < (L ++ [((⟨#[48, 49]⟩ : ByteArray), X)]).length ∧ CB (L ++ [(⟨#[48, 49]⟩, X)]) c = true from ⟨L.length, by simp, by unfold CB; simp⟩)
            have hL13 : (L ++ [((⟨#[48, 49]⟩ : ByteArray), X)]).length ≤ 13 := by simp; omega
            clear ho5 hg5 s5 R1 O6 B6 O3 B3 OX BX HG hL
            have HG := HGn
            have hL := hL13
            clear HGn hL13 hjI hj
            generalize L ++ [((⟨#[48, 49]⟩ : ByteArray), X)] = L1 at *
            obtain ⟨L, rfl⟩ : ∃ L, L = L1 := ⟨_, rfl⟩
            obtain ⟨oo, oc, rfl⟩ := OB.out.reads.form
            have hX := hid (show ∀ x ∈ L, x.2.size ≤ 281474976710656 from fun x hx => by have := (HG.out.2 x hx).2; omega)
            go_wp2_with fail
            go_loopw [16, 17] (fun cv i wr => ∃ (k : Nat) (C : List Nat), i = .int .i64 (k : Int) ∧ k ≤ L.length ∧ OE wr w.heap.size (.slice oo L.length oc) L ∧ OG wr w.heap.size cv C ∧ C.length ≤ k ∧ ((∀ c ∈ C, CB L c = true) ∧ ∀ j, j < k → CB L j = true → j ∈ C) ∧ Below w.heap.size w wr) (fun _ i _ => L.length - (intOf i).toNat)
            case atStart => exact ⟨0, [], rfl, by omega, OB.out, OG.nil _ _, by simp, ⟨(fun c hc => by cases hc), (fun j hj => by omega)⟩, BB.out⟩
            case round =>
              obtain ⟨k, C, rfl, hk, hO, hN, hCk, hI, hb⟩ := hrel
              have HO := hid hO
              have HN := hid hN
              have HI := hid hI
              have HB := hid hb
              clear hO hN hI hb OB BB
              have hcf : ∃ co cc, u16 = Value.slice co C.length cc := by
                rcases HN.out.2 with ⟨h, hl⟩ | ⟨g, cap, cur, h, _⟩
                · have hc0 : C = [] := List.eq_nil_of_length_eq_zero hl
                  rw [hc0]
                  exact ⟨none, 0, h⟩
                · exact ⟨_, _, h⟩
              obtain ⟨co, cc, rfl⟩ := hcf
              by_cases hlt : k < L.length
              · have hkI : (k : Int) < (L.length : Int) := by omega
                obtain ⟨b2, off2, cap2, hv, hcap2, hcell⟩ := HO.out.reads.here (by omega)
                have hvo : oo = some ⟨b2, off2, none⟩ := by cases hv; rfl
                have hvc : oc = cap2 := by cases hv; rfl
                subst hvo hvc
                clear hv
                have d0 := (hcell k hlt).1
                clear hcell
                obtain ⟨a, ha⟩ : ∃ a, (L[k]).1 = a := ⟨_, rfl⟩
                rw [ha] at d0
                by_cases e0 : a.data.toList = [48, 48]
                · have hb0 : (a.toList == [48, 48]) = true := by rw [ByteArray.toList_eq, e0]; rfl
                  have hcb : CB L k = true := by rw [CB_at hlt, ha]; simp [e0]
                  have HIn := hid (show (∀ c ∈ C ++ [k], CB L c = true) ∧ ∀ j, j < k + 1 → CB L j = true → j ∈ C ++ [k] from ⟨fun c hc => by
                    rcases List.mem_append.1 hc with hc | hc
                    · exact HI.out.1 c hc
                    · rw [List.mem_singleton.1 hc]; exact hcb, fun j hj hjc => by
                    by_cases e : j = k
                    · simp [e]
                    · exact List.mem_append_left _ (HI.out.2 j (by omega) hjc)⟩)
                  clear hcb ha
                  obtain ⟨j0, hj0, hy0, hy1, hy2⟩ := info_parts intinfo
                  have hzr := HB.out.size
                  go_wp2_with (at_builtin; refine wpList_append_own _ rfl _ _ 37 rfl w.heap.size 3 j0 (.int .i64 0) 1 8 Tryd.underlying37 hj0 hy0 hy1 hy2 rfl (by decide) _ _ _ rfl (World.ownsRow.alloc HN.out _) ⟨wr.heap.size, 0, none⟩ 1 1 [.int .i64 (k : Int)] rfl rfl ?c1 ?c2 ?c3 ?c4 ?c5 ?c6)
                  case c1 =>
                    intro j u hj
                    match j, hj with
                    | 0, hj => simp at hj; subst hj; simp [Addr.add]
                  case c2 => intro u hu; simp at hu; subst hu; rfl
                  case c3 => unfold maxLen; omega
                  case c4 => omega
                  case c5 => simp; omega
                  case c6 =>
                    intro v8 w8 hown8 hgrow8 _
                    have s8 : wr.grownBy w8 (Value.slice co C.length cc).ownBlock := gb_trans (gb_alloc _ _ _) hgrow8
                    have hap := own_apart HO.out HN.out
                    have O8 := hid (show OE w8 w.heap.size (.slice (some ⟨b2, off2, none⟩) L.length oc) L from World.ownsRow.kept HO.out s8 (by
                      cases hg : (Value.slice (some ⟨b2, off2, none⟩) L.length oc).ownBlock with
                      | none => exact .inl rfl
                      | some j => exact .inr (fun e => hap j hg e.symm)))
                    have N8 := hid (show OG w8 w.heap.size v8 (C ++ [k]) by
                      unfold OG
                      rw [List.map_append, List.length_append]
                      exact hown8)
                    have B8 := hid (HB.out.grown s8 HB.out.size (fun j hj => (World.ownsRow.lt HN.out j hj).1))
                    clear hown8 hgrow8 s8 hap
                    go_wp2
                    go_roundw
                    case rel => exact ⟨k + 1, C ++ [k], by go_num, by omega, O8.out, N8.out, by simp; omega, HIn.out, B8.out⟩
                    case measure => simp [intOf]; omega
                · by_cases e1 : a.data.toList = [48, 49]
                  · have hb0 : (a.toList == [48, 48]) = false := by rw [ByteArray.toList_eq]; exact beq_eq_false_iff_ne.2 e0
                    have hb1 : (a.toList == [48, 49]) = true := by rw [ByteArray.toList_eq, e1]; rfl
                    have hcb : CB L k = true := by rw [CB_at hlt, ha]; simp [e1]
                    have HIn := hid (show (∀ c ∈ C ++ [k], CB L c = true) ∧ ∀ j, j < k + 1 → CB L j = true → j ∈ C ++ [k] from ⟨fun c hc => by
                      rcases List.mem_append.1 hc with hc | hc
                      · exact HI.out.1 c hc
                      · rw [List.mem_singleton.1 hc]; exact hcb, fun j hj hjc => by
                      by_cases e : j = k
                      · simp [e]
                      · exact List.mem_append_left _ (HI.out.2 j (by omega) hjc)⟩)
                    clear hcb ha
                    obtain ⟨j0, hj0, hy0, hy1, hy2⟩ := info_parts intinfo
                    have hzr := HB.out.size
                    go_wp2_with (at_builtin; refine wpList_append_own _ rfl _ _ 37 rfl w.heap.size 3 j0 (.int .i64 0) 1 8 Tryd.underlying37 hj0 hy0 hy1 hy2 rfl (by decide) _ _ _ rfl (World.ownsRow.alloc HN.out _) ⟨wr.heap.size, 0, none⟩ 1 1 [.int .i64 (k : Int)] rfl rfl ?c1 ?c2 ?c3 ?c4 ?c5 ?c6)
                    case c1 =>
                      intro j u hj
                      match j, hj with
                      | 0, hj => simp at hj; subst hj; simp [Addr.add]
                    case c2 => intro u hu; simp at hu; subst hu; rfl
                    case c3 => unfold maxLen; omega
                    case c4 => omega
                    case c5 => simp; omega
                    case c6 =>
                      intro v8 w8 hown8 hgrow8 _
                      have s8 : wr.grownBy w8 (Value.slice co C.length cc).ownBlock := gb_trans (gb_alloc _ _ _) hgrow8
                      have hap := own_apart HO.out HN.out
                      have O8 := hid (show OE w8 w.heap.size (.slice (some ⟨b2, off2, none⟩) L.length oc) L from World.ownsRow.kept HO.out s8 (by
                        cases hg : (Value.slice (some ⟨b2, off2, none⟩) L.length oc).ownBlock with
                        | none => exact .inl rfl
                        | some j => exact .inr (fun e => hap j hg e.symm)))
                      have N8 := hid (show OG w8 w.heap.size v8 (C ++ [k]) by
                        unfold OG
                        rw [List.map_append, List.length_append]
                        exact hown8)
                      have B8 := hid (HB.out.grown s8 HB.out.size (fun j hj => (World.ownsRow.lt HN.out j hj).1))
                      clear hown8 hgrow8 s8 hap
                      go_wp2
                      go_roundw
                      case rel => exact ⟨k + 1, C ++ [k], by go_num, by omega, O8.out, N8.out, by simp; omega, HIn.out, B8.out⟩
                      case measure => simp [intOf]; omega
                  · by_cases e2 : a.data.toList = [52, 49, 52]
                    · have hb0 : (a.toList == [48, 48]) = false := by rw [ByteArray.toList_eq]; exact beq_eq_false_iff_ne.2 e0
                      have hb1 : (a.toList == [48, 49]) = false := by rw [ByteArray.toList_eq]; exact beq_eq_false_iff_ne.2 e1
                      have hb2 : (a.toList == [52, 49, 52]) = true := by rw [ByteArray.toList_eq, e2]; rfl
                      have hcb : CB L k = true := by rw [CB_at hlt, ha]; simp [e2]
                      have HIn := hid (show (∀ c ∈ C ++ [k], CB L c = true) ∧ ∀ j, j < k + 1 → CB L j = true → j ∈ C ++ [k] from ⟨fun c hc => by
                        rcases List.mem_append.1 hc with hc | hc
                        · exact HI.out.1 c hc
                        · rw [List.mem_singleton.1 hc]; exact hcb, fun j hj hjc => by
                        by_cases e : j = k
                        · simp [e]
                        · exact List.mem_append_left _ (HI.out.2 j (by omega) hjc)⟩)
                      clear hcb ha
                      obtain ⟨j0, hj0, hy0, hy1, hy2⟩ := info_parts intinfo
                      have hzr := HB.out.size
                      go_wp2_with (at_builtin; refine wpList_append_own _ rfl _ _ 37 rfl w.heap.size 3 j0 (.int .i64 0) 1 8 Tryd.underlying37 hj0 hy0 hy1 hy2 rfl (by decide) _ _ _ rfl (World.ownsRow.alloc HN.out _) ⟨wr.heap.size, 0, none⟩ 1 1 [.int .i64 (k : Int)] rfl rfl ?c1 ?c2 ?c3 ?c4 ?c5 ?c6)
                      case c1 =>
                        intro j u hj
                        match j, hj with
                        | 0, hj => simp at hj; subst hj; simp [Addr.add]
                      case c2 => intro u hu; simp at hu; subst hu; rfl
                      case c3 => unfold maxLen; omega
                      case c4 => omega
                      case c5 => simp; omega
                      case c6 =>
                        intro v8 w8 hown8 hgrow8 _
                        have s8 : wr.grownBy w8 (Value.slice co C.length cc).ownBlock := gb_trans (gb_alloc _ _ _) hgrow8
                        have hap := own_apart HO.out HN.out
                        have O8 := hid (show OE w8 w.heap.size (.slice (some ⟨b2, off2, none⟩) L.length oc) L from World.ownsRow.kept HO.out s8 (by
                          cases hg : (Value.slice (some ⟨b2, off2, none⟩) L.length oc).ownBlock with
                          | none => exact .inl rfl
                          | some j => exact .inr (fun e => hap j hg e.symm)))
                        have N8 := hid (show OG w8 w.heap.size v8 (C ++ [k]) by
                          unfold OG
                          rw [List.map_append, List.length_append]
                          exact hown8)
                        have B8 := hid (HB.out.grown s8 HB.out.size (fun j hj => (World.ownsRow.lt HN.out j hj).1))
                        clear hown8 hgrow8 s8 hap
                        go_wp2
                        go_roundw
                        case rel => exact ⟨k + 1, C ++ [k], by go_num, by omega, O8.out, N8.out, by simp; omega, HIn.out, B8.out⟩
                        case measure => simp [intOf]; omega
                    · have hb0 : (a.toList == [48, 48]) = false := by rw [ByteArray.toList_eq]; exact beq_eq_false_iff_ne.2 e0
                      have hb1 : (a.toList == [48, 49]) = false := by rw [ByteArray.toList_eq]; exact beq_eq_false_iff_ne.2 e1
                      have hb2 : (a.toList == [52, 49, 52]) = false := by rw [ByteArray.toList_eq]; exact beq_eq_false_iff_ne.2 e2
                      have hcb : CB L k = false := by rw [CB_at hlt, ha]; simp [e0, e1, e2]
                      have HIn := hid (show (∀ c ∈ C, CB L c = true) ∧ ∀ j, j < k + 1 → CB L j = true → j ∈ C from ⟨HI.out.1, fun j hj hjc => by
                        by_cases e : j = k
                        · rw [e, hcb] at hjc; cases hjc
                        · exact HI.out.2 j (by omega) hjc⟩)
                      clear hcb ha
                      go_wp2
                      go_roundw
                      case rel => exact ⟨k + 1, C, by go_num, by omega, HO.out, HN.out, by omega, HIn.out, HB.out⟩
                      case measure => simp [intOf]; omega
              · have hkI : ¬ (k : Int) < (L.length : Int) := by omega
                have P1 := hid (print_any _ L wr (HK.out.below HB.out) HO.out.reads hX.out (by omega))
                have RL := hid HO.out.reads
                have hCk : k = L.length := by omega
                obtain ⟨cq, hcm⟩ : ∃ cq, cq ∈ C := by
                  obtain ⟨c, hc, hcb⟩ := H01.out
                  exact ⟨c, HI.out.2 c (by omega) hcb⟩
                have hC0 : 0 < C.length := List.length_pos_of_mem hcm
                clear hcm
                have HW := hid (within_any which ((C.length : Int) - 1) wr (by omega) (by omega))
                rw [show (C.length : Int) - 1 + 1 = (C.length : Int) by omega] at HW
                have hp0 := Int.emod_nonneg which (show (C.length : Int) ≠ 0 by omega)
                have hp1 := Int.emod_lt_of_pos which (show (0 : Int) < C.length by omega)
                obtain ⟨q, hq⟩ : ∃ q : Nat, which % (C.length : Int) = (q : Int) := ⟨(which % (C.length : Int)).toNat, by omega⟩
                rw [hq] at HW hp0 hp1
                clear hq
                have hqC : q < C.length := by omega
                obtain ⟨g, gc, hgv, hgc⟩ := HN.out.at hqC
                simp only [Value.slice.injEq] at hgv
                obtain ⟨hgo, _, hgx⟩ := hgv
                subst hgo hgx
                have hcb := HI.out.1 _ (List.getElem_mem hqC)
                obtain ⟨c, hce⟩ : ∃ c, C[q] = c := ⟨_, rfl⟩
                rw [hce] at hgc hcb
                clear hce
                obtain ⟨hcl, kk, hkf, hk2⟩ := CB_is hcb
                have HKF := hid (And.intro hkf hk2)
                clear hkf hk2 hcb
                go_wp2_with fail
                refine Calls.mono HW.out ?_
                rintro e wz ⟨rfl, hwz⟩
                have hws := hwz.symm
                clear hwz HW
                subst hws
                go_wp2_with fail
                refine P1.out.mono ?_
                rintro e wP ⟨⟨t, en, n3, rfl, hA⟩, hbP⟩
                obtain ⟨rfl, rfl, rfl⟩ := (HG.out.prt13 hL).same hA
                have RP := hid (RL.out.below hbP)
                have BP := hid (HB.out.trans (hbP.mono HB.out.size))
                clear hbP hA P1 RL HO HN HB HI hgc
                obtain ⟨R, hT, hRR⟩ := scP_cut L HG.out.1 c hcl
                have hTl := congrArg List.length hT
                simp only [List.length_append] at hTl
                rw [len_list, len_list] at hTl
                clear hRR
                have hts : (⟨(scP L L.length).toArray⟩ : ByteArray).size = (scP L L.length).length := by rw [← len_list]
                have htd : (⟨(scP L L.length).toArray⟩ : ByteArray).data.toList = scP L L.length := by simp
                have hsc := HG.out.sc L.length (Nat.le_refl _)
                obtain ⟨t0, ht0⟩ : ∃ t0, (⟨(scP L L.length).toArray⟩ : ByteArray) = t0 := ⟨_, rfl⟩
                rw [ht0] at hts htd ⊢
                have HTD := hid htd
                have HT := hid hT
                clear ht0 hT htd
                go_wp2_with fail
                go_loopw [22, 23] (fun f i wx => ∃ j : Nat, j ≤ c ∧ i = .int .i64 (j : Int) ∧ f = .int .i64 (((scE (L.take j)).length : Nat) : Int) ∧ Below wP.heap.size wP wx) (fun _ i _ => c - (intOf i).toNat)
                case atStart => exact ⟨0, by omega, rfl, rfl, Below.refl _ _⟩
                case round =>
                  obtain ⟨j, hj, rfl, rfl, hbx⟩ := hrel
                  obtain ⟨wx, rfl⟩ : ∃ wx, wx = wr := ⟨_, rfl⟩
                  have BX := hid hbx
                  have RX := hid (RP.out.below hbx)
                  clear hbx
                  by_cases hjc : j < c
                  · have hjI : (j : Int) < (c : Int) := by omega
                    have hG2 := HG.out.take (j + 2)
                    have hn := scE_next (L := L) (j := j) (by omega)
                    have hl2 : (L.take (j + 2)).length ≤ 13 := by rw [List.length_take]; omega
                    have P2 := hid (print_any _ (L.take (j + 2)) wx (HK.out.below (BP.out.trans (BX.out.mono BP.out.size))) (RX.out.fst (m := j + 2) (by omega) (by omega)) (fun x hx => hX.out x (List.mem_of_mem_take hx)) (by omega))
                    have hPr := hG2.prt13 hl2
                    have hus : (⟨(scP (L.take (j + 2)) (L.take (j + 2)).length).toArray⟩ : ByteArray).size = (scP (L.take (j + 2)) (L.take (j + 2)).length).length := by rw [← len_list]
                    have husc := hG2.sc _ (Nat.le_refl _)
                    obtain ⟨u0, hu0⟩ : ∃ u0, (⟨(scP (L.take (j + 2)) (L.take (j + 2)).length).toArray⟩ : ByteArray) = u0 := ⟨_, rfl⟩
                    rw [hu0] at hus hPr
                    rw [hn] at hus husc
                    have HPr := hid hPr
                    clear hu0 hPr hn hG2
                    obtain ⟨b2, off2, cap2, hv, hcap2, hcell⟩ := RX.out.here (by omega)
                    cases hv
                    have d0 := (hcell (j + 1) (by omega)).1
                    have d1 := (hcell (j + 1) (by omega)).2
                    clear hcell
                    obtain ⟨a1, ha1⟩ : ∃ a1, (L[j + 1]'(by omega)).1 = a1 := ⟨_, rfl⟩
                    obtain ⟨x1, hx1⟩ : ∃ x1, (L[j + 1]'(by omega)).2 = x1 := ⟨_, rfl⟩
                    rw [ha1] at d0 hus husc
                    rw [hx1] at d1 hus husc
                    clear ha1 hx1
                    have hjj : (j : Int) + 2 ≤ (L.length : Int) := by omega
                    have hj2c : j + 2 ≤ oc := by omega
                    obtain ⟨wy, rfl⟩ : ∃ wy, wy = wx := ⟨_, rfl⟩
                    go_wp2_with fail
                    refine P2.out.mono ?_
                    rintro e w2 ⟨⟨t2, en2, n2, rfl, h2⟩, hb2⟩
                    obtain ⟨rfl, rfl, rfl⟩ := HPr.out.same h2
                    have d0 := below_cells hb2 _ _ d0
                    have d1 := below_cells hb2 _ _ d1
                    have B2 := hid (BX.out.trans (hb2.mono BX.out.size))
                    clear h2 hb2 P2 HPr
                    go_wp2_with fail
                    go_quiet (fail)
                    have B3 := hid (below_drewN B2.out nq)
                    go_wp2
                    go_roundw
                    case rel => exact ⟨j + 1, by omega, by go_num, by congr 1; omega, B3.out⟩
                    case measure => simp [intOf]; omega
                  · have hjI : ¬ (j : Int) < (c : Int) := by omega
                    have hjc2 : j = c := by omega
                    subst hjc2
                    have hst := HG.out.2 _ (List.getElem_mem hcl)
                    have hfl := HG.out.1 _ hcl
                    have hsp := spoilt_told L HG.out.1 (by omega) j hcl kk HKF.out.1 HKF.out.2
                    have hvl := len_list (L[j]).2
                    have hal := len_list (L[j]).1
                    have hdig : AllD (L[j]).2.data.toList ∧ 0 < (L[j]).2.data.toList.length := by
                      rw [ft_at hcl] at hfl
                      obtain ⟨k', hk', _, hfl⟩ := ftE_zero hfl
                      rw [HKF.out.1] at hk'
                      cases hk'
                      have hk2 := HKF.out.2
                      obtain ⟨k0, _⟩ := kfind_12 HKF.out.1
                      obtain ⟨a1, a2, a3, a4⟩ := fltK_fwd k0 (by omega) hfl
                      refine ⟨fun c hc => (isDB_iff c).1 (dF_dig (by have := a3 c hc; unfold byK at this; rwa [if_pos (by omega)] at this)), ?_⟩
                      have hk3 : kk = 0 ∨ kk = 1 ∨ kk = 2 := by omega
                      rcases hk3 with rfl | rfl | rfl
                      · have : loK 0 = 18 := rfl
                        omega
                      · have : loK 1 = 14 := rfl
                        omega
                      · have : loK 2 = 13 := rfl
                        omega
                    obtain ⟨b2, off2, cap2, hv, hcap2, hcell⟩ := RX.out.here (by omega)
                    cases hv
                    have d0 := (hcell j hcl).1
                    have d1 := (hcell j hcl).2
                    clear hcell hfl
                    have HTs := hid HT.out
                    obtain ⟨fr, hfr⟩ : ∃ fr, (scE (L.take j)).length = fr := ⟨_, rfl⟩
                    obtain ⟨hdig, hpos⟩ := hdig
                    have hgetv : ∀ q2 : Nat, q2 < (L[j]).2.data.toList.length → t0.data.toList[fr + (L[j]).1.data.toList.length + q2]? = (L[j]).2.data.toList[q2]? := by
                      intro q2 h
                      rw [HTD.out, HT.out, ← hfr, List.getElem?_append_right (by omega), List.append_assoc, List.getElem?_append_right (by omega), List.getElem?_append_left (by omega)]
                      congr 1
                      omega
                    obtain ⟨a1, ha1⟩ : ∃ a1, (L[j]).1 = a1 := ⟨_, rfl⟩
                    obtain ⟨x1, hx1⟩ : ∃ x1, (L[j]).2 = x1 := ⟨_, rfl⟩
                    rw [hfr] at hTl ⊢
                    rw [ha1] at d0 hsp hal hTl hst
                    rw [hx1] at d1 hsp hvl hdig hpos hTl hst
                    simp only [ha1, hx1] at hgetv
                    rw [hfr] at hsp
                    rw [hal] at hsp hgetv
                    have hx19 := hst.2
                    have ha4 := st_len _ hst.1
                    rw [hal] at ha4
                    have HSP := hid hsp
                    have HGV := hid hgetv
                    have HDG := hid hdig
                    clear ha1 hx1 hsp hst hfr HTs HT hgetv hdig HKF
                    rw [hvl] at hpos
                    have hsz0 : t0.size = fr + (a1.size + x1.size + R.length) := by omega
                    have HW := hid (within_any at_ ((x1.size : Int) - 1) wx (by omega) (by omega))
                    rw [show (x1.size : Int) - 1 + 1 = (x1.size : Int) by omega] at HW
                    have hp0 := Int.emod_nonneg at_ (show (x1.size : Int) ≠ 0 by omega)
                    have hp1 := Int.emod_lt_of_pos at_ (show (0 : Int) < x1.size by omega)
                    obtain ⟨q2, hq2⟩ : ∃ q2 : Nat, at_ % (x1.size : Int) = (q2 : Int) := ⟨(at_ % (x1.size : Int)).toNat, by omega⟩
                    rw [hq2] at HW hp0 hp1
                    clear hq2
                    have hq2l : q2 < x1.size := by omega
                    obtain ⟨P, hP⟩ : ∃ P, P = fr + a1.size + q2 := ⟨_, rfl⟩
                    have hPt : P < t0.size := by omega
                    have hPI : (fr : Int) + (a1.size : Int) + (q2 : Int) = (P : Int) := by omega
                    have hgd := HGV.out q2 (by rw [hvl]; exact hq2l)
                    rw [← hP, List.getElem?_eq_getElem (by rw [len_list]; exact hPt), byte_list t0 P hPt, List.getElem?_eq_getElem (by rw [hvl]; exact hq2l)] at hgd
                    have hgd2 := Option.some.inj hgd
                    have hdk : IsD (t0[P]'hPt) := by rw [hgd2]; exact HDG.out _ (List.getElem_mem _)
                    unfold IsD at hdk
                    have HGD := hid hgd2
                    clear hgd hgd2
                    have hx0 : 0 ≤ by_ % 9 := by omega
                    have hx1 : by_ % 9 < 9 := by omega
                    have HV : Hid (∀ wx : World, Calls Tryd.prog 17 #[.int .i64 by_, .int .i64 8] wx fun e w' => e = .returned (.int .i64 (by_ % 9)) ∧ w' = wx) := fun wx => within_any by_ 8 wx (by omega) (by omega)
                    generalize by_ % 9 = r at HV hx0 hx1
                    have hc1 : ¬ (t0.size : Int) ≤ (P : Int) := by omega
                    have hc2 : ¬ (t0.size : Int) < (fr : Int) + (a1.size : Int) + (x1.size : Int) := by omega
                    have hb400 : t0.size ≤ 400 := by omega
                    have HP := hid hP
                    have hfb : fr + a1.size + x1.size ≤ 400 := by omega
                    clear hts hTl hsz0 hP hsc
                    go_wp2_with fail
                    refine Calls.mono HW.out ?_
                    rintro e wz ⟨rfl, hwz⟩
                    have hws := hwz.symm
                    clear hwz HW
                    subst hws
                    go_wp2_with fail
                    go_quiet ((go_at_call 17; exact Calls.quiet_of_same (HV.out _)))
                    obtain ⟨d, hd⟩ : ∃ d : UInt8, (48 + (((t0[P]'hPt).toNat : Int) - 48 + 1 + r) % 10) = (d.toNat : Int) := ⟨UInt8.ofNat (48 + (((t0[P]'hPt).toNat : Int) - 48 + 1 + r) % 10).toNat, by rw [UInt8.toNat_ofNat']; omega⟩
                    have hdd : IsD d := by unfold IsD; omega
                    have hne : d ≠ t0[P]'hPt := by
                      intro e
                      rw [e] at hd
                      omega
                    rw [hd]
                    have HWt := hid (with_any t0 P d (wx.drewN nq) (by omega) (by omega))
                    have hpa := HSP.out q2 (by rw [hvl]; exact hq2l) d hdd (by rw [← HGD.out]; exact hne)
                    rw [← HP.out, hvl] at hpa
                    have HPA := hid hpa
                    have BD := hid (below_drewN BX.out nq)
                    clear hne hdd hd hdk hpa HV HSP HGD HGV HDG
                    go_wp2_with fail
                    refine Calls.mono HWt.out ?_
                    rintro e w2 ⟨tt, rfl, htt, hb2⟩
                    clear HWt
                    rw [HTD.out] at htt
                    have htl : tt.size = t0.size := by rw [← len_list tt, htt, List.length_set, ← HTD.out, len_list]
                    have BT := hid (BD.out.trans (hb2.mono BD.out.size))
                    have PT := hid (parse_any tt w2 (HK.out.below (BP.out.trans (BT.out.mono BP.out.size))) (by omega))
                    rw [htt] at PT
                    clear hb2 BD htt
                    go_wp2_with fail
                    refine PT.out.mono ?_
                    rintro e w3 ⟨⟨v3, M3, en3, n3, rfl, hr3, hA3, _⟩, hb3⟩
                    obtain ⟨rfl, rfl, rfl⟩ := HPA.out.same hA3
                    obtain ⟨o3, c3, rfl⟩ := hr3.form
                    have B3 := hid (BT.out.trans (hb3.mono BT.out.size))
                    have hpl : (((fr + a1.size + x1.size : Nat) : Int) - 1 == (fr : Int) + (a1.size : Int) + (x1.size : Int) - 1) = true := by rw [beq_iff_eq]; omega
                    clear hr3 hA3 hb3 HPA PT BT
                    go_wp2
                    go_ret
                    exact ⟨rfl, BP.out.trans (B3.out.mono BP.out.size)⟩
end Go.Proofs.YtjmpkogjilefnaaDoor
