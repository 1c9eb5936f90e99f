/-
  A span's text read: readSpan.
-/
import Derived.Test.YtjmainmidacmfaaDoorRsp
import Derived.Deep.RegionHeld
namespace Go.Proofs.YtjmainmidacmfaaDoor
open Go.RowKit
set_option maxRecDepth 100000

theorem alloc_belowS (w : World) (o : Obj) : Below w.heap.size w (w.alloc o) := (Below.refl _ _).alloc (Nat.le_refl _) _
theorem list7 {l : List Int} (h : l.length = 7) : ∃ a b c d e f g, l = [a, b, c, d, e, f, g] := by
  match l, h with
  | [a, b, c, d, e, f, g], _ => exact ⟨a, b, c, d, e, f, g, rfl⟩

/-- a span lies in block b -/
def LBox (w : World) (b : Nat) (s : List Int) : Prop := w.heap[b]? = some (.cells (s.map (Value.int .i64)).toArray 23 (0, 0))
theorem LBox.lt {w : World} {b : Nat} {s : List Int} (h : LBox w b s) : b < w.heap.size := (Array.getElem?_eq_some_iff.1 h).1
theorem LBox.cell {w : World} {b : Nat} {s : List Int} (h : LBox w b s) (i : Nat) (hi : i < s.length) : w.cell? ⟨b, i, none⟩ = some (.int .i64 s[i]) := by
  rw [Lib.cell_of_heap h, List.getElem?_toArray, List.getElem?_map, List.getElem?_eq_getElem hi]; rfl
theorem LBox.soft {w : World} {b : Nat} {s : List Int} (h : LBox w b s) (i : Nat) : w.frozen? ⟨b, i, none⟩ = false := Lib.frozen_of_heap h i
theorem LBox.later {w w' : World} {b : Nat} {s : List Int} (h : LBox w b s) (hb : Below w.heap.size w w') : LBox w' b s := (hb.block b h.lt).trans h
theorem LBox.put {w : World} {b : Nat} {s : List Int} (h : LBox w b s) (i : Nat) (v : Int) : LBox (w.setCell ⟨b, i, none⟩ (.int .i64 v)) b (s.set i v) := by
  have e := Lib.heap_setCell_same (i := i) h (.int .i64 v)
  unfold LBox
  rw [e]
  congr 2
  rw [List.map_set]
  simp

/-- where each letter's number goes -/
def ptS (b : Nat) : Obj := .cells #[.pointer (some ⟨b, 2, none⟩), .pointer (some ⟨b, 0, none⟩), .pointer (some ⟨b, 1, none⟩), .pointer (some ⟨b, 3, none⟩), .pointer (some ⟨b, 4, none⟩), .pointer (some ⟨b, 5, none⟩), .pointer (some ⟨b, 6, none⟩)] 62
theorem ptS_at {w : World} {b c : Nat} (h : w.heap[c]? = some (ptS b)) (j : Nat) (hj : j < 7) : w.cell? ⟨c, j, none⟩ = some (.pointer (some ⟨b, fld j, none⟩)) := by
  have e := h
  unfold ptS at e
  rw [Lib.cell_of_heap e]
  match j, hj with
  | 0, _ => rfl
  | 1, _ => rfl
  | 2, _ => rfl
  | 3, _ => rfl
  | 4, _ => rfl
  | 5, _ => rfl
  | 6, _ => rfl
theorem fld_lt (j : Nat) : fld j < 7 := by
  unfold fld
  by_cases h : j < 7
  · match j, h with
    | 0, _ => decide
    | 1, _ => decide
    | 2, _ => decide
    | 3, _ => decide
    | 4, _ => decide
    | 5, _ => decide
    | 6, _ => decide
  · rw [List.getD_eq_getElem?_getD, List.getElem?_eq_none (by simp; omega)]; decide

/-- the state of readSpan's memory -/
def SP (w0 : World) (s : List Int) (w : World) : Prop := s.length = 7 ∧ HasES w ∧ Below w0.heap.size w0 w ∧ LBox w w0.heap.size s ∧ w.heap[w0.heap.size + 1]? = some (ptS w0.heap.size)
theorem SP.stable {w0 w w' : World} {s : List Int} (h : SP w0 s w) (hb : Below w.heap.size w w') : SP w0 s w' :=
  ⟨h.1, h.2.1.below hb, h.2.2.1.trans (hb.mono h.2.2.1.size), h.2.2.2.1.later hb, (hb.block _ (Array.getElem?_eq_some_iff.1 h.2.2.2.2).1).trans h.2.2.2.2⟩
theorem SP.put {w0 w : World} {s : List Int} (h : SP w0 s w) (hG : HasES w0) (i : Nat) (v : Int) : SP w0 (s.set i v) (w.setCell ⟨w0.heap.size, i, none⟩ (.int .i64 v)) := by
  refine ⟨by rw [List.length_set]; exact h.1, h.2.1.belowAt ((Below.refl w0.heap.size w).setCell (Nat.le_refl _) _) hG.lt, h.2.2.1.setCell (Nat.le_refl _) _, h.2.2.2.1.put i v, ?_⟩
  rw [Below.heap_setCell _ _ _ _ (by show w0.heap.size + 1 ≠ w0.heap.size; omega)]
  exact h.2.2.2.2

theorem bt_at (t : ByteArray) (a : Nat) (h : a < t.size) : bt t.data.toList a = t[a] := by
  unfold bt
  have lt : t.data.toList.length = t.size := Array.length_toList
  rw [List.getD_eq_getElem?_getD, List.getElem?_eq_getElem (by rw [lt]; exact h)]
  exact byte_at t a h

/-- the marks as a text -/
abbrev mkB : ByteArray := ⟨#[87, 89, 77, 68, 72, 77, 83]⟩
theorem mk_sub (nx en : Nat) (h : nx ≤ en) : (mkB.extract nx en).data.toList = (mrk.drop nx).take (en - nx) := by
  have h2 := sub_extract mkB nx (en - nx)
  rw [show nx + (en - nx) = en by omega] at h2
  exact h2

theorem drop_extract (t : ByteArray) (a : Nat) : (t.extract a t.size).data.toList = t.data.toList.drop a := by
  by_cases h : a ≤ t.size
  · have e := sub_extract t a (t.size - a)
    rw [show a + (t.size - a) = t.size by omega] at e
    rw [e]
    unfold sub
    rw [List.take_of_length_le (by rw [List.length_drop, Array.length_toList]; exact Nat.le_refl _)]
  · rw [List.drop_eq_nil_of_le (by rw [Array.length_toList]; show t.size ≤ a; omega)]
    rw [ByteArray.data_extract, Array.toList_extract, List.extract_eq_take_drop, show t.size - a = 0 by omega]
    rfl

set_option maxHeartbeats 6000000 in
theorem readSpan_P (t : ByteArray) (ht : t.size ≤ 64) (h0 : 0 < t.size) (hP : t[0] = 80) (w : World) (hE : HasES w) :
    Calls Tryd.prog 25 #[.string t] w fun e w' => (∃ s : List Int, s.length = 7 ∧ e = .returned (.tuple #[.agg (s.map (Value.int .i64)).toArray, .int .i64 ((spF t.data.toList 64 1 0 4 zs7).2 : Nat)]) ∧ s = (spF t.data.toList 64 1 0 4 zs7).1) ∧ Below w.heap.size w w' := by
  have HP : Hid (∀ w, Calls Tryd.prog 40 #[.string t, .string ⟨#[80]⟩] w fun e w' => e = .returned (.bool true) ∧ w' = w) := fun w => by
    refine (Tryd.strings_HasPrefix t ⟨#[80]⟩ w).mono ?_
    rintro e w' ⟨rfl, rfl⟩
    refine ⟨?_, rfl⟩
    have lt : t.data.toList.length = t.size := Array.length_toList
    obtain ⟨c, r, hq⟩ := List.exists_cons_of_length_pos (show 0 < t.data.toList.length by rw [lt]; exact h0)
    have h1 := byte_at t 0 h0
    have hc : c = t[0] := by rw [← h1]; simp [hq]
    rw [hq, hc, hP]
    rfl
  have HE := hid hE
  clear hE
  obtain ⟨R, hR⟩ : ∃ R, spF t.data.toList 64 1 0 4 zs7 = R := ⟨_, rfl⟩
  have HR := hid hR
  rw [hR]
  clear hR
  go_enter Tryd.func25, Tryd.ntmps25
  go_wp2_with fail
  refine (HP.out _).mono ?_
  rintro e w1 ⟨rfl, rfl⟩
  go_wp2_with fail
  have HB0 := hid (show SP w zs7 _ from ⟨rfl, (HE.out.below (alloc_belowS _ _)).below (alloc_belowS _ _), ((Below.refl _ _).alloc (Nat.le_refl _) (.cells #[.int .i64 0, .int .i64 0, .int .i64 0, .int .i64 0, .int .i64 0, .int .i64 0, .int .i64 0] 23)).alloc (by simp) (ptS w.heap.size), (show LBox _ w.heap.size zs7 from heap_alloc_new w (.cells #[.int .i64 0, .int .i64 0, .int .i64 0, .int .i64 0, .int .i64 0, .int .i64 0, .int .i64 0] 23)).later (alloc_belowS _ _), by
    have h := heap_alloc_new (w.alloc (.cells #[.int .i64 0, .int .i64 0, .int .i64 0, .int .i64 0, .int .i64 0, .int .i64 0, .int .i64 0] 23)) (ptS w.heap.size)
    rw [show (w.alloc (.cells #[.int .i64 0, .int .i64 0, .int .i64 0, .int .i64 0, .int .i64 0, .int .i64 0, .int .i64 0] 23)).heap.size = w.heap.size + 1 by simp] at h
    exact h⟩)
  have lt : t.data.toList.length = t.size := Array.length_toList
  have LT := hid lt
  clear lt
  clear HP
  go_loopw [3, 5, 6] (fun a nx en wr => ∃ (x n m f : Nat) (s : List Int), a = .int .i64 (x : Int) ∧ nx = .int .i64 (n : Int) ∧ en = .int .i64 (m : Int) ∧ x ≤ t.size ∧ n ≤ m ∧ m ≤ 7 ∧ spF t.data.toList f x n m s = R ∧ t.size ≤ x + f ∧ SP w s wr) (fun a _ _ _ => t.size - (intOf a).toNat)
  case atStart => exact ⟨1, 0, 4, 64, zs7, rfl, rfl, rfl, by omega, by omega, by omega, HR.out, by omega, HB0.out⟩
  case round =>
    clear HB0 HR
    obtain ⟨x, n, m, f, s, rfl, rfl, rfl, hx, hnm, hm7, hsp, hfu, hS⟩ := hrel
    have HSP := hid hsp
    have HS := hid hS
    clear hsp hS
    by_cases h1 : x < t.size
    · obtain ⟨f', rfl⟩ : ∃ f', f = f' + 1 := ⟨f - 1, by omega⟩
      have bx := bt_at t x h1
      have i1 : (x : Int) < (t.size : Int) := by omega
      by_cases hT : t[x] = 84 ∧ m = 4
      · obtain ⟨hT1, rfl⟩ := hT
        have HN := hid (show spF t.data.toList f' (x + 1) 4 7 s = R by rw [← HSP.out, spF_T (by rw [LT.out]; exact h1) ⟨by rw [bx]; exact hT1, rfl⟩])
        have hx84 : (t[x]'h1).toNat = 84 := by rw [hT1]; rfl
        clear hT1 bx
        go_wp2
        go_roundw
        case rel => exact ⟨x + 1, 4, 7, f', s, by go_num, rfl, rfl, by omega, by omega, by omega, HN.out, by omega, HS.out⟩
        case measure => simp [intOf]; omega
      · have HT := hid (show ¬ (bt t.data.toList x = 84 ∧ m = 4) by rw [bx]; exact hT)
        have hTi : ((t[x]'h1).toNat = 84 ∧ ((m : Int) == 4) = false) ∨ ((((t[x]'h1).toNat : Int) == 84) = false) := by
          by_cases e : t[x] = 84
          · left; exact ⟨by rw [e]; rfl, by rw [beq_eq_false_iff_ne]; intro q; exact hT ⟨e, by omega⟩⟩
          · right; rw [beq_eq_false_iff_ne]; intro q; exact e (UInt8.toNat_inj.mp (by show (t[x]'h1).toNat = 84; omega))
        clear hT bx
        by_cases h2 : n = m
        · subst h2
          have HV := hid (show R = (s, x) by rw [← HSP.out, spF_full (by rw [LT.out]; exact h1) HT.out rfl])
          rcases hTi with ⟨q1, q2⟩ | q1
          all_goals
            obtain ⟨hl7, _, hB7, hbx, _⟩ := HS.out
            obtain ⟨a0, a1, a2, a3, a4, a5, a6, rfl⟩ := list7 hl7
            have c0 := hbx.cell 0 (show 0 < 7 by omega)
            have z0 := hbx.soft 0
            have c1 := hbx.cell 1 (show 1 < 7 by omega)
            have z1 := hbx.soft 1
            have c2 := hbx.cell 2 (show 2 < 7 by omega)
            have z2 := hbx.soft 2
            have c3 := hbx.cell 3 (show 3 < 7 by omega)
            have z3 := hbx.soft 3
            have c4 := hbx.cell 4 (show 4 < 7 by omega)
            have z4 := hbx.soft 4
            have c5 := hbx.cell 5 (show 5 < 7 by omega)
            have z5 := hbx.soft 5
            have c6 := hbx.cell 6 (show 6 < 7 by omega)
            have z6 := hbx.soft 6
            have q7 := ((((((hbx.put 0 a0).put 1 a1).put 2 a2).put 3 a3).put 4 a4).put 5 a5).put 6 a6
            have d0 := q7.cell 0 (show 0 < 7 by omega)
            have d1 := q7.cell 1 (show 1 < 7 by omega)
            have d2 := q7.cell 2 (show 2 < 7 by omega)
            have d3 := q7.cell 3 (show 3 < 7 by omega)
            have d4 := q7.cell 4 (show 4 < 7 by omega)
            have d5 := q7.cell 5 (show 5 < 7 by omega)
            have d6 := q7.cell 6 (show 6 < 7 by omega)
            simp at c0 c1 c2 c3 c4 c5 c6 d0 d1 d2 d3 d4 d5 d6
            have HB7 := hid hB7
            clear hbx q7 hB7 hl7
            go_wp2
            refine bodyPost_ret (by simp [results, Tryd.results25, go_sem, d0, d1, d2, d3, d4, d5, d6]; try rfl) rfl ?_
            exact ⟨⟨[a0, a1, a2, a3, a4, a5, a6], rfl, by rw [HV.out]; first | rfl | go_num, by rw [HV.out]⟩, ((((((HB7.out.setCell (Nat.le_refl _) _).setCell (Nat.le_refl _) _).setCell (Nat.le_refl _) _).setCell (Nat.le_refl _) _).setCell (Nat.le_refl _) _).setCell (Nat.le_refl _) _).setCell (Nat.le_refl _) _⟩
        · have hnmi : ((n : Int) == (m : Int)) = false := by rw [beq_eq_false_iff_ne]; omega
          obtain ⟨k, hk⟩ : ∃ k, k = dga (t.data.toList.drop x) 9 := ⟨_, rfl⟩
          have hk9 := dga_le (t.data.toList.drop x) 9
          rw [List.length_drop, LT.out, ← hk] at hk9
          have HDIG := hid (show ∀ c ∈ sub t.data.toList x k, isDB c = true by rw [hk]; exact dga_dig _ _)
          have HDA := hid (fun w => digits_any (t.extract x t.size) (by rw [ByteArray.size_extract]; omega) w)
          rw [drop_extract, ← hk] at HDA
          have HAT := hid (fun w hE => atoi_any t x k (by omega) (by omega) HDIG.out w hE)
          obtain ⟨y, hy⟩ : ∃ y, y = x + k := ⟨_, rfl⟩
          have hyi : (x : Int) + (k : Int) = (y : Int) := by omega
          have qs1 := fun w => run_from t x hx w
          have qs2 := fun w => run_sub t x y (y : Int) rfl (by omega) (by omega) w
          rw [show x + k = y from hy.symm] at HAT
          have HY := hid hy
          obtain ⟨v, hv⟩ : ∃ v : Int, v = (nm (sub t.data.toList x k) : Int) := ⟨_, rfl⟩
          rw [← hv] at HAT
          have HVV := hid hv
          clear hv
          have HK := hid hk
          clear hk
          by_cases h3 : k = 0 ∨ y = t.size
          · have HV := hid (show R = (s, y) by rw [← HSP.out, spF_num (by rw [LT.out]; exact h1) HT.out h2 (by rw [← HK.out, LT.out]; omega), ← HK.out, hy])
            have h3i : (((k : Int) == 0) = true) ∨ ((((k : Int) == 0) = false) ∧ (((y : Int) == (t.size : Int)) = true)) := by
              by_cases e : k = 0
              · left; rw [beq_iff_eq]; omega
              · right; exact ⟨by rw [beq_eq_false_iff_ne]; omega, by rw [beq_iff_eq]; omega⟩
            clear h3 hy
            rcases hTi with ⟨q1, q2⟩ | q1 <;> rcases h3i with h3 | ⟨h3, h3'⟩
            all_goals
              go_wp2_with fail
              refine (HDA.out _).mono ?_
              rintro e w1 ⟨rfl, nd, rfl⟩
              have HS1 := hid (HS.out.stable (below_drewN (Below.refl _ _) nd))
              go_wp2_with fail
              refine (HAT.out _ HS1.out.2.1).mono ?_
              rintro e w2 ⟨⟨er, rfl⟩, hb2⟩
              have HS2 := hid (HS1.out.stable hb2)
              clear hb2 HS1 qs1 qs2
              obtain ⟨hl7, _, hB7, hbx, _⟩ := HS2.out
              obtain ⟨a0, a1, a2, a3, a4, a5, a6, rfl⟩ := list7 hl7
              have c0 := hbx.cell 0 (show 0 < 7 by omega)
              have z0 := hbx.soft 0
              have c1 := hbx.cell 1 (show 1 < 7 by omega)
              have z1 := hbx.soft 1
              have c2 := hbx.cell 2 (show 2 < 7 by omega)
              have z2 := hbx.soft 2
              have c3 := hbx.cell 3 (show 3 < 7 by omega)
              have z3 := hbx.soft 3
              have c4 := hbx.cell 4 (show 4 < 7 by omega)
              have z4 := hbx.soft 4
              have c5 := hbx.cell 5 (show 5 < 7 by omega)
              have z5 := hbx.soft 5
              have c6 := hbx.cell 6 (show 6 < 7 by omega)
              have z6 := hbx.soft 6
              have q7 := ((((((hbx.put 0 a0).put 1 a1).put 2 a2).put 3 a3).put 4 a4).put 5 a5).put 6 a6
              have d0 := q7.cell 0 (show 0 < 7 by omega)
              have d1 := q7.cell 1 (show 1 < 7 by omega)
              have d2 := q7.cell 2 (show 2 < 7 by omega)
              have d3 := q7.cell 3 (show 3 < 7 by omega)
              have d4 := q7.cell 4 (show 4 < 7 by omega)
              have d5 := q7.cell 5 (show 5 < 7 by omega)
              have d6 := q7.cell 6 (show 6 < 7 by omega)
              simp at c0 c1 c2 c3 c4 c5 c6 d0 d1 d2 d3 d4 d5 d6
              have HB7 := hid hB7
              clear hbx q7 hB7 hl7
              go_wp2
              refine bodyPost_ret (by simp [results, Tryd.results25, go_sem, d0, d1, d2, d3, d4, d5, d6]; try rfl) rfl ?_
              exact ⟨⟨[a0, a1, a2, a3, a4, a5, a6], rfl, by rw [HV.out]; first | rfl | go_num, by rw [HV.out]⟩, ((((((HB7.out.setCell (Nat.le_refl _) _).setCell (Nat.le_refl _) _).setCell (Nat.le_refl _) _).setCell (Nat.le_refl _) _).setCell (Nat.le_refl _) _).setCell (Nat.le_refl _) _).setCell (Nat.le_refl _) _⟩
          · have hk0 : ((k : Int) == 0) = false := by rw [beq_eq_false_iff_ne]; omega
            have hys : ((y : Int) == (t.size : Int)) = false := by rw [beq_eq_false_iff_ne]; omega
            have hyl : y < t.size := by omega
            have by' := bt_at t y hyl
            have hyx : x < y := by omega
            obtain ⟨z, hz⟩ : ∃ z, z = slt n m t[y] := ⟨_, rfl⟩
            have HIX : Hid (∀ w, Calls Tryd.prog 43 #[.string (mkB.extract n m), .int .u8 ((t[y]'hyl).toNat : Int)] w fun e w' => e = .returned (.int .i64 z) ∧ w' = w) := fun w => by
              have h := Tryd.strings_IndexByte (mkB.extract n m) ((t[y]'hyl).toNat : Int) w
              rw [mk_sub n m hnm, show (((t[y]'hyl).toNat : Int)).toNat.toUInt8 = t[y]'hyl by simp] at h
              rw [hz]
              exact h
            have qs3 := fun w => run_sub mkB n m (m : Int) rfl hnm (by show m ≤ 7; exact hm7) w
            have iy : (y : Int) < (t.size : Int) := by omega
            have hzl := slt_lt n m t[y]
            rw [← hz] at hzl
            have h3' : ¬ (dga (t.data.toList.drop x) 9 = 0 ∨ x + dga (t.data.toList.drop x) 9 = t.data.toList.length) := by rw [← HK.out, LT.out]; omega
            by_cases h4 : z < 0
            · have HV := hid (show R = (s, y) by rw [← HSP.out, spF_bad (by rw [LT.out]; exact h1) HT.out h2 h3' (by rw [← HK.out, ← HY.out, by', ← hz]; exact h4), ← HK.out, hy])
              clear hz by' h3' hy h3
              rcases hTi with ⟨q1, q2⟩ | q1
              all_goals
                go_wp2_with fail
                refine (HDA.out _).mono ?_
                rintro e w1 ⟨rfl, nd, rfl⟩
                have HS1 := hid (HS.out.stable (below_drewN (Below.refl _ _) nd))
                go_wp2_with fail
                refine (HAT.out _ HS1.out.2.1).mono ?_
                rintro e w2 ⟨⟨er, rfl⟩, hb2⟩
                have HS2 := hid (HS1.out.stable hb2)
                clear hb2 HS1 qs1 qs2
                go_wp2_with fail
                go_quiet (first
                  | (go_at_call 43; exact Calls.quiet_of_same (HIX.out _)))
                have HS3 := hid (HS2.out.stable (below_drewN (Below.refl _ _) nq))
                clear HS2 qs3 HIX
                obtain ⟨hl7, _, hB7, hbx, _⟩ := HS3.out
                obtain ⟨a0, a1, a2, a3, a4, a5, a6, rfl⟩ := list7 hl7
                have c0 := hbx.cell 0 (show 0 < 7 by omega)
                have z0 := hbx.soft 0
                have c1 := hbx.cell 1 (show 1 < 7 by omega)
                have z1 := hbx.soft 1
                have c2 := hbx.cell 2 (show 2 < 7 by omega)
                have z2 := hbx.soft 2
                have c3 := hbx.cell 3 (show 3 < 7 by omega)
                have z3 := hbx.soft 3
                have c4 := hbx.cell 4 (show 4 < 7 by omega)
                have z4 := hbx.soft 4
                have c5 := hbx.cell 5 (show 5 < 7 by omega)
                have z5 := hbx.soft 5
                have c6 := hbx.cell 6 (show 6 < 7 by omega)
                have z6 := hbx.soft 6
                have q7 := ((((((hbx.put 0 a0).put 1 a1).put 2 a2).put 3 a3).put 4 a4).put 5 a5).put 6 a6
                have d0 := q7.cell 0 (show 0 < 7 by omega)
                have d1 := q7.cell 1 (show 1 < 7 by omega)
                have d2 := q7.cell 2 (show 2 < 7 by omega)
                have d3 := q7.cell 3 (show 3 < 7 by omega)
                have d4 := q7.cell 4 (show 4 < 7 by omega)
                have d5 := q7.cell 5 (show 5 < 7 by omega)
                have d6 := q7.cell 6 (show 6 < 7 by omega)
                simp at c0 c1 c2 c3 c4 c5 c6 d0 d1 d2 d3 d4 d5 d6
                have HB7 := hid hB7
                clear hbx q7 hB7 hl7
                go_wp2
                refine bodyPost_ret (by simp [results, Tryd.results25, go_sem, d0, d1, d2, d3, d4, d5, d6]; try rfl) rfl ?_
                exact ⟨⟨[a0, a1, a2, a3, a4, a5, a6], rfl, by rw [HV.out]; first | rfl | go_num, by rw [HV.out]⟩, ((((((HB7.out.setCell (Nat.le_refl _) _).setCell (Nat.le_refl _) _).setCell (Nat.le_refl _) _).setCell (Nat.le_refl _) _).setCell (Nat.le_refl _) _).setCell (Nat.le_refl _) _).setCell (Nat.le_refl _) _⟩
            · obtain ⟨jz, hjz⟩ : ∃ jz : Nat, z = (jz : Int) := ⟨z.toNat, by omega⟩
              subst hjz
              obtain ⟨j, hj⟩ : ∃ j, j = n + jz := ⟨_, rfl⟩
              have hji : (n : Int) + (jz : Int) = (j : Int) := by omega
              have hj7 : j < 7 := by omega
              have hjm : j < m := by omega
              have HN := hid (show spF t.data.toList f' (y + 1) (if t[y] = 87 then 7 else j + 1) (if t[y] = 87 then 7 else m) (s.set (fld j) v) = R by
                rw [← HSP.out, spF_go (by rw [LT.out]; exact h1) HT.out h2 h3' (by rw [← HK.out, ← HY.out, by', ← hz]; exact h4), ← HK.out, ← HY.out, by', ← hz, HVV.out, hj]
                rfl)
              have hf7 := fld_lt j
              have wj0 : IntKind.i64.wrap ((n : Int) + (jz : Int)) = (j : Int) := by rw [IntKind.wrap_i64]; omega
              have wj1 : IntKind.i64.wrap ((jz : Int) + 1) = (jz : Int) + 1 := by rw [IntKind.wrap_i64]; omega
              have wj2 : IntKind.i64.wrap ((n : Int) + ((jz : Int) + 1)) = (j : Int) + 1 := by rw [IntKind.wrap_i64]; omega
              clear hji
              subst hj
              clear hz by' h3' hy h3 h4
              by_cases hW : t[y] = 87
              · rw [if_pos hW, if_pos hW] at HN
                have hWi : (((t[y]'hyl).toNat : Int) == 87) = true := by rw [hW]; rfl
                clear hW
                rcases hTi with ⟨q1, q2⟩ | q1
                all_goals
                  go_wp2_with fail
                  refine (HDA.out _).mono ?_
                  rintro e w1 ⟨rfl, nd, rfl⟩
                  have HS1 := hid (HS.out.stable (below_drewN (Below.refl _ _) nd))
                  go_wp2_with fail
                  refine (HAT.out _ HS1.out.2.1).mono ?_
                  rintro e w2 ⟨⟨er, rfl⟩, hb2⟩
                  have HS2 := hid (HS1.out.stable hb2)
                  clear hb2 HS1 qs1 qs2
                  go_wp2_with fail
                  go_quiet (first
                    | (go_at_call 43; exact Calls.quiet_of_same (HIX.out _)))
                  have HS3 := hid (HS2.out.stable (below_drewN (Below.refl _ _) nq))
                  clear HS2 qs3 HIX
                  have p1 := ptS_at HS3.out.2.2.2.2 (n + jz) hj7
                  have p2 := HS3.out.2.2.2.1.cell (fld (n + jz)) (by rw [HS3.out.1]; exact hf7)
                  have p3 := HS3.out.2.2.2.1.soft (fld (n + jz))
                  simp only [World.cell?_drewN, World.frozen?_drewN] at p1 p2 p3
                  have HS4 := hid (HS3.out.put HE.out (fld (n + jz)) v)
                  go_wp2
                  go_roundw
                  case rel => exact ⟨y + 1, 7, 7, f', s.set (fld (n + jz)) v, by go_num, by go_num, by go_num, by omega, by omega, by omega, HN.out, by have := HY.out; omega, HS4.out⟩
                  case measure => simp [intOf]; have := HY.out; omega
              · rw [if_neg hW, if_neg hW] at HN
                have hWi : (((t[y]'hyl).toNat : Int) == 87) = false := by rw [beq_eq_false_iff_ne]; intro q; exact hW (UInt8.toNat_inj.mp (by show (t[y]'hyl).toNat = 87; omega))
                clear hW
                rcases hTi with ⟨q1, q2⟩ | q1
                all_goals
                  go_wp2_with fail
                  refine (HDA.out _).mono ?_
                  rintro e w1 ⟨rfl, nd, rfl⟩
                  have HS1 := hid (HS.out.stable (below_drewN (Below.refl _ _) nd))
                  go_wp2_with fail
                  refine (HAT.out _ HS1.out.2.1).mono ?_
                  rintro e w2 ⟨⟨er, rfl⟩, hb2⟩
                  have HS2 := hid (HS1.out.stable hb2)
                  clear hb2 HS1 qs1 qs2
                  go_wp2_with fail
                  go_quiet (first
                    | (go_at_call 43; exact Calls.quiet_of_same (HIX.out _)))
                  have HS3 := hid (HS2.out.stable (below_drewN (Below.refl _ _) nq))
                  clear HS2 qs3 HIX
                  have p1 := ptS_at HS3.out.2.2.2.2 (n + jz) hj7
                  have p2 := HS3.out.2.2.2.1.cell (fld (n + jz)) (by rw [HS3.out.1]; exact hf7)
                  have p3 := HS3.out.2.2.2.1.soft (fld (n + jz))
                  simp only [World.cell?_drewN, World.frozen?_drewN] at p1 p2 p3
                  have HS4 := hid (HS3.out.put HE.out (fld (n + jz)) v)
                  go_wp2
                  go_roundw
                  case rel => exact ⟨y + 1, n + jz + 1, m, f', s.set (fld (n + jz)) v, by go_num, by go_num, by go_num, by omega, by omega, by omega, HN.out, by have := HY.out; omega, HS4.out⟩
                  case measure => simp [intOf]; have := HY.out; omega
    · have HV := hid (show R = (s, x) by rw [← HSP.out, spF_end (by rw [LT.out]; exact h1)])
      obtain ⟨hl7, _, hB7, hbx, _⟩ := HS.out
      obtain ⟨a0, a1, a2, a3, a4, a5, a6, rfl⟩ := list7 hl7
      have c0 := hbx.cell 0 (show 0 < 7 by omega)
      have z0 := hbx.soft 0
      have c1 := hbx.cell 1 (show 1 < 7 by omega)
      have z1 := hbx.soft 1
      have c2 := hbx.cell 2 (show 2 < 7 by omega)
      have z2 := hbx.soft 2
      have c3 := hbx.cell 3 (show 3 < 7 by omega)
      have z3 := hbx.soft 3
      have c4 := hbx.cell 4 (show 4 < 7 by omega)
      have z4 := hbx.soft 4
      have c5 := hbx.cell 5 (show 5 < 7 by omega)
      have z5 := hbx.soft 5
      have c6 := hbx.cell 6 (show 6 < 7 by omega)
      have z6 := hbx.soft 6
      have q7 := ((((((hbx.put 0 a0).put 1 a1).put 2 a2).put 3 a3).put 4 a4).put 5 a5).put 6 a6
      have d0 := q7.cell 0 (show 0 < 7 by omega)
      have d1 := q7.cell 1 (show 1 < 7 by omega)
      have d2 := q7.cell 2 (show 2 < 7 by omega)
      have d3 := q7.cell 3 (show 3 < 7 by omega)
      have d4 := q7.cell 4 (show 4 < 7 by omega)
      have d5 := q7.cell 5 (show 5 < 7 by omega)
      have d6 := q7.cell 6 (show 6 < 7 by omega)
      simp at c0 c1 c2 c3 c4 c5 c6 d0 d1 d2 d3 d4 d5 d6
      have HB7 := hid hB7
      clear hbx q7 hB7 hl7
      go_wp2
      refine bodyPost_ret (by simp [results, Tryd.results25, go_sem, d0, d1, d2, d3, d4, d5, d6]; try rfl) rfl ?_
      exact ⟨⟨[a0, a1, a2, a3, a4, a5, a6], rfl, by rw [HV.out]; first | rfl | go_num, by rw [HV.out]⟩, ((((((HB7.out.setCell (Nat.le_refl _) _).setCell (Nat.le_refl _) _).setCell (Nat.le_refl _) _).setCell (Nat.le_refl _) _).setCell (Nat.le_refl _) _).setCell (Nat.le_refl _) _).setCell (Nat.le_refl _) _⟩
end Go.Proofs.YtjmainmidacmfaaDoor
