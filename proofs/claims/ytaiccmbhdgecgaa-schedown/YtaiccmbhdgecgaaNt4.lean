/-
  Nth of few steps, and lives: laid by mknt4.py.
-/
import Derived.Test.YtaiccmbhdgecgaaNt3
import Derived.Test.YtaiccmbhdgecgaaLe4
namespace Go.Proofs.Ytaiccmbhdgecgaa
open Go.RowKit
set_option maxRecDepth 100000

/-- Nth between two picks: r lies in block rb, its steps in block g -/
def NS (w : World) (rb g n c : Nat) (p m l0 l1 : Nat) : Prop := 2 ≤ n ∧ ∃ row, RB w rb g n c p m row ∧ row[0]? = some (.int .i64 (l0 : Int)) ∧ row[1]? = some (.int .i64 (l1 : Int))
theorem NS.drewN {w : World} {rb g n c p m l0 l1 : Nat} (h : NS w rb g n c p m l0 l1) (q : Nat) : NS (w.drewN q) rb g n c p m l0 l1 := h
theorem NS.below {w w' : World} {rb g n c p m l0 l1 B : Nat} (h : NS w rb g n c p m l0 l1) (k : Below B w w') (h1 : rb < B) (h2 : g < B) : NS w' rb g n c p m l0 l1 := by
  obtain ⟨h2n, row, ⟨r1, r2⟩, a, b⟩ := h
  exact ⟨h2n, row, ⟨(k.block rb h1).trans r1, (k.block g h2).trans r2⟩, a, b⟩
theorem NS.facts {w : World} {rb g n c p m l0 l1 : Nat} (h : NS w rb g n c p m l0 l1) : w.cell? ⟨rb, 1, none⟩ = some (.int .i64 (p : Int)) := by
  obtain ⟨h2n, row, ⟨r1, r2⟩, a, b⟩ := h
  rw [Lib.cell_of_heap r1]
  rfl
theorem NS.beg0 {w : World} {rb g n c p m l0 l1 : Nat} (h : NS w rb g n c p m l0 l1) (hp : 1 ≤ p) (hp2 : p ≤ 3) (hm : m ≤ 3) (hl3 : l0 ≤ 3) :
    Calls Try.prog 35 #[.pointer (some ⟨rb, 0, none⟩), .int .i64 0] w fun e w' => e = .returned (.int .i64 ((m * l0 / p : Nat) : Int)) ∧ ∃ nn, w' = w.drewN nn := by
  obtain ⟨h2n, row, r, a, b⟩ := h
  exact beg_any rb g n c p m 0 l0 row w r a (by omega) hp hp2 hm hl3
theorem NS.beg1 {w : World} {rb g n c p m l0 l1 : Nat} (h : NS w rb g n c p m l0 l1) (hp : 1 ≤ p) (hp2 : p ≤ 3) (hm : m ≤ 3) (hl3 : l1 ≤ 3) :
    Calls Try.prog 35 #[.pointer (some ⟨rb, 0, none⟩), .int .i64 1] w fun e w' => e = .returned (.int .i64 ((m * l1 / p : Nat) : Int)) ∧ ∃ nn, w' = w.drewN nn := by
  obtain ⟨h2n, row, r, a, b⟩ := h
  exact beg_any rb g n c p m 1 l1 row w r b (by omega) hp hp2 hm hl3
theorem row_two {row : Array Value} {a b : Value} (h0 : row[0]? = some a) (h1 : row[1]? = some b) (x : Value) : (row.setIfInBounds 0 x)[0]? = some x ∧ (row.setIfInBounds 0 x)[1]? = some b ∧ (row.setIfInBounds 1 x)[0]? = some a ∧ (row.setIfInBounds 1 x)[1]? = some x := by
  have s0 := (Array.getElem?_eq_some_iff.1 h0).1
  have s1 := (Array.getElem?_eq_some_iff.1 h1).1
  refine ⟨?_, ?_, ?_, ?_⟩
  · rw [Array.getElem?_setIfInBounds, if_pos rfl, if_pos s0]
  · rw [Array.getElem?_setIfInBounds, if_neg (by decide)]; exact h1
  · rw [Array.getElem?_setIfInBounds, if_neg (by decide)]; exact h0
  · rw [Array.getElem?_setIfInBounds, if_pos rfl, if_pos s1]
theorem NS.take0 {w : World} {rb g n c p m l0 l1 : Nat} (h : NS w rb g n c p m l0 l1) (hg : g ≠ rb) (hp : 1 ≤ p) (hp2 : p ≤ 3) (hm : m ≤ 3) (hl3 : l0 ≤ 3) (hl1 : 1 ≤ l0) :
    Calls Try.prog 36 #[.pointer (some ⟨rb, 0, none⟩), .int .i64 0] w fun e w' => e = .returned (.tuple #[]) ∧ NS w' rb g n c (p - 1) (m * l0 / p) (l0 - 1) l1 ∧ Of2 rb g w w' := by
  obtain ⟨h2n, row, r, a, b⟩ := h
  refine (take_any rb g n c p m 0 l0 row w r hg a (by omega) hp hp2 hm hl3 hl1).mono ?_
  rintro e w' ⟨rfl, r', o⟩
  have k := row_two a b (.int .i64 ((l0 - 1 : Nat) : Int))
  exact ⟨rfl, ⟨h2n, _, r', k.1, k.2.1⟩, o⟩
theorem NS.take1 {w : World} {rb g n c p m l0 l1 : Nat} (h : NS w rb g n c p m l0 l1) (hg : g ≠ rb) (hp : 1 ≤ p) (hp2 : p ≤ 3) (hm : m ≤ 3) (hl3 : l1 ≤ 3) (hl1 : 1 ≤ l1) :
    Calls Try.prog 36 #[.pointer (some ⟨rb, 0, none⟩), .int .i64 1] w fun e w' => e = .returned (.tuple #[]) ∧ NS w' rb g n c (p - 1) (m * l1 / p) l0 (l1 - 1) ∧ Of2 rb g w w' := by
  obtain ⟨h2n, row, r, a, b⟩ := h
  refine (take_any rb g n c p m 1 l1 row w r hg b (by omega) hp hp2 hm hl3 hl1).mono ?_
  rintro e w' ⟨rfl, r', o⟩
  have k := row_two a b (.int .i64 ((l1 - 1 : Nat) : Int))
  exact ⟨rfl, ⟨h2n, _, r', k.2.2.1, k.2.2.2⟩, o⟩
def N21 : List Nat := [2, 1]
set_option maxHeartbeats 4000000 in
theorem nth_lives (v : Value) (w : World) (hr : RI w v (iN N21)) :
    Calls Try.prog 10 #[v, .int .i64 1] w fun e w' => (∃ v', e = .returned (.tuple #[v', .int .i64 0]) ∧ OI w' w.heap.size v' [0, 1, 0]) ∧ Below w.heap.size w w' := by
  have HCo := hid (show Calls Try.prog 9 #[v] w fun e w' => e = .returned (.tuple #[.int .i64 3, .int .i64 0]) ∧ w' = w from countOf_any v N21 w hr (by decide) (by decide) (by decide))
  have HCl := hid (le_clone_any v (iN N21) w hr (by decide))
  have HSu := hid (fun wx hb => show Calls Try.prog 34 #[v] wx fun e w' => e = .returned (.int .i64 3) ∧ w' = wx from sumOf_any v N21 wx (RI.below hr (w' := wx) hb) (by decide) (by decide))
  obtain ⟨ao, cap, hv⟩ := hr.len0
  rw [show (iN N21).length = 2 from rfl] at hv
  subst hv
  clear hr
  go_enter Try.func10, Try.ntmps10
  go_wp2_with fail
  refine Calls.mono HCo.out ?_
  rintro e w1 ⟨rfl, rfl⟩
  clear HCo
  go_wp2_with fail
  refine Calls.mono HCl.out ?_
  rintro e w2 ⟨⟨v2, rfl, ho2⟩, hb2⟩
  have HS2 := hid (HSu.out w2 hb2)
  have HB2 := hid hb2
  have hz2 := hb2.size
  obtain ⟨g, c, cur, hv2, hg, hgg, hc, _, _, htk⟩ : ∃ g cap cur, v2 = .slice (some ⟨g, 0, none⟩) 2 cap ∧ w1.heap.size ≤ g ∧ w2.heap[g]? = some (.cells cur 3 (0, 0)) ∧ 2 ≤ cap ∧ cap ≤ maxLen ∧ cur.size = cap * 1 ∧ cur.toList.take (2 * 1) = ic (iN N21) := by
    rcases ho2.2 with h2 | h2
    · exact absurd h2.2 (by decide)
    · exact h2
  have hgs : g < w2.heap.size := (Array.getElem?_eq_some_iff.1 hgg).1
  have HG := hid hgg
  have HR2 := hid (show cur[0]? = some (.int .i64 2) ∧ cur[1]? = some (.int .i64 1) by
    have h0 : (cur.toList.take (2 * 1))[0]? = some (.int .i64 2) := by rw [htk]; rfl
    have h1 : (cur.toList.take (2 * 1))[1]? = some (.int .i64 1) := by rw [htk]; rfl
    rw [List.getElem?_take, if_pos (by decide)] at h0 h1
    exact ⟨by rw [← Array.getElem?_toList]; exact h0, by rw [← Array.getElem?_toList]; exact h1⟩)
  subst hv2
  clear ho2 hb2 hgg htk HCl HSu
  go_wp2_with fail
  refine Calls.mono HS2.out ?_
  rintro e w3 ⟨rfl, rfl⟩
  clear HS2
  go_wp2_with fail
  obtain ⟨W, hW⟩ : ∃ W, w3.alloc (.cells #[.slice (some ⟨g, 0, none⟩) 2 c, .int .i64 3, .int .i64 3] 63) = W := ⟨_, rfl⟩
  rw [hW]
  have hWs : W.heap.size = w3.heap.size + 1 := by rw [← hW, World.size_alloc]
  have HNS := hid (show NS W w3.heap.size g 2 c 3 3 2 1 from ⟨Nat.le_refl _, cur, ⟨by rw [← hW]; exact heap_alloc_new w3 _, by rw [← hW]; exact (((Below.refl w3.heap.size w3).alloc (Nat.le_refl _) _).block g hgs).trans HG.out⟩, HR2.out.1, HR2.out.2⟩)
  have HBW := hid (show Below w1.heap.size w1 W by rw [← hW]; exact HB2.out.alloc hz2 _)
  clear hW HG HR2 HB2
  generalize w3.heap.size = rb at *
  have hgr : g ≠ rb := by omega
  go_loopw [1, 9, 10] (fun vn v9 _ wx => ∃ k : Nat, k ≤ 3 ∧ vn = .int .i64 (if k < 2 then 1 else 0) ∧ NS wx rb g 2 c (3 - k) (if k = 0 then 3 else if k = 1 then 2 else 1) (if k = 0 then 2 else if k = 3 then 0 else 1) (if k < 2 then 1 else 0) ∧ OI wx (rb + 1) v9 (([0, 1, 0] : List Int).take k) ∧ Below w1.heap.size w1 wx ∧ rb < wx.heap.size) (fun _ v9 _ _ => 3 - slen v9)
  case atStart => exact ⟨0, by omega, rfl, HNS.out, OI.nil _ _, HBW.out, by omega⟩
  case round =>
    obtain ⟨k, hk, rfl, hns, ho, hB, hsz⟩ := hrel
    have HO := hid ho
    have HB := hid hB
    clear ho hB HNS HBW
    obtain ⟨a9, c9, hv9⟩ := HO.out.reads.len0
    rw [show (([0, 1, 0] : List Int).take k).length = k by simp; omega] at hv9
    subst hv9
    obtain rfl | rfl | rfl | rfl : k = 0 ∨ k = 1 ∨ k = 2 ∨ k = 3 := by omega
    · as_aux_lemma =>
      have HN := hid (show NS wr rb g 2 c 3 3 2 1 from hns)
      have c1 := HN.out.facts
      clear hns
      obtain ⟨wo, hwo⟩ : ∃ wo, wo = wr := ⟨_, rfl⟩
      subst hwo
      simp only [Nat.reduceLT, if_true]
      go_wp2_with fail
      go_loopw [1, 10] (fun vn vh wx => ∃ j : Nat, j ≤ 0 ∧ vn = .int .i64 (1 - (j : Int)) ∧ vh = .int .i64 (j : Int) ∧ ∃ q, wx = wo.drewN q) (fun _ vh _ => 0 + 1 - (intOf vh).toNat)
      case atStart => exact ⟨0, by omega, rfl, rfl, 0, rfl⟩
      case round =>
        obtain ⟨j, hj, rfl, rfl, q, rfl⟩ := hrel
        have HN := hid (HN.out.drewN q)
        have HB := hid (below_drewN HB.out q)
        have HO := hid (HO.out.below (below_drewN (Below.refl _ _) q))
        have hsz : rb < (wo.drewN q).heap.size := hsz
        generalize hwq : wo.drewN q = wq at *
        obtain rfl : j = 0 := by omega
        have HBe := hid (show Calls Try.prog 35 #[.pointer (some ⟨rb, 0, none⟩), .int .i64 0] wq fun e w' => e = .returned (.int .i64 2) ∧ ∃ n, w' = wq.drewN n from HN.out.beg0 (by omega) (by omega) (by omega) (by omega))
        go_wp2_with fail
        refine Calls.mono HBe.out ?_
        rintro e w5 ⟨rfl, n5, rfl⟩
        have HTk := hid (show Calls Try.prog 36 #[.pointer (some ⟨rb, 0, none⟩), .int .i64 0] (wq.drewN n5) fun e w' => e = .returned (.tuple #[]) ∧ NS w' rb g 2 c 2 2 1 1 ∧ Of2 rb g (wq.drewN n5) w' from (HN.out.drewN n5).take0 hgr (by omega) (by omega) (by omega) (by omega) (by omega))
        have HO := hid (HO.out.below (below_drewN (Below.refl _ _) n5))
        have HB := hid (below_drewN HB.out n5)
        have hsz : rb < (wq.drewN n5).heap.size := hsz
        clear HBe
        generalize wq.drewN n5 = wp at *
        go_wp2_with fail
        refine Calls.mono HTk.out ?_
        rintro e w6 ⟨rfl, hn6, ho6⟩
        have HN6 := hid hn6
        have HO6 := hid (HO.out.of2 ho6 (by omega) (by omega))
        have HB6 := hid (HB.out.trans (ho6.below (by omega) (by omega)))
        have hs6 : rb < w6.heap.size := by rw [ho6.2.2.2.1]; exact hsz
        clear hn6 ho6 HTk HN HO HB hsz
        go_wp2_with (at_builtin; refine wpList_appI rfl _ _ rfl (rb + 1) _ (([0, 1, 0] : List Int).take 0) rfl (HO6.out.alloc _) _ [0] rfl (ri_one _ _) (by simp) (by simp; omega) ?hnext)
        case hnext =>
          intro v7 w7 ho7 hg7
          have HO7 := hid (show OI w7 (rb + 1) v7 (([0, 1, 0] : List Int).take 1) from ho7)
          have hsl : slen v7 = 1 := by
            obtain ⟨ao8, c8, e8⟩ := HO7.out.reads.len0
            rw [e8]
            rfl
          have hB67 := (((Below.refl (rb + 1) w6).alloc (by omega) (.cells #[.int .i64 0] 3)).grown hg7 (by simp; omega) (fun k' hk' => HO6.out.block_ge k' hk'))
          have HN7 := hid (HN6.out.below hB67 (by omega) (by omega))
          have HB7 := hid (HB6.out.trans (hB67.mono (by omega)))
          have hs7 := hB67.size
          clear ho7 hg7 hB67
          go_wp2
          go_roundw
          case rel => exact ⟨1, by omega, rfl, HN7.out, HO7.out, HB7.out, by omega⟩
          case measure => rw [hsl]; show _ < 3 - 0; omega
    · as_aux_lemma =>
      have HN := hid (show NS wr rb g 2 c 2 2 1 1 from hns)
      have c1 := HN.out.facts
      clear hns
      obtain ⟨wo, hwo⟩ : ∃ wo, wo = wr := ⟨_, rfl⟩
      subst hwo
      simp only [Nat.reduceLT, if_true]
      go_wp2_with fail
      go_loopw [1, 10] (fun vn vh wx => ∃ j : Nat, j ≤ 1 ∧ vn = .int .i64 (1 - (j : Int)) ∧ vh = .int .i64 (j : Int) ∧ ∃ q, wx = wo.drewN q) (fun _ vh _ => 1 + 1 - (intOf vh).toNat)
      case atStart => exact ⟨0, by omega, rfl, rfl, 0, rfl⟩
      case round =>
        obtain ⟨j, hj, rfl, rfl, q, rfl⟩ := hrel
        have HN := hid (HN.out.drewN q)
        have HB := hid (below_drewN HB.out q)
        have HO := hid (HO.out.below (below_drewN (Below.refl _ _) q))
        have hsz : rb < (wo.drewN q).heap.size := hsz
        generalize hwq : wo.drewN q = wq at *
        by_cases hj0 : j = 0
        · subst hj0
          have HBe := hid (show Calls Try.prog 35 #[.pointer (some ⟨rb, 0, none⟩), .int .i64 0] wq fun e w' => e = .returned (.int .i64 1) ∧ ∃ n, w' = wq.drewN n from HN.out.beg0 (by omega) (by omega) (by omega) (by omega))
          go_wp2_with fail
          refine Calls.mono HBe.out ?_
          rintro e w5 ⟨rfl, n5, rfl⟩
          have HBe2 := hid (show Calls Try.prog 35 #[.pointer (some ⟨rb, 0, none⟩), .int .i64 0] (wq.drewN n5) fun e w' => e = .returned (.int .i64 1) ∧ ∃ n, w' = (wq.drewN n5).drewN n from (HN.out.drewN n5).beg0 (by omega) (by omega) (by omega) (by omega))
          clear HBe
          go_wp2_with fail
          refine Calls.mono HBe2.out ?_
          rintro e w6 ⟨rfl, n6, rfl⟩
          clear HBe2
          go_wp2
          go_roundw
          case rel => exact ⟨1, by omega, rfl, rfl, q + n5 + n6, by rw [← hwq, World.drewN_drewN, Nat.add_assoc]⟩
          case measure => decide
        obtain rfl : j = 1 := by omega
        have HBe := hid (show Calls Try.prog 35 #[.pointer (some ⟨rb, 0, none⟩), .int .i64 1] wq fun e w' => e = .returned (.int .i64 1) ∧ ∃ n, w' = wq.drewN n from HN.out.beg1 (by omega) (by omega) (by omega) (by omega))
        go_wp2_with fail
        refine Calls.mono HBe.out ?_
        rintro e w5 ⟨rfl, n5, rfl⟩
        have HTk := hid (show Calls Try.prog 36 #[.pointer (some ⟨rb, 0, none⟩), .int .i64 1] (wq.drewN n5) fun e w' => e = .returned (.tuple #[]) ∧ NS w' rb g 2 c 1 1 1 0 ∧ Of2 rb g (wq.drewN n5) w' from (HN.out.drewN n5).take1 hgr (by omega) (by omega) (by omega) (by omega) (by omega))
        have HO := hid (HO.out.below (below_drewN (Below.refl _ _) n5))
        have HB := hid (below_drewN HB.out n5)
        have hsz : rb < (wq.drewN n5).heap.size := hsz
        clear HBe
        generalize wq.drewN n5 = wp at *
        go_wp2_with fail
        refine Calls.mono HTk.out ?_
        rintro e w6 ⟨rfl, hn6, ho6⟩
        have HN6 := hid hn6
        have HO6 := hid (HO.out.of2 ho6 (by omega) (by omega))
        have HB6 := hid (HB.out.trans (ho6.below (by omega) (by omega)))
        have hs6 : rb < w6.heap.size := by rw [ho6.2.2.2.1]; exact hsz
        clear hn6 ho6 HTk HN HO HB hsz
        go_wp2_with (at_builtin; refine wpList_appI rfl _ _ rfl (rb + 1) _ (([0, 1, 0] : List Int).take 1) rfl (HO6.out.alloc _) _ [1] rfl (ri_one _ _) (by simp) (by simp; omega) ?hnext)
        case hnext =>
          intro v7 w7 ho7 hg7
          have HO7 := hid (show OI w7 (rb + 1) v7 (([0, 1, 0] : List Int).take 2) from ho7)
          have hsl : slen v7 = 2 := by
            obtain ⟨ao8, c8, e8⟩ := HO7.out.reads.len0
            rw [e8]
            rfl
          have hB67 := (((Below.refl (rb + 1) w6).alloc (by omega) (.cells #[.int .i64 1] 3)).grown hg7 (by simp; omega) (fun k' hk' => HO6.out.block_ge k' hk'))
          have HN7 := hid (HN6.out.below hB67 (by omega) (by omega))
          have HB7 := hid (HB6.out.trans (hB67.mono (by omega)))
          have hs7 := hB67.size
          clear ho7 hg7 hB67
          go_wp2
          go_roundw
          case rel => exact ⟨2, by omega, rfl, HN7.out, HO7.out, HB7.out, by omega⟩
          case measure => rw [hsl]; show _ < 3 - 1; omega
    · as_aux_lemma =>
      have HN := hid (show NS wr rb g 2 c 1 1 1 0 from hns)
      have c1 := HN.out.facts
      clear hns
      obtain ⟨wo, hwo⟩ : ∃ wo, wo = wr := ⟨_, rfl⟩
      subst hwo
      simp only [Nat.reduceLT, if_false]
      go_wp2_with fail
      go_loopw [1, 10] (fun vn vh wx => ∃ j : Nat, j ≤ 0 ∧ vn = .int .i64 (0 - (j : Int)) ∧ vh = .int .i64 (j : Int) ∧ ∃ q, wx = wo.drewN q) (fun _ vh _ => 0 + 1 - (intOf vh).toNat)
      case atStart => exact ⟨0, by omega, rfl, rfl, 0, rfl⟩
      case round =>
        obtain ⟨j, hj, rfl, rfl, q, rfl⟩ := hrel
        have HN := hid (HN.out.drewN q)
        have HB := hid (below_drewN HB.out q)
        have HO := hid (HO.out.below (below_drewN (Below.refl _ _) q))
        have hsz : rb < (wo.drewN q).heap.size := hsz
        generalize hwq : wo.drewN q = wq at *
        obtain rfl : j = 0 := by omega
        have HBe := hid (show Calls Try.prog 35 #[.pointer (some ⟨rb, 0, none⟩), .int .i64 0] wq fun e w' => e = .returned (.int .i64 1) ∧ ∃ n, w' = wq.drewN n from HN.out.beg0 (by omega) (by omega) (by omega) (by omega))
        go_wp2_with fail
        refine Calls.mono HBe.out ?_
        rintro e w5 ⟨rfl, n5, rfl⟩
        have HTk := hid (show Calls Try.prog 36 #[.pointer (some ⟨rb, 0, none⟩), .int .i64 0] (wq.drewN n5) fun e w' => e = .returned (.tuple #[]) ∧ NS w' rb g 2 c 0 1 0 0 ∧ Of2 rb g (wq.drewN n5) w' from (HN.out.drewN n5).take0 hgr (by omega) (by omega) (by omega) (by omega) (by omega))
        have HO := hid (HO.out.below (below_drewN (Below.refl _ _) n5))
        have HB := hid (below_drewN HB.out n5)
        have hsz : rb < (wq.drewN n5).heap.size := hsz
        clear HBe
        generalize wq.drewN n5 = wp at *
        go_wp2_with fail
        refine Calls.mono HTk.out ?_
        rintro e w6 ⟨rfl, hn6, ho6⟩
        have HN6 := hid hn6
        have HO6 := hid (HO.out.of2 ho6 (by omega) (by omega))
        have HB6 := hid (HB.out.trans (ho6.below (by omega) (by omega)))
        have hs6 : rb < w6.heap.size := by rw [ho6.2.2.2.1]; exact hsz
        clear hn6 ho6 HTk HN HO HB hsz
        go_wp2_with (at_builtin; refine wpList_appI rfl _ _ rfl (rb + 1) _ (([0, 1, 0] : List Int).take 2) rfl (HO6.out.alloc _) _ [0] rfl (ri_one _ _) (by simp) (by simp; omega) ?hnext)
        case hnext =>
          intro v7 w7 ho7 hg7
          have HO7 := hid (show OI w7 (rb + 1) v7 (([0, 1, 0] : List Int).take 3) from ho7)
          have hsl : slen v7 = 3 := by
            obtain ⟨ao8, c8, e8⟩ := HO7.out.reads.len0
            rw [e8]
            rfl
          have hB67 := (((Below.refl (rb + 1) w6).alloc (by omega) (.cells #[.int .i64 0] 3)).grown hg7 (by simp; omega) (fun k' hk' => HO6.out.block_ge k' hk'))
          have HN7 := hid (HN6.out.below hB67 (by omega) (by omega))
          have HB7 := hid (HB6.out.trans (hB67.mono (by omega)))
          have hs7 := hB67.size
          clear ho7 hg7 hB67
          go_wp2
          go_roundw
          case rel => exact ⟨3, by omega, rfl, HN7.out, HO7.out, HB7.out, by omega⟩
          case measure => rw [hsl]; show _ < 3 - 2; omega
    · have c1 := NS.facts hns
      simp only [Nat.sub_self] at c1
      have HF := hid (show OI wr w1.heap.size (.slice a9 3 c9) [0, 1, 0] from HO.out.mono (by omega))
      clear hns
      go_wp2
      go_ret2
      exact ⟨⟨_, rfl, HF.out⟩, HB.out⟩
theorem ri_lit (w : World) (R : List Int) : RI (w.alloc (.cells (ic R).toArray 3)) (.slice (some ⟨w.heap.size, 0, none⟩) R.length R.length) R := RI.block (heap_alloc_new w _) (Nat.le_refl _)
set_option maxHeartbeats 400000 in
theorem lives_any (w : World) : Calls Try.prog 11 #[] w fun e w' => e = .returned (.bool true) ∧ Below w.heap.size w w' := by
  have HN := hid (nth_lives _ _ (show RI (w.alloc (.cells #[.int .i64 2, .int .i64 1] 3)) (.slice (some ⟨w.heap.size, 0, none⟩) 2 2) (iN N21) from ri_lit w [2, 1]))
  have B1 := hid (show Below w.heap.size w (w.alloc (.cells #[.int .i64 2, .int .i64 1] 3)) from (Below.refl _ _).alloc (Nat.le_refl _) _)
  go_enter Try.func11, Try.ntmps11
  go_wp2_with fail
  refine Calls.mono HN.out ?_
  rintro e w2 ⟨⟨v2, rfl, ho2⟩, hb2⟩
  have HO2 := hid ho2
  have B2 := hid (B1.out.trans (hb2.mono B1.out.size))
  have HS := hid (same_any v2 _ [0, 1, 0] [0, 1, 0] (w2.alloc (.cells #[.int .i64 0, .int .i64 1, .int .i64 0] 3)) (ho2.reads.alloc _) (show RI (w2.alloc (.cells #[.int .i64 0, .int .i64 1, .int .i64 0] 3)) (.slice (some ⟨w2.heap.size, 0, none⟩) 3 3) [0, 1, 0] from ri_lit w2 [0, 1, 0]) (by decide) (by decide))
  have B3 := hid (show Below w.heap.size w (w2.alloc (.cells #[.int .i64 0, .int .i64 1, .int .i64 0] 3)) from B2.out.alloc B2.out.size _)
  clear ho2 hb2 HN
  go_wp2_with fail
  refine Calls.mono HS.out ?_
  rintro e w5 ⟨⟨bb, rfl, hbb⟩, hb5⟩
  obtain rfl : bb = true := by simpa using hbb
  have HB5 := hid (B3.out.trans (hb5.mono B3.out.size))
  clear hbb hb5 HS
  go_wp2
  go_ret
  exact ⟨rfl, HB5.out⟩
end Go.Proofs.Ytaiccmbhdgecgaa
