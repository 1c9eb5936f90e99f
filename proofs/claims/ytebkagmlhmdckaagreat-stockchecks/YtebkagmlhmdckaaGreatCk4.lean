/-
  stock: the sums of lines so far, in a map; checkLines.
-/
import Derived.Maps.OwnSet
import Derived.Maps.Views
import Derived.StringKeys
import Derived.Test.YtebkagmlhmdckaaGreatCk3
namespace Go.Proofs.YtebkagmlhmdckaaGreat
open Go.RowKit Go.Maps Go.WideMaps
set_option maxRecDepth 100000
set_option linter.unusedSimpArgs false

/-- a map's element, held as it lies -/
def RV (v : Value) : Option (DataW Value × List MemPlace) := some (.held v, [])
theorem keyS : Keyed Tryz.prog 9 := string_keyed Tryz.underlying9
/-- the map in block b holds M -/
def NQ (w : World) (b n : Nat) (M : ByteArray → Value) : Prop := ∃ D, w.ownsMap Tryz.prog 9 RV b n D ∧ ∀ s : ByteArray, D.atKey (.string s.data.toList) (.held (.int .i64 0)) = .held (M s)
theorem NQ.made (w : World) : NQ (w.alloc (.map #[] 0)) w.heap.size 0 (fun _ => .int .i64 0) := ⟨_, World.ownsMap_made _ _ _ _, fun _ => rfl⟩
theorem NQ.kept {w w' : World} {b n : Nat} {M : ByteArray → Value} {row : Option Nat} (h : NQ w b n M) (hg : w.grownBy w' row) (hne : some b ≠ row) : NQ w' b n M := by
  obtain ⟨D, hD, hM⟩ := h
  exact ⟨D, hD.kept hg hne, hM⟩
theorem NQ.lt {w : World} {b n : Nat} {M : ByteArray → Value} (h : NQ w b n M) : b < w.heap.size := by
  obtain ⟨D, hD, _⟩ := h
  exact hD.lt
/-- M, but v at k -/
def updN (M : ByteArray → Value) (k : ByteArray) (v : Value) : ByteArray → Value := fun x => if x = k then v else M x
theorem bytes_eq {a b : ByteArray} (h : a.data.toList = b.data.toList) : a = b := by
  cases a; cases b
  simp only at h
  congr
  exact Array.toList_inj.1 h
theorem NQ.put {w : World} {b n : Nat} {M : ByteArray → Value} (h : NQ w b n M) {k : ByteArray} (hk : k.size ≤ maxLen) (hn : n < maxLen) (v : Value) :
    ∃ w', (Instr.mapUpdate 55 (.map (some b)) (.string k) v).run Tryz.prog w = .ok () w' ∧ NQ w' b (n + 1) (updN M k v) ∧ w.grownBy w' (some b) := by
  obtain ⟨D, hD, hM⟩ := h
  have hkey := keyOf_string_mk Tryz.underlying9 hk
  obtain ⟨w', hrun, hD', hg⟩ := hD.update keyS Tryz.underlying55 hn hkey (show RV v = some (.held v, []) from rfl)
  refine ⟨w', hrun, ⟨_, hD', fun x => ?_⟩, hg⟩
  unfold updN
  split
  · rename_i e
    subst e
    exact atKey_put_same hD.isMap (keyS.key hkey) _ _
  · rename_i e
    rw [atKey_put_other (fun e' => e (bytes_eq (by injection e'))), hM x]
theorem zeroI (w : World) : (zeroValue 3).run Tryz.prog w = .ok (.int .i64 0) w := by kernel_rfl
theorem NQ.get {w : World} {b n : Nat} {M : ByteArray → Value} (h : NQ w b n M) {k : ByteArray} (hk : k.size ≤ maxLen) :
    (Instr.lookup 55 (.map (some b)) (.string k) false).run Tryz.prog w = .ok (M k) w := by
  obtain ⟨D, hD, hM⟩ := h
  obtain ⟨v, ps, hrun, hv⟩ := hD.lookup keyS Tryz.underlying55 (zeroI w) (zd := .held (.int .i64 0)) (zp := []) rfl (keyOf_string_mk Tryz.underlying9 hk)
  rw [hM k] at hv
  simp only [RV, Option.some.injEq, Prod.mk.injEq, DataW.held.injEq] at hv
  rw [hrun, hv.1]
theorem run_mapN (n : Nat) (hn : n ≤ 32) (w : World) : (Instr.makeMap 55 (some (.int .i64 (n : Int)))).run Tryz.prog w = .ok (.map (some w.heap.size)) (w.alloc (.map #[] 0)) := by
  have h1 : ¬ (n : Int) < 0 := by omega
  simp [Instr.makeMap, go_sem, h1]
set_option maxHeartbeats 8000000 in
theorem checkLines_any (r : Rq) (ao : Option Addr) (cap : Nat) (w : World) (hR : RLn w (.slice ao r.lines.length cap) r.lines) (hS : ∀ y ∈ r.lines, y.1.size ≤ 9223372036854775807) :
    Calls Tryz.prog 16 #[rqV r ao cap] w fun e w' => e = .returned (.tuple #[.int .i64 (lnA r.kind r.lines).1, .int .i64 ((lnA r.kind r.lines).2 : Nat)]) ∧ Below w.heap.size w w' := by
  unfold rqV
  obtain ⟨W, hW⟩ : ∃ W, w.alloc (.cells #[.string r.id, .int .i64 r.kind, .slice ao r.lines.length cap, .string r.hold, .int .i64 r.ttl, .int .i64 r.now] 24) = W := ⟨_, rfl⟩
  have HRW : W.heap[w.heap.size]? = some (.cells #[.string r.id, .int .i64 r.kind, .slice ao r.lines.length cap, .string r.hold, .int .i64 r.ttl, .int .i64 r.now] 24 (0, 0)) := by rw [← hW]; exact heap_alloc_new w _
  have BW := hid (show Below w.heap.size w W by rw [← hW]; exact (Below.refl _ _).alloc (Nat.le_refl _) _)
  have zW : W.heap.size = w.heap.size + 1 := by rw [← hW, World.size_alloc]
  have c1 : W.cell? ⟨w.heap.size, 1, none⟩ = some (.int .i64 r.kind) := by rw [Lib.cell_of_heap HRW]; rfl
  have c2 : W.cell? ⟨w.heap.size, 2, none⟩ = some (.slice ao r.lines.length cap) := by rw [Lib.cell_of_heap HRW]; rfl
  have HL := hid (hR.below BW.out)
  have HS := hid hS
  have HW := hid hW
  have hlen := hR.len
  clear hR HRW hS hW
  have C := hid (And.intro c1 c2)
  have ZW := hid zW
  clear zW
  by_cases h0 : r.lines.length < 1 ∨ 32 < r.lines.length
  · have ha : lnA r.kind r.lines = (122, 0) := if_pos h0
    rw [ha]
    rcases h0 with h0 | h0
    · have h0' : r.lines = [] := List.eq_nil_of_length_eq_zero (by omega)
      have h0'' : r.lines.length = 0 := by omega
      rw [h0''] at c2
      go_enter Tryz.func16, Tryz.ntmps16
      go_wp2_with fail
      all_goals go_ret2
      all_goals exact ⟨rfl, (Below.refl _ _).alloc (Nat.le_refl _) _⟩
    · have hne : r.lines ≠ [] := fun e => by rw [e] at h0; simp at h0
      have h1' : (32 : Int) < (r.lines.length : Int) := by omega
      go_enter Tryz.func16, Tryz.ntmps16
      go_wp2_with fail
      all_goals go_ret2
      all_goals exact ⟨rfl, (Below.refl _ _).alloc (Nat.le_refl _) _⟩
  · have ha : lnA r.kind r.lines = lnE r.kind [] r.lines := if_neg h0
    have HA := hid ha
    have h0' : ¬ (r.lines.length : Int) = 0 := by omega
    have hne : r.lines ≠ [] := fun e => by rw [e] at h0; simp at h0
    have hne2 : ¬ r.lines.length = 0 := by omega
    have h1' : ¬ (32 : Int) < (r.lines.length : Int) := by omega
    have hmm := run_mapN r.lines.length (by omega)
    obtain ⟨W1, hW1⟩ : ∃ W1, W.alloc (.map #[] 0) = W1 := ⟨_, rfl⟩
    have N1 := hid (show NQ W1 W.heap.size 0 (fun _ => .int .i64 0) by rw [← hW1]; exact NQ.made W)
    have B1 := hid (show Below W.heap.size W W1 by rw [← hW1]; exact (Below.refl _ _).alloc (Nat.le_refl _) _)
    have HW1 := hid hW1
    have d2 : W1.cell? ⟨w.heap.size, 2, none⟩ = some (.slice ao r.lines.length cap) := below_cells B1.out _ _ c2
    clear ha hW1
    go_enter Tryz.func16, Tryz.ntmps16
    go_wp2_with fail
    try rw [HW.out]
    go_wp2_with fail
    try rw [HW1.out]
    go_wp2_with fail
    clear c1 c2 d2 hmm
    go_loopw [24] (fun i wr => ∃ k : Nat, k ≤ r.lines.length ∧ i = .int .i64 (k : Int) ∧ lnA r.kind r.lines = lnE r.kind (r.lines.take k) (r.lines.drop k) ∧ (∃ M, NQ wr W.heap.size k M ∧ ∀ c, M c = .int .i64 (ahL (r.lines.take k) c.data.toList)) ∧ Below W.heap.size W wr) (fun i _ => r.lines.length - (intOf i).toNat)
    case atStart => exact ⟨0, by omega, rfl, by simpa using HA.out, ⟨_, N1.out, fun c => by simp [ahL]⟩, B1.out⟩
    case round =>
      obtain ⟨k, hk, rfl, hq, ⟨M, hM, hMc⟩, hb⟩ := hrel
      by_cases h : k < r.lines.length
      · have hI : (k : Int) < (r.lines.length : Int) := by omega
        rw [lnE_at r.kind r.lines k h] at hq
        have hsz := HS.out _ (List.getElem_mem h)
        have HT := hid (fun c : List UInt8 => show ahL (r.lines.take (k + 1)) c = ahS c (ahL (r.lines.take k) c) (r.lines[k]'h) by rw [List.take_succ_eq_append_getElem h, ahL_snoc])
        rcases HL.out with ⟨e0, _⟩ | ⟨b, off, cp, hv, hcp, hcell⟩
        · rw [e0] at h; simp at h
        cases hv
        have d0 := below_cells hb _ _ (hcell k h).1
        have d1 := below_cells hb _ _ (hcell k h).2
        have hxx : ∃ x y : _, (r.lines[k]'h).1 = x ∧ (r.lines[k]'h).2 = y := ⟨_, _, rfl, rfl⟩
        obtain ⟨x, y, ex, ey⟩ := hxx
        obtain ⟨a, ha⟩ : ∃ a, ahL (r.lines.take k) x.data.toList = a := ⟨_, rfl⟩
        rw [ex] at hsz
        have bw : Below wr.heap.size wr (wr.alloc (.cells #[.string x, .int .i64 y] 45)) := (Below.refl _ _).alloc (Nat.le_refl _) _
        have e1 : (wr.alloc (.cells #[.string x, .int .i64 y] 45)).cell? ⟨w.heap.size, 1, none⟩ = some (.int .i64 r.kind) := below_cells bw _ _ (below_cells hb _ _ C.out.1)
        have n5 := hM.kept (Below.grew bw) (by simp)
        have hget := n5.get (k := x) (by unfold maxLen; omega)
        rw [hMc x, ha] at hget
        obtain ⟨w6, hput, hN6, hg6⟩ := n5.put (k := x) (by unfold maxLen; omega) (by unfold maxLen; omega) (.int .i64 (wrap64 (a + y)))
        rw [ZW.out] at hget hput
        have B5 := hid (hb.trans (bw.mono hb.size))
        have B6 := hid (B5.out.grown hg6 B5.out.size (fun j hj => by cases hj; exact Nat.le_refl _))
        have N6 := hid (show ∃ M', NQ w6 W.heap.size (k + 1) M' ∧ ∀ c, M' c = .int .i64 (ahL (r.lines.take (k + 1)) c.data.toList) from ⟨_, hN6, fun c => by
          rw [HT.out]
          unfold updN ahS
          rw [ex, ey]
          by_cases hc : c = x
          · rw [if_pos hc, hc, if_pos rfl, ha]
          · rw [if_neg hc, if_neg (fun e => hc (bytes_eq e.symm)), hMc c]⟩)
        have HCo := hid (fun wx => isCode_any x wx hsz)
        have HQ := hid hq
        have HB := hid hb
        rw [ex] at d0
        rw [ey] at d1
        unfold lnF at HQ
        rw [ex, ey, ha] at HQ
        clear hcell hb hq hsz hcp ex ey ha bw n5 hN6 hg6 hM hMc HT
        by_cases t1 : tx x 40 = false
        · have HQy := hid (fun wx => isQty_any r.kind y wx)
          rw [if_pos t1, if_neg (by decide)] at HQ
          rw [t1] at HCo
          clear hput hget
          go_wp2_with (first | (go_at_call 39; refine (HCo.out _).mono ?_; rintro e w9 ⟨rfl, h9⟩; rw [h9]; clear h9) | (go_at_call 40; refine (HQy.out _).mono ?_; rintro e w9 ⟨rfl, h9⟩; rw [h9]; clear h9))
          go_ret2
          exact ⟨by rw [HQ.out]; first | done | rfl, BW.out.trans (B5.out.mono (by rw [ZW.out]; omega))⟩
        · have t1' : tx x 40 = true := by simpa using t1
          rw [if_neg t1] at HQ
          rw [t1'] at HCo
          by_cases k7 : r.kind = 7
          · rw [if_pos k7] at HQ
            rw [k7] at e1
            clear k7
            have hqt := fun wx => isQty_any 7 y wx
            rw [if_pos rfl] at hqt
            by_cases y0 : y = 0
            · have y0' : (y == 0) = true := by simpa using y0
              rw [y0', if_neg (show ¬ (true = false) by decide)] at HQ
              rw [y0'] at hqt
              have HQy := hid hqt
              clear y0 y0' hqt
              by_cases t3 : wrap64 (9223372036854775807 - a) < y
              · rw [if_pos t3, if_neg (by decide)] at HQ
                clear hput
                go_wp2_with (first | (go_at_call 39; refine (HCo.out _).mono ?_; rintro e w9 ⟨rfl, h9⟩; rw [h9]; clear h9) | (go_at_call 40; refine (HQy.out _).mono ?_; rintro e w9 ⟨rfl, h9⟩; rw [h9]; clear h9))
                go_ret2
                exact ⟨by rw [HQ.out]; first | done | rfl, BW.out.trans (B5.out.mono (by rw [ZW.out]; omega))⟩
              · rw [if_neg t3, if_pos rfl] at HQ
                go_wp2_with (first | (go_at_call 39; refine (HCo.out _).mono ?_; rintro e w9 ⟨rfl, h9⟩; rw [h9]; clear h9) | (go_at_call 40; refine (HQy.out _).mono ?_; rintro e w9 ⟨rfl, h9⟩; rw [h9]; clear h9))
                go_roundw
                case rel => exact ⟨k + 1, by omega, by go_num, HQ.out, N6.out, B6.out⟩
                case measure => simp [intOf]; omega
            · have y0' : (y == 0) = false := by simpa using y0
              rw [y0', if_pos rfl, if_neg (by decide)] at HQ
              rw [y0'] at hqt
              have HQy := hid hqt
              clear y0 y0' hqt
              clear hput hget
              go_wp2_with (first | (go_at_call 39; refine (HCo.out _).mono ?_; rintro e w9 ⟨rfl, h9⟩; rw [h9]; clear h9) | (go_at_call 40; refine (HQy.out _).mono ?_; rintro e w9 ⟨rfl, h9⟩; rw [h9]; clear h9))
              go_ret2
              exact ⟨by rw [HQ.out]; first | done | rfl, BW.out.trans (B5.out.mono (by rw [ZW.out]; omega))⟩
          · rw [if_neg k7] at HQ
            have hqt := fun wx => isQty_any r.kind y wx
            rw [if_neg k7] at hqt
            clear k7
            by_cases y1 : 1 ≤ y
            · rw [decide_eq_true y1, if_neg (show ¬ (true = false) by decide)] at HQ
              rw [decide_eq_true y1] at hqt
              have HQy := hid hqt
              clear y1 hqt
              by_cases t3 : wrap64 (9223372036854775807 - a) < y
              · rw [if_pos t3, if_neg (by decide)] at HQ
                clear hput
                go_wp2_with (first | (go_at_call 39; refine (HCo.out _).mono ?_; rintro e w9 ⟨rfl, h9⟩; rw [h9]; clear h9) | (go_at_call 40; refine (HQy.out _).mono ?_; rintro e w9 ⟨rfl, h9⟩; rw [h9]; clear h9))
                go_ret2
                exact ⟨by rw [HQ.out]; first | done | rfl, BW.out.trans (B5.out.mono (by rw [ZW.out]; omega))⟩
              · rw [if_neg t3, if_pos rfl] at HQ
                go_wp2_with (first | (go_at_call 39; refine (HCo.out _).mono ?_; rintro e w9 ⟨rfl, h9⟩; rw [h9]; clear h9) | (go_at_call 40; refine (HQy.out _).mono ?_; rintro e w9 ⟨rfl, h9⟩; rw [h9]; clear h9))
                go_roundw
                case rel => exact ⟨k + 1, by omega, by go_num, HQ.out, N6.out, B6.out⟩
                case measure => simp [intOf]; omega
            · rw [decide_eq_false y1, if_pos rfl, if_neg (by decide)] at HQ
              rw [decide_eq_false y1] at hqt
              have HQy := hid hqt
              clear y1 hqt
              clear hput hget
              go_wp2_with (first | (go_at_call 39; refine (HCo.out _).mono ?_; rintro e w9 ⟨rfl, h9⟩; rw [h9]; clear h9) | (go_at_call 40; refine (HQy.out _).mono ?_; rintro e w9 ⟨rfl, h9⟩; rw [h9]; clear h9))
              go_ret2
              exact ⟨by rw [HQ.out]; first | done | rfl, BW.out.trans (B5.out.mono (by rw [ZW.out]; omega))⟩
      · obtain rfl : k = r.lines.length := by omega
        rw [List.drop_length, lnE] at hq
        have HQ := hid hq
        clear hq
        go_wp2
        go_ret2
        exact ⟨by rw [HQ.out]; first | done | rfl, BW.out.trans (hb.mono (by rw [ZW.out]; omega))⟩
end Go.Proofs.YtebkagmlhmdckaaGreat
