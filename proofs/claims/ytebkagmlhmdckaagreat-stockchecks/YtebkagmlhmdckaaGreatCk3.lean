/-
  stock: Changes; the document's unused, Changes, ahead, lines.
-/
import Derived.Test.YtebkagmlhmdckaaGreatCk1
import Derived.Test.YtebkagmlhmdckaaGreatCk2
import Derived.Deep.RegionHeld3
namespace Go.Proofs.YtebkagmlhmdckaaGreat
open Go.RowKit
set_option maxRecDepth 100000
set_option linter.unusedSimpArgs false

theorem rChanges_any (k : Int) (w : World) : Calls Tryz.prog 12 #[.int .i64 k] w fun e w' => e = .returned (.bool (kC k)) ∧ w' = w := by
  unfold kC
  rcases (show k = 7 ∨ (k < 1 ∧ k ≠ 7) ∨ (8 < k ∧ k ≠ 7) ∨ (1 ≤ k ∧ k ≤ 8 ∧ k ≠ 7) by omega) with rfl | ⟨h1, h2⟩ | ⟨h1, h2⟩ | ⟨h1, h2, h3⟩
  all_goals
    go_enter Tryz.func12, Tryz.ntmps12
    go_wp2
    go_ret
    refine ⟨?_, rfl⟩
    refine congrArg _ (congrArg Value.bool ?_)
    first | rfl | (rw [Bool.eq_iff_iff]; simp; omega)
/-- the sum of the Qtys of a code, one behind the other -/
def ahS (k : List UInt8) (n : Int) (y : Ln) : Int := if y.1.data.toList = k then wrap64 (n + y.2) else n
def ahL (P : List Ln) (k : List UInt8) : Int := P.foldl (ahS k) 0
theorem ahL_snoc (P : List Ln) (y : Ln) (k : List UInt8) : ahL (P ++ [y]) k = ahS k (ahL P k) y := by simp [ahL]
/-- what is wrong with a line behind others -/
def lnF (kd : Int) (P : List Ln) (y : Ln) : Int :=
  if tx y.1 40 = false then 123 else if (if kd = 7 then (y.2 == 0) else decide (1 ≤ y.2)) = false then 124 else if wrap64 (9223372036854775807 - ahL P y.1.data.toList) < y.2 then 125 else 0
/-- the first fault of lines, from a place on -/
def lnE (kd : Int) : List Ln → List Ln → Int × Nat
  | _, [] => (0, 0)
  | P, y :: R => if lnF kd P y = 0 then lnE kd (P ++ [y]) R else (lnF kd P y, P.length)
/-- what lines answers -/
def lnA (kd : Int) (L : List Ln) : Int × Nat := if L.length < 1 ∨ 32 < L.length then (122, 0) else lnE kd [] L
theorem lnE_at (kd : Int) (L : List Ln) (k : Nat) (h : k < L.length) : lnE kd (L.take k) (L.drop k) = if lnF kd (L.take k) L[k] = 0 then lnE kd (L.take (k + 1)) (L.drop (k + 1)) else (lnF kd (L.take k) L[k], k) := by
  rw [List.drop_eq_getElem_cons h, lnE, ← List.take_succ_eq_append_getElem h, List.length_take, Nat.min_eq_left (by omega)]
set_option maxHeartbeats 2000000 in
theorem ahead_any (v : Value) (L : List Ln) (i : Nat) (w : World) (hR : RLn w v L) (hi : i < L.length) :
    Calls Tryz.prog 47 #[v, .int .i64 (i : Int)] w fun e w' => e = .returned (.int .i64 (ahL (L.take i) L[i].1.data.toList)) ∧ Below w.heap.size w w' := by
  rcases hR with ⟨rfl, _⟩ | ⟨b, off, cap, rfl, hcap, hcell⟩
  · simp at hi
  have HC := hid hcell
  have hiI : (i : Int) < (L.length : Int) := by omega
  have y0 := (hcell i hi).1
  clear hcell
  go_enter Tryz.func47, Tryz.ntmps47
  go_wp2_with fail
  go_loopw [5, 6] (fun n j wr => ∃ k : Nat, k ≤ i ∧ j = .int .i64 (k : Int) ∧ n = .int .i64 (ahL (L.take k) L[i].1.data.toList) ∧ Below w.heap.size w wr) (fun _ j _ => i - (intOf j).toNat)
  case atStart => exact ⟨0, by omega, rfl, by simp [ahL], Below.refl _ _⟩
  case round =>
    obtain ⟨k, hk, rfl, rfl, hb⟩ := hrel
    by_cases h : k < i
    · have hI : (k : Int) < (i : Int) := by omega
      have hkL : (k : Int) < (L.length : Int) := by omega
      have HT := hid (show ahL (L.take (k + 1)) L[i].1.data.toList = ahS L[i].1.data.toList (ahL (L.take k) L[i].1.data.toList) (L[k]'(by omega)) by rw [List.take_succ_eq_append_getElem (by omega), ahL_snoc])
      have x0 := fun q => below_cells (below_drewN hb q) _ _ (HC.out k (by omega)).1
      have x1 := fun q => below_cells (below_drewN hb q) _ _ (HC.out k (by omega)).2
      have yq := fun q => below_cells (below_drewN hb q) _ _ y0
      have HB := hid hb
      clear hb
      unfold ahS at HT
      generalize (L[k]'(by omega)).1 = x at *
      generalize (L[k]'(by omega)).2 = xq at *
      generalize (L[i]'hi).1 = y at *
      by_cases he : x.data.toList = y.data.toList
      · rw [if_pos he] at HT
        have he' : (x.toList == y.toList) = true := by rw [ByteArray.toList_eq, ByteArray.toList_eq, he]; simp
        go_wp2_with fail
        go_quiet (fail)
        have B2 := hid (below_drewN HB.out nq)
        go_wp2_with fail
        go_roundw
        case rel => exact ⟨k + 1, by omega, by go_num, by rw [HT.out], B2.out⟩
        case measure => simp [intOf]; omega
      · rw [if_neg he] at HT
        have he' : (x.toList == y.toList) = false := by rw [ByteArray.toList_eq, ByteArray.toList_eq]; simpa using he
        go_wp2_with fail
        go_quiet (fail)
        have B2 := hid (below_drewN HB.out nq)
        go_wp2_with fail
        go_roundw
        case rel => exact ⟨k + 1, by omega, by go_num, by rw [HT.out], B2.out⟩
        case measure => simp [intOf]; omega
    · obtain rfl : k = i := by omega
      go_wp2
      go_ret
      exact ⟨rfl, hb⟩
set_option maxHeartbeats 8000000 in
theorem rlinesF_any (r : Rq) (ao : Option Addr) (cap : Nat) (w : World) (hR : RLn w (.slice ao r.lines.length cap) r.lines) (hS : ∀ y ∈ r.lines, y.1.size ≤ 9223372036854775807) :
    Calls Tryz.prog 21 #[rqV r ao cap] w fun e w' => e = .returned (.tuple #[.int .i64 (lnA r.kind r.lines).1, .int .i64 ((lnA r.kind r.lines).2 : Nat)]) ∧ Below w.heap.size w w' := by
  unfold rqV
  obtain ⟨W, hW⟩ : ∃ W, w.alloc (.cells #[.string r.id, .int .i64 r.kind, .slice ao r.lines.length cap, .string r.hold, .int .i64 r.ttl, .int .i64 r.now] 24) = W := ⟨_, rfl⟩
  have HRW : W.heap[w.heap.size]? = some (.cells #[.string r.id, .int .i64 r.kind, .slice ao r.lines.length cap, .string r.hold, .int .i64 r.ttl, .int .i64 r.now] 24 (0, 0)) := by rw [← hW]; exact heap_alloc_new w _
  have BW := hid (show Below w.heap.size w W by rw [← hW]; exact (Below.refl _ _).alloc (Nat.le_refl _) _)
  have zW : W.heap.size = w.heap.size + 1 := by rw [← hW, World.size_alloc]
  have c1 : W.cell? ⟨w.heap.size, 1, none⟩ = some (.int .i64 r.kind) := by rw [Lib.cell_of_heap HRW]; rfl
  have c2 : W.cell? ⟨w.heap.size, 2, none⟩ = some (.slice ao r.lines.length cap) := by rw [Lib.cell_of_heap HRW]; rfl
  have HL := hid (hR.below BW.out)
  have HS := hid hS
  have HW := hid hW
  have hlen := hR.len
  clear hR HRW hS hW
  have C := hid (And.intro c1 c2)
  by_cases h0 : r.lines.length < 1 ∨ 32 < r.lines.length
  · have ha : lnA r.kind r.lines = (122, 0) := if_pos h0
    rw [ha]
    rcases h0 with h0 | h0
    · have h0' : (r.lines.length : Int) < 1 := by omega
      go_enter Tryz.func21, Tryz.ntmps21
      go_wp2_with fail
      try rw [HW.out]
      go_wp2
      go_ret2
      exact ⟨rfl, BW.out⟩
    · have h0' : ¬ (r.lines.length : Int) < 1 := by omega
      have h1' : (32 : Int) < (r.lines.length : Int) := by omega
      go_enter Tryz.func21, Tryz.ntmps21
      go_wp2_with fail
      try rw [HW.out]
      go_wp2
      go_ret2
      exact ⟨rfl, BW.out⟩
  · have ha : lnA r.kind r.lines = lnE r.kind [] r.lines := if_neg h0
    have HA := hid ha
    have h0' : ¬ (r.lines.length : Int) < 1 := by omega
    have h1' : ¬ (32 : Int) < (r.lines.length : Int) := by omega
    clear ha
    go_enter Tryz.func21, Tryz.ntmps21
    go_wp2_with fail
    try rw [HW.out]
    go_wp2_with fail
    clear c1 c2
    go_loopw [4] (fun i wr => ∃ k : Nat, k ≤ r.lines.length ∧ i = .int .i64 (k : Int) ∧ lnA r.kind r.lines = lnE r.kind (r.lines.take k) (r.lines.drop k) ∧ Below W.heap.size W wr) (fun i _ => r.lines.length - (intOf i).toNat)
    case atStart => exact ⟨0, by omega, rfl, by simpa using HA.out, Below.refl _ _⟩
    case round =>
      obtain ⟨k, hk, rfl, hq, hb⟩ := hrel
      have c1 := below_cells hb _ _ C.out.1
      have c2 := below_cells hb _ _ C.out.2
      by_cases h : k < r.lines.length
      · have hI : (k : Int) < (r.lines.length : Int) := by omega
        rw [lnE_at r.kind r.lines k h] at hq
        have HAh := hid (fun (wx : World) (hx : Below wr.heap.size wr wx) => ahead_any _ r.lines k wx ((HL.out.below hb).below hx) h)
        have hsz := HS.out _ (List.getElem_mem h)
        rcases HL.out with ⟨e0, _⟩ | ⟨b, off, cp, hv, hcp, hcell⟩
        · rw [e0] at h; simp at h
        cases hv
        have d0 := below_cells hb _ _ (hcell k h).1
        have d1 := below_cells hb _ _ (hcell k h).2
        have HCo := hid (fun wx => rCode_any (r.lines[k]'h).1 wx hsz)
        have HQ := hid hq
        have HB := hid hb
        have hz := hb.size
        have hxx : ∃ x y : _, (r.lines[k]'h).1 = x ∧ (r.lines[k]'h).2 = y := ⟨_, _, rfl, rfl⟩
        obtain ⟨x, y, ex, ey⟩ := hxx
        have EX := hid ex
        have EY := hid ey
        rw [ex] at d0 HCo HAh
        rw [ey] at d1
        clear hcell hb hq hsz hcp ex ey
        unfold lnF at HQ
        rw [EX.out, EY.out] at HQ
        by_cases t1 : tx x 40 = false
        · rw [if_pos t1, if_neg (by decide)] at HQ
          rw [t1] at HCo
          go_wp2_with (first | (go_at_call 46; refine (HCo.out _).mono ?_; rintro e w9 ⟨rfl, h9⟩; rw [h9]; clear h9))
          go_ret2
          exact ⟨by rw [HQ.out]; first | done | rfl, BW.out.trans (HB.out.mono (by omega))⟩
        · have t1' : tx x 40 = true := by simpa using t1
          rw [if_neg t1] at HQ
          rw [t1'] at HCo
          by_cases k7 : r.kind = 7
          · rw [if_pos k7] at HQ
            rw [k7] at c1
            clear k7
            by_cases y0 : y = 0
            · have y0' : (y == 0) = true := by simpa using y0
              rw [y0', if_neg (show ¬ (true = false) by decide)] at HQ
              generalize ahL (r.lines.take k) x.data.toList = a at *
              by_cases t3 : wrap64 (9223372036854775807 - a) < y
              · rw [if_pos t3, if_neg (by decide)] at HQ
                go_wp2_with (first | (go_at_call 46; refine (HCo.out _).mono ?_; rintro e w9 ⟨rfl, h9⟩; rw [h9]; clear h9) | (go_at_call 47; refine (HAh.out _ (Below.refl _ _)).mono ?_; rintro e w8 ⟨rfl, hb8⟩))
                have B8 := hid (HB.out.trans (hb8.mono hz))
                clear hb8
                go_wp2
                go_ret2
                exact ⟨by rw [HQ.out]; first | done | rfl, BW.out.trans (B8.out.mono (by omega))⟩
              · rw [if_neg t3, if_pos rfl] at HQ
                go_wp2_with (first | (go_at_call 46; refine (HCo.out _).mono ?_; rintro e w9 ⟨rfl, h9⟩; rw [h9]; clear h9) | (go_at_call 47; refine (HAh.out _ (Below.refl _ _)).mono ?_; rintro e w8 ⟨rfl, hb8⟩))
                have B8 := hid (HB.out.trans (hb8.mono hz))
                clear hb8
                go_wp2_with fail
                go_roundw
                case rel => exact ⟨k + 1, by omega, by go_num, HQ.out, B8.out⟩
                case measure => simp [intOf]; omega
            · have y0' : (y == 0) = false := by simpa using y0
              rw [y0', if_pos rfl, if_neg (by decide)] at HQ
              go_wp2_with (first | (go_at_call 46; refine (HCo.out _).mono ?_; rintro e w9 ⟨rfl, h9⟩; rw [h9]; clear h9) | (go_at_call 47; refine (HAh.out _ (Below.refl _ _)).mono ?_; rintro e w8 ⟨rfl, hb8⟩))
              go_ret2
              exact ⟨by rw [HQ.out]; first | done | rfl, BW.out.trans (HB.out.mono (by omega))⟩
          · rw [if_neg k7] at HQ
            by_cases y1 : 1 ≤ y
            · have y1' : ¬ y < 1 := by omega
              rw [decide_eq_true y1, if_neg (show ¬ (true = false) by decide)] at HQ
              generalize ahL (r.lines.take k) x.data.toList = a at *
              by_cases t3 : wrap64 (9223372036854775807 - a) < y
              · rw [if_pos t3, if_neg (by decide)] at HQ
                go_wp2_with (first | (go_at_call 46; refine (HCo.out _).mono ?_; rintro e w9 ⟨rfl, h9⟩; rw [h9]; clear h9) | (go_at_call 47; refine (HAh.out _ (Below.refl _ _)).mono ?_; rintro e w8 ⟨rfl, hb8⟩))
                have B8 := hid (HB.out.trans (hb8.mono hz))
                clear hb8
                go_wp2
                go_ret2
                exact ⟨by rw [HQ.out]; first | done | rfl, BW.out.trans (B8.out.mono (by omega))⟩
              · rw [if_neg t3, if_pos rfl] at HQ
                go_wp2_with (first | (go_at_call 46; refine (HCo.out _).mono ?_; rintro e w9 ⟨rfl, h9⟩; rw [h9]; clear h9) | (go_at_call 47; refine (HAh.out _ (Below.refl _ _)).mono ?_; rintro e w8 ⟨rfl, hb8⟩))
                have B8 := hid (HB.out.trans (hb8.mono hz))
                clear hb8
                go_wp2_with fail
                go_roundw
                case rel => exact ⟨k + 1, by omega, by go_num, HQ.out, B8.out⟩
                case measure => simp [intOf]; omega
            · have y1' : y < 1 := by omega
              rw [decide_eq_false y1, if_pos rfl, if_neg (by decide)] at HQ
              go_wp2_with (first | (go_at_call 46; refine (HCo.out _).mono ?_; rintro e w9 ⟨rfl, h9⟩; rw [h9]; clear h9) | (go_at_call 47; refine (HAh.out _ (Below.refl _ _)).mono ?_; rintro e w8 ⟨rfl, hb8⟩))
              go_ret2
              exact ⟨by rw [HQ.out]; first | done | rfl, BW.out.trans (HB.out.mono (by omega))⟩
      · obtain rfl : k = r.lines.length := by omega
        rw [List.drop_length, lnE] at hq
        have HQ := hid hq
        clear hq
        go_wp2
        go_ret2
        exact ⟨by rw [HQ.out]; rfl, BW.out.trans (hb.mono (by omega))⟩
end Go.Proofs.YtebkagmlhmdckaaGreat
