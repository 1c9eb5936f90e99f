/-
  The law's own days: days with numbers of one parity, rising.
-/
import Derived.Test.YtipgmiblphfboaaDoorSh2
import Derived.Test.YtipgmiblphfboaaDoorCwd
import Derived.Deep.WholeRow
namespace Go.Proofs.YtipgmiblphfboaaDoor
open Go.RowKit
set_option maxRecDepth 100000

/-- a day of a number -/
def dT (n : Int) : Int × Int × Int := (dY n, dM n, dD n)
/-- 2000 bools in a block -/
def BR (w : World) (b : Nat) (f : Nat → Bool) : Prop := ∃ row : Array Value, w.heap[b]? = some (.cells row 57 (0, 0)) ∧ row.size = 2000 ∧ ∀ j, j < 2000 → row[j]? = some (.bool (f j))
theorem BR.lt {w : World} {b : Nat} {f : Nat → Bool} (h : BR w b f) : b < w.heap.size := by
  obtain ⟨row, h1, _⟩ := h
  exact (Array.getElem?_eq_some_iff.1 h1).1
theorem BR.belowAt {w w' : World} {b B : Nat} {f : Nat → Bool} (h : BR w b f) (hb : Below B w w') (hB : b < B) : BR w' b f := by
  obtain ⟨row, h1, h2⟩ := h
  exact ⟨row, (hb.block b hB).trans h1, h2⟩
theorem BR.cell {w : World} {b : Nat} {f : Nat → Bool} (h : BR w b f) (j : Nat) (hj : j < 2000) : w.cell? ⟨b, j, none⟩ = some (.bool (f j)) ∧ w.frozen? ⟨b, j, none⟩ = false := by
  obtain ⟨row, h1, h2, h3⟩ := h
  exact ⟨by rw [Lib.cell_of_heap h1]; exact h3 j hj, Lib.frozen_of_heap h1 j⟩
theorem BR.set {w : World} {b : Nat} {f : Nat → Bool} (h : BR w b f) (i : Nat) : BR (w.setCell ⟨b, i, none⟩ (.bool true)) b (fun j => if j = i then true else f j) := by
  obtain ⟨row, h1, h2, h3⟩ := h
  refine ⟨_, Lib.heap_setCell_same h1 _, by simpa using h2, fun j hj => ?_⟩
  rw [Array.getElem?_setIfInBounds]
  by_cases e : i = j
  · subst e; simp [h2, hj]
  · have e2 : ¬ j = i := fun h => e h.symm
    rw [if_neg e, h3 j hj]
    simp [e2]
theorem brinfo : (Tryd.prog.info? 57).map (fun i => (i.zero, i.size)) = some (some (.agg (Array.replicate 2000 (.bool false))), 2000) := by kernel_rfl
theorem BR.new (w : World) : BR (w.alloc (.cells (Array.replicate 2000 (.bool false)) 57)) w.heap.size (fun _ => false) := ⟨_, heap_alloc_new _ _, by simp, fun j hj => by simp [hj]⟩

theorem rl_oneD (w : World) (y m d : Int) : RL eD 3 (w.alloc (.cells #[.int .i64 y, .int .i64 m, .int .i64 d] 33)) (.slice (some ⟨w.heap.size, 0, none⟩) 1 1) [(y, m, d)] := by
  refine ⟨_, 1, rfl, Nat.le_refl _, fun e => (by cases e), fun i hi => ⟨w.heap.size, 0, rfl, fun j u hj => ?_⟩⟩
  have : i = 0 := by simpa using hi
  subst this
  match j, hj with
  | 0, hj => simp [eD] at hj; subst hj; simp
  | 1, hj => simp [eD] at hj; subst hj; simp
  | 2, hj => simp [eD] at hj; subst hj; simp
  | j + 3, hj => simp [eD] at hj

set_option maxHeartbeats 2000000 in
theorem lawdays_any (L : List Int) (v : Value) (odd : Int) (ho : odd = 0 ∨ odd = 1) (w : World) (hr : RL eI 1 w v L) (hLl : L.length ≤ 9223372036854775806) (hL : ∀ x ∈ L, -9223372036854775808 ≤ x ∧ x ≤ 9223372036854775807) (hA : HasAh w) :
    Calls Tryd.prog 13 #[v, .int .i64 odd] w fun e w' => (∃ v' : Value, ∃ Q : List Int, e = .returned v' ∧ OL eD 3 33 w' w.heap.size v' (Q.map dT) ∧ Q.length ≤ 1000 ∧ Q.Pairwise (· < ·) ∧ ∀ n ∈ Q, 730000 ≤ n ∧ n < 732000 ∧ n % 2 = odd) ∧ Below w.heap.size w w' := by
  have HR := hid hr
  have HA := hid hA
  have HL := hid hL
  have HG : 1 < w.heap.size := hA.lt
  obtain ⟨ao, c, rfl⟩ := hr.len0
  have hz0 := (zero_of_info brinfo).1
  have HBR := hid (BR.new w)
  have HB0 := hid (alloc_below w (.cells (Array.replicate 2000 (.bool false)) 57))
  have hzw : (w.alloc (.cells (Array.replicate 2000 (.bool false)) 57)).heap.size = w.heap.size + 1 := by simp
  clear hr hA hL
  go_enter Tryd.func13, Tryd.ntmps13
  go_wp2
  generalize w.alloc (.cells (Array.replicate 2000 (.bool false)) 57) = w0 at *
  go_loopg [6] L.length (fun m s6 wr => ∃ (k : Nat) (f : Nat → Bool), k ≤ L.length ∧ L.length - k ≤ m ∧ s6 = .int .i64 (k : Int) ∧ Hid (BR wr w.heap.size f) ∧ Hid (∀ j : Nat, f j = true → (j : Int) % 2 = odd) ∧ Hid (Below w.heap.size w wr))
  case atStart => exact ⟨0, _, Nat.zero_le _, Nat.le_refl _, rfl, HBR, hid (fun j h => by simp at h), HB0⟩
  case round =>
    obtain ⟨k, f, hk, hm, rfl, HF, HP, HB⟩ := hrel
    clear HBR HB0 hzw hz0
    by_cases hlt : k < L.length
    · have hlt' : (k : Int) < (L.length : Int) := by omega
      obtain ⟨ao', c', hv, _, _, hq⟩ := HR.out
      cases hv
      obtain ⟨g, off, ha, hqq⟩ := hq k hlt
      subst ha
      have q0 : wr.cell? ⟨g, off + k, none⟩ = some (.int .i64 L[k]) := below_cells HB.out _ _ (by have := hqq 0 (.int .i64 L[k]) rfl; simpa using this)
      have HW := hid (fun w => within_any L[k] 0 999 (HL.out _ (List.getElem_mem hlt)) (by omega) (by omega) (by omega) w)
      have hin := wi_in L[k] 0 999 (by omega)
      generalize wi L[k] 0 999 = z at *
      generalize L[k] = lk at *
      obtain ⟨q, hqz⟩ : ∃ q : Nat, z * 2 + odd = (q : Int) := ⟨(z * 2 + odd).toNat, by omega⟩
      have hq2 : q < 2000 := by omega
      have hqn : (z * 2 + odd).toNat = q := by omega
      obtain ⟨fc, ff⟩ := HF.out.cell q hq2
      clear hq hqq
      go_wp2_with fail
      refine (HW.out _).mono ?_
      rintro e w1 ⟨rfl, rfl⟩
      go_wp2
      go_roundg (gk - 1)
      case measure => omega
      case rel => exact ⟨k + 1, _, by omega, by omega, by first | rfl | go_num, hid (HF.out.set q), hid (fun j h => by
        by_cases e : j = q
        · subst e; omega
        · exact HP.out j (by simpa [e] using h)), hid (HB.out.setCell (Nat.le_refl _) _)⟩
    · have hlt' : ¬ (k : Int) < (L.length : Int) := by omega
      go_wp2
      go_loopg [7, 8] 2000 (fun m s7 s8 wr => ∃ (i : Nat) (Q : List Int), i ≤ 2000 ∧ 2000 - i ≤ m ∧ s8 = .int .i64 (i : Int) ∧ Hid (OL eD 3 33 wr (w.heap.size + 1) s7 (Q.map dT)) ∧ Hid (BR wr w.heap.size f) ∧ Hid (Below w.heap.size w wr) ∧ Q.length ≤ 1000 ∧ Hid (Q.Pairwise (· < ·)) ∧ Hid (∀ n ∈ Q, 730000 ≤ n ∧ n < 730000 + (i : Int) ∧ n % 2 = odd))
      case atStart => exact ⟨0, [], by omega, by omega, rfl, hid (OL.nil _ _), HF, HB, by simp, hid (by simp), hid (by simp)⟩
      case round =>
        obtain ⟨i, Q, hi, hm2, rfl, HO, HF2, HB2, hQ, HU, HQ⟩ := hrel
        clear HF HB hm hk hlt hlt' HR HL
        obtain ⟨ao2, c2, rfl⟩ := (OL.reads eD_len HO.out).len0
        simp only [List.length_map] at *
        by_cases hi2 : i < 2000
        · have hi2' : (i : Int) < 2000 := by omega
          by_cases hQ2 : Q.length < 1000
          · have hQ2' : (Q.length : Int) < 1000 := by omega
            obtain ⟨fc, _⟩ := HF2.out.cell i hi2
            by_cases hfi : f i = true
            · rw [hfi] at fc
              have HT := hid (fun w h => at_any (730000 + (i : Int)) (by omega) w h)
              rw [wi_self _ _ (by omega) (by omega)] at HT
              have HPi := hid (HP.out i hfi)
              generalize hyD : dY (730000 + (i : Int)) = y at *
              generalize hmD : dM (730000 + (i : Int)) = m at *
              generalize hdD : dD (730000 + (i : Int)) = d at *
              have HDT := hid (show dT (730000 + (i : Int)) = (y, m, d) by unfold dT; rw [hyD, hmD, hdD])
              unfold dV at HT
              clear hyD hmD hdD
              go_wp2_with fail
              refine (HT.out _ (HA.out.below HB2.out)).mono ?_
              rintro e w3 ⟨rfl, hb3⟩
              obtain ⟨w4, hw4⟩ : ∃ w4, w3.alloc (.cells #[.int .i64 y, .int .i64 m, .int .i64 d] 33) = w4 := ⟨_, rfl⟩
              have b4 : Below w3.heap.size w3 w4 := by rw [← hw4]; exact alloc_below _ _
              have hb4 := hb3.trans (b4.mono hb3.size)
              have hX4 : Box w4 w3.heap.size y m d := by rw [← hw4]; exact Box.new _ _ _ _
              obtain ⟨d0, d1, d2, _⟩ := hX4.facts
              have hb5 := hb4.alloc hb4.size (.cells #[.int .i64 y, .int .i64 m, .int .i64 d] 33)
              have HO5 := hid (OL.below HO.out hb5)
              have HF5 := hid (HF2.out.belowAt hb5 HF2.out.lt)
              have HB5 := hid (HB2.out.trans (hb5.mono HB2.out.size))
              clear hb3 b4 hb4 hb5 hX4 HT fc HB2 HF2 HO
              have hlt5 : w.heap.size < (w4.alloc (.cells #[.int .i64 y, .int .i64 m, .int .i64 d] 33)).heap.size := HF5.out.lt
              go_wp2_with (at_builtin; refine wpList_appL (enc := eD) dateinfo Tryd.underlying24 rfl (by omega) eD_len eD_one rfl _ _ rfl (w.heap.size + 1) _ (Q.map dT) (by first | rfl | simp) HO5.out _ [(y, m, d)] rfl (rl_oneD _ _ _ _) ?hlen ?hl2 (by omega) ?hnext)
              case hlen => simp; omega
              case hl2 => simp [maxLen]; omega
              case hnext =>
                intro v2 w6 ho6 hg6
                have HO6 := hid (show OL eD 3 33 w6 (w.heap.size + 1) v2 ((Q ++ [730000 + (i : Int)]).map dT) by rw [List.map_append, List.map_cons, List.map_nil, HDT.out]; exact ho6)
                have hge := fun b hb => (HO5.out.block_ge b hb).1
                have HF6 := hid (show BR w6 w.heap.size f by
                  obtain ⟨row, r1, r2⟩ := HF5.out
                  exact ⟨row, (hg6.block _ HF5.out.lt (fun e => by have := hge _ e.symm; omega)).trans r1, r2⟩)
                have HB6 := hid (HB5.out.grown hg6 HB5.out.size (fun b hb => by have := hge b hb; omega))
                clear ho6 hg6 hge
                go_wp2
                go_roundg (gk - 1)
                case measure => omega
                case rel => exact ⟨i + 1, Q ++ [730000 + (i : Int)], by omega, by omega, by first | rfl | go_num, HO6, HF6, HB6, by simp; omega, hid (by
                  rw [List.pairwise_append]
                  exact ⟨HU.out, by simp, fun a ha b hb => by
                    have h1 := HQ.out a ha
                    obtain rfl : b = 730000 + (i : Int) := by simpa using hb
                    omega⟩), hid (fun n h => by
                  rcases List.mem_append.1 h with h | h
                  · have := HQ.out n h; omega
                  · obtain rfl : n = 730000 + (i : Int) := by simpa using h
                    have := HPi.out
                    omega)⟩
            · have hfi2 : f i = false := by simpa using hfi
              rw [hfi2] at fc
              go_wp2
              go_roundg (gk - 1)
              case measure => omega
              case rel => exact ⟨i + 1, Q, by omega, by omega, by first | rfl | go_num, by simpa using HO, HF2, HB2, hQ, HU, hid (fun n h => by have := HQ.out n h; omega)⟩
          · have hQ2' : ¬ (Q.length : Int) < 1000 := by omega
            go_wp2
            go_ret
            exact ⟨⟨_, rfl, Q, by simpa using OL.mono (base' := w.heap.size) HO.out (by omega), hQ, HU.out, fun n h => by have := HQ.out n h; omega⟩, HB2.out⟩
        · have hi2' : ¬ (i : Int) < 2000 := by omega
          go_wp2
          go_ret
          exact ⟨⟨_, rfl, Q, by simpa using OL.mono (base' := w.heap.size) HO.out (by omega), hQ, HU.out, fun n h => by have := HQ.out n h; omega⟩, HB2.out⟩
end Go.Proofs.YtipgmiblphfboaaDoor
