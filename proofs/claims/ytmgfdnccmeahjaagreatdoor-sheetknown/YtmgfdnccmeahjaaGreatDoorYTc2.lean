/-
  Tc2: Sheets: checkColumns.
-/
import Derived.Test.YtmgfdnccmeahjaaGreatDoorYN
import Derived.Test.YtmgfdnccmeahjaaGreatDoorYJ
namespace Go.Proofs.YtmgfdnccmeahjaaGreatDoor
open Go.RowKit
set_option maxRecDepth 100000
set_option linter.unusedVariables false
set_option linter.unusedSimpArgs false

/-- the i-th column may be there -/
def goodC (L : List Col) (i : Nat) : Prop := ∃ h : i < L.length, i ≠ 64 ∧ mbB L[i] = true ∧ L[i].nm ∉ (L.take i).map Col.nm
/-- the first column that is wrong -/
def colP (L : List Col) (r : Option Nat) : Prop := (r = none ∧ L ≠ [] ∧ ∀ i, i < L.length → goodC L i) ∨ (r = some 0 ∧ L = []) ∨ (∃ i, r = some i ∧ i < L.length ∧ ¬ goodC L i ∧ ∀ j, j < i → goodC L j)
theorem colP.nil {r : Option Nat} (h : colP [] r) : r = some 0 := by
  rcases h with ⟨_, h, _⟩ | ⟨h, _⟩ | ⟨i, _, h, _⟩
  · exact absurd rfl h
  · exact h
  · simp at h
theorem colP.bad {L : List Col} {r : Option Nat} (h : colP L r) {k : Nat} (hk : k < L.length) (hb : ¬ goodC L k) (ha : ∀ j, j < k → goodC L j) : r = some k := by
  rcases h with ⟨_, _, h⟩ | ⟨_, h⟩ | ⟨i, rfl, hi, hn, hall⟩
  · exact absurd (h k hk) hb
  · subst h; simp at hk
  · by_cases e : i = k
    · rw [e]
    · by_cases hlt : i < k
      · exact absurd (ha i hlt) hn
      · exact absurd (hall k (by omega)) hb
theorem colP.good {L : List Col} {r : Option Nat} (h : colP L r) (h0 : L ≠ []) (ha : ∀ j, j < L.length → goodC L j) : r = none := by
  rcases h with ⟨h, _⟩ | ⟨_, h⟩ | ⟨i, rfl, hi, hn, hall⟩
  · exact h
  · exact absurd h h0
  · exact absurd (ha i hi) hn
/-- an error that is a Fault of line l, column c with the code k -/
def ErF (A : Nat → Addr) (l c : Int) (k : Nat) (w w' : World) (ev : Value) : Prop := ∃ q, ev = .iface 38 (.pointer (some ⟨q, 0, none⟩)) ∧ w.heap.size ≤ q ∧ w'.heap[q]? = some (.cells #[.int .i64 l, .int .i64 c, erV A k] 42 (0, 0))
def CkP (A : Nat → Addr) (r : Option Nat) (w w' : World) (e : Ending) : Prop := (r = none ∧ e = .returned .nilIface) ∨ ∃ (i : Nat) (ev : Value), r = some i ∧ e = .returned ev ∧ ErF A 0 i 10 w w' ev
set_option maxHeartbeats 20000000 in
theorem checkColumns_any (A : Nat → Addr) (v : Value) (L : List Col) (r : Option Nat) (w : World) (hr : RC w v L) (hc : colP L r) (hA : Sn A w) :
    Calls Tryz.prog 32 #[v] w fun e w' => CkP A r w w' e ∧ Below w.heap.size w w' := by
  have HR := hid hr
  have HC := hid hc
  have HA := hid hA
  have hlt : 1 < w.heap.size := World.block_lt_of_cell? _ _ (hA.cellAt (c := 10) (by decide) (by decide))
  obtain ⟨ao, cap, rfl, hcap⟩ := hr.form
  clear hr hc
  by_cases h0 : L = []
  · subst h0
    have HN := hid HC.out.nil
    have hc10 := hA.cellAt (c := 10) (by decide) (by decide)
    rw [show gV 10 = 1 from rfl, erV_pos A (by decide)] at hc10
    clear hA
    go_enter Tryz.func32, Tryz.ntmps32
    go_wp2
    go_ret
    refine ⟨.inr ⟨0, _, HN.out, rfl, w.heap.size, rfl, Nat.le_refl _, ?_⟩, (Below.refl _ _).alloc (Nat.le_refl _) _⟩
    rw [erV_pos A (by decide)]
    exact heap_alloc_new w _
  · have hlen : L.length ≠ 0 := fun e => h0 (List.eq_nil_of_length_eq_zero e)
    have hlenI : ((L.length : Int) == 0) = false := beq_eq_false_iff_ne.2 (by omega)
    clear hA
    have H0 := hid h0
    clear h0
    go_enter Tryz.func32, Tryz.ntmps32
    go_wp2_with fail
    go_loopw [14] (fun i wr => ∃ k : Nat, k ≤ L.length ∧ i = .int .i64 k ∧ Hid (∀ j, j < k → goodC L j) ∧ Hid (Below w.heap.size w wr)) (fun i _ => L.length - (intOf i).toNat)
    case atStart => exact ⟨0, by omega, rfl, hid fun j h => absurd h (Nat.not_lt_zero _), hid (Below.refl _ _)⟩
    case round =>
      obtain ⟨k, hk, rfl, HO, HB⟩ := hrel
      by_cases h : k < L.length
      · have hI : (k : Int) < (L.length : Int) := by omega
        obtain ⟨b, off, cap', hv, c0, c1, c2⟩ := (HR.out.below HB.out).at k h
        cases hv
        have HOk := hid (show goodC L k ↔ (k ≠ 64 ∧ mbB L[k] = true ∧ L[k].nm ∉ (L.take k).map Col.nm) from ⟨fun ⟨_, h⟩ => h, fun hh => ⟨h, hh⟩⟩)
        generalize L[k] = C at *
        obtain ⟨nm, kd, mu⟩ := C
        obtain ⟨W, hW⟩ : ∃ W, wr.alloc (.cells #[.string nm, .int .i64 kd, .bool mu] 31) = W := ⟨_, rfl⟩
        have BW := hid (show Below wr.heap.size wr W by rw [← hW]; exact (Below.refl _ _).alloc (Nat.le_refl _) _)
        have RW := hid (show W.heap[wr.heap.size]? = some (.cells #[.string nm, .int .i64 kd, .bool mu] 31 (0, 0)) by rw [← hW]; exact heap_alloc_new wr _)
        have x0 : W.drew.cell? ⟨wr.heap.size, 0, none⟩ = some (.string nm) := Lib.cell_of_heap RW.out 0
        have x1 : W.drew.cell? ⟨wr.heap.size, 1, none⟩ = some (.int .i64 kd) := Lib.cell_of_heap RW.out 1
        have x2 : W.drew.cell? ⟨wr.heap.size, 2, none⟩ = some (.bool mu) := Lib.cell_of_heap RW.out 2
        have HBW := hid (HB.out.trans (BW.out.mono HB.out.size)).drew
        have HX0 := hid x0
        have HC10 := hid (show ∀ Wx, Below w.heap.size w Wx → Wx.cell? ⟨1, 0, none⟩ = some (.iface 312 (.pointer (some (A 10)))) from fun Wx hb => by
          have := (HA.out.below hb).cellAt (c := 10) (by decide) (by decide)
          rw [show gV 10 = 1 from rfl, erV_pos A (by decide)] at this
          exact this)
        by_cases h64 : k = 64
        · have HBad := hid (HC.out.bad h (fun e => (HOk.out.1 e).1 h64) HO.out)
          have h64I : ((k : Int) == 64) = true := by rw [h64]; rfl
          clear h64
          go_upto_region 6 with fail
          first
            | go_region_with (fail)
            | fail
          all_goals
            have HBX := HBW
            have g10 := HC10.out _ HBX.out
            go_wp2_with fail
            go_ret
            refine ⟨.inr ⟨k, _, HBad.out, rfl, _, rfl, ?_, ?_⟩, ?_⟩
            · exact Nat.le_trans HBX.out.size (by simp [go_sem])
            · rw [erV_pos A (by decide)]
              exact heap_alloc_new _ _
            · exact HBX.out.alloc HBX.out.size _
        · have h64I : ((k : Int) == 64) = false := beq_eq_false_iff_ne.2 (by omega)
          have hk64 : k < 64 := by
            by_cases e : 64 < k
            · obtain ⟨_, h, _⟩ := HO.out 64 e
              exact absurd rfl h
            · omega
          obtain ⟨bm, hbm⟩ : ∃ bm, mbB ⟨nm, kd, mu⟩ = bm := ⟨_, rfl⟩
          have HM := hid (mayBe_any A nm kd mu W.drew (HA.out.below HBW.out))
          rw [hbm] at HM HOk
          clear hbm
          cases bm with
          | false =>
            have HBad := hid (HC.out.bad h (fun e => Bool.noConfusion (HOk.out.1 e).2.1) HO.out)
            clear h64
            go_upto_region 6 with fail
            first
              | go_region_with (go_at_call 78; refine HM.out.mono ?_; rintro e w5 ⟨rfl, b5⟩; have HBX := hid (HBW.out.trans (b5.mono HBW.out.size)); clear b5)
              | fail
            all_goals
              have g10 := HC10.out _ HBX.out
              go_wp2_with fail
              go_ret
              refine ⟨.inr ⟨k, _, HBad.out, rfl, _, rfl, ?_, ?_⟩, ?_⟩
              · exact Nat.le_trans HBX.out.size (by simp [go_sem])
              · rw [erV_pos A (by decide)]
                exact heap_alloc_new _ _
              · exact HBX.out.alloc HBX.out.size _
          | true =>
            have HNs := hid (fun Wx (hb : Below w.heap.size w Wx) => names_any _ (L.take k) Wx ((HR.out.below hb).take k (by omega)) (by rw [List.length_take]; omega))
            have HNe := hid h64
            clear h64
            have hkc : (k : Int) ≤ (cap : Int) := by omega
            go_upto_region 6 with fail
            go_region_with (first
                  | (go_at_call 78; refine HM.out.mono ?_; rintro e w5 ⟨rfl, b5⟩; have HB5 := hid (HBW.out.trans (b5.mono HBW.out.size)); have y5 := cellB b5 HX0.out; have HY5 := hid y5; clear b5)
                  | (go_at_call 46; refine (HNs.out _ HB5.out).mono ?_; rintro e w6 ⟨⟨v6, rfl, o6⟩, b6⟩; have HBX := hid (HB5.out.trans (b6.mono HB5.out.size)); have HO6 := hid o6.reads; have y6 := cellB b6 HY5.out; clear o6 b6)
                  | (go_at_call 79; refine (scontains_any _ _ _ _ HO6.out).mono ?_; rintro e w7 ⟨⟨b7, rfl, hb7⟩, hw⟩; replace hw := hw.symm; subst hw; have HCn := hid hb7; clear hb7))
            all_goals
              clear x0 x1 x2
              cases b7 with
              | true =>
                have HBad := hid (HC.out.bad h (fun e => (HOk.out.1 e).2.2 (HCn.out.1 rfl)) HO.out)
                have g10 := HC10.out _ HBX.out
                go_wp2_with fail
                go_ret
                refine ⟨.inr ⟨k, _, HBad.out, rfl, _, rfl, ?_, ?_⟩, ?_⟩
                · exact Nat.le_trans HBX.out.size (by simp [go_sem])
                · rw [erV_pos A (by decide)]
                  exact heap_alloc_new _ _
                · exact HBX.out.alloc HBX.out.size _
              | false =>
                have HO2 := hid (show ∀ j, j < k + 1 → goodC L j from fun j hj => by
                  by_cases e : j = k
                  · rw [e]
                    exact HOk.out.2 ⟨HNe.out, by first | rfl | trivial, fun hm => Bool.noConfusion (HCn.out.2 hm)⟩
                  · exact HO.out j (by omega))
                go_wp2_with fail
                go_roundw
                case rel => exact ⟨k + 1, by omega, by go_num, HO2, HBX⟩
                case measure => simp [intOf]; omega
      · obtain rfl : k = L.length := by omega
        have HG := hid (HC.out.good H0.out HO.out)
        have hI : ¬ (L.length : Int) < (L.length : Int) := by omega
        go_wp2
        go_ret
        exact ⟨.inl ⟨HG.out, rfl⟩, HB.out⟩
end Go.Proofs.YtmgfdnccmeahjaaGreatDoor
