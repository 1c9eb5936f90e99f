/-
  Books that hold lists of ints: Ints, Still, Apart. Laid by mkbk2.py.
-/
import Derived.Test.YtaiccmbhdgecgaaBk1
import Derived.BigQuiet
import Derived.Deep.RegionLaw
import Derived.Deep.DeepCutAuto
namespace Go.Proofs.Ytaiccmbhdgecgaa
open Go.RowKit
set_option maxRecDepth 100000
set_option linter.unusedVariables false
set_option linter.unusedSimpArgs false

set_option maxHeartbeats 2000000 in
theorem apBytes_nil (w : World) : Calls Try.prog 57 #[.slice none 0 0] w fun e w' => e = .returned (.bool true) ∧ w' = w := by
  go_enter Try.func57, Try.ntmps57
  go_wp2_with fail
  go_loopw [3] (fun i wr => i = .int .i64 0 ∧ wr = w) (fun _ _ => 0)
  case atStart => exact ⟨rfl, rfl⟩
  case round =>
    obtain ⟨hi, hw⟩ := hrel
    subst hi
    replace hw := hw.symm
    subst hw
    go_wp2_with fail
    go_loopw [6] (fun i wr => i = .int .i64 0 ∧ wr = w) (fun _ _ => 0)
    case atStart => exact ⟨rfl, rfl⟩
    case round =>
      obtain ⟨hi, hw⟩ := hrel
      subst hi
      replace hw := hw.symm
      subst hw
      go_wp2_with fail
      go_loopw [9] (fun i wr => i = .int .i64 0 ∧ wr = w) (fun _ _ => 0)
      case atStart => exact ⟨rfl, rfl⟩
      case round =>
        obtain ⟨hi, hw⟩ := hrel
        subst hi
        replace hw := hw.symm
        subst hw
        go_wp2
        go_ret
        exact ⟨rfl, rfl⟩
set_option maxHeartbeats 2000000 in
theorem apLists_nil (w : World) : Calls Try.prog 58 #[.slice none 0 0] w fun e w' => e = .returned (.bool true) ∧ w' = w := by
  go_enter Try.func58, Try.ntmps58
  go_wp2_with fail
  go_loopw [3] (fun i wr => i = .int .i64 0 ∧ wr = w) (fun _ _ => 0)
  case atStart => exact ⟨rfl, rfl⟩
  case round =>
    obtain ⟨hi, hw⟩ := hrel
    subst hi
    replace hw := hw.symm
    subst hw
    go_wp2_with fail
    go_loopw [6] (fun i wr => i = .int .i64 0 ∧ wr = w) (fun _ _ => 0)
    case atStart => exact ⟨rfl, rfl⟩
    case round =>
      obtain ⟨hi, hw⟩ := hrel
      subst hi
      replace hw := hw.symm
      subst hw
      go_wp2_with fail
      go_loopw [9] (fun i wr => i = .int .i64 0 ∧ wr = w) (fun _ _ => 0)
      case atStart => exact ⟨rfl, rfl⟩
      case round =>
        obtain ⟨hi, hw⟩ := hrel
        subst hi
        replace hw := hw.symm
        subst hw
        go_wp2
        go_ret
        exact ⟨rfl, rfl⟩
set_option maxHeartbeats 2000000 in
theorem apTexts_nil (w : World) : Calls Try.prog 60 #[.slice none 0 0] w fun e w' => e = .returned (.bool true) ∧ w' = w := by
  go_enter Try.func60, Try.ntmps60
  go_wp2_with fail
  go_loopw [3] (fun i wr => i = .int .i64 0 ∧ wr = w) (fun _ _ => 0)
  case atStart => exact ⟨rfl, rfl⟩
  case round =>
    obtain ⟨hi, hw⟩ := hrel
    subst hi
    replace hw := hw.symm
    subst hw
    go_wp2_with fail
    go_loopw [6] (fun i wr => i = .int .i64 0 ∧ wr = w) (fun _ _ => 0)
    case atStart => exact ⟨rfl, rfl⟩
    case round =>
      obtain ⟨hi, hw⟩ := hrel
      subst hi
      replace hw := hw.symm
      subst hw
      go_wp2_with fail
      go_loopw [9] (fun i wr => i = .int .i64 0 ∧ wr = w) (fun _ _ => 0)
      case atStart => exact ⟨rfl, rfl⟩
      case round =>
        obtain ⟨hi, hw⟩ := hrel
        subst hi
        replace hw := hw.symm
        subst hw
        go_wp2
        go_ret
        exact ⟨rfl, rfl⟩
set_option maxHeartbeats 2000000 in
theorem apLines_nil (w : World) : Calls Try.prog 61 #[.slice none 0 0] w fun e w' => e = .returned (.bool true) ∧ w' = w := by
  go_enter Try.func61, Try.ntmps61
  go_wp2_with fail
  go_loopw [3] (fun i wr => i = .int .i64 0 ∧ wr = w) (fun _ _ => 0)
  case atStart => exact ⟨rfl, rfl⟩
  case round =>
    obtain ⟨hi, hw⟩ := hrel
    subst hi
    replace hw := hw.symm
    subst hw
    go_wp2_with fail
    go_loopw [6] (fun i wr => i = .int .i64 0 ∧ wr = w) (fun _ _ => 0)
    case atStart => exact ⟨rfl, rfl⟩
    case round =>
      obtain ⟨hi, hw⟩ := hrel
      subst hi
      replace hw := hw.symm
      subst hw
      go_wp2_with fail
      go_loopw [9] (fun i wr => i = .int .i64 0 ∧ wr = w) (fun _ _ => 0)
      case atStart => exact ⟨rfl, rfl⟩
      case round =>
        obtain ⟨hi, hw⟩ := hrel
        subst hi
        replace hw := hw.symm
        subst hw
        go_wp2
        go_ret
        exact ⟨rfl, rfl⟩
set_option maxHeartbeats 2000000 in
theorem apLevels_nil (w : World) : Calls Try.prog 62 #[.slice none 0 0] w fun e w' => e = .returned (.bool true) ∧ w' = w := by
  go_enter Try.func62, Try.ntmps62
  go_wp2_with fail
  go_loopw [3] (fun i wr => i = .int .i64 0 ∧ wr = w) (fun _ _ => 0)
  case atStart => exact ⟨rfl, rfl⟩
  case round =>
    obtain ⟨hi, hw⟩ := hrel
    subst hi
    replace hw := hw.symm
    subst hw
    go_wp2_with fail
    go_loopw [6] (fun i wr => i = .int .i64 0 ∧ wr = w) (fun _ _ => 0)
    case atStart => exact ⟨rfl, rfl⟩
    case round =>
      obtain ⟨hi, hw⟩ := hrel
      subst hi
      replace hw := hw.symm
      subst hw
      go_wp2_with fail
      go_loopw [9] (fun i wr => i = .int .i64 0 ∧ wr = w) (fun _ _ => 0)
      case atStart => exact ⟨rfl, rfl⟩
      case round =>
        obtain ⟨hi, hw⟩ := hrel
        subst hi
        replace hw := hw.symm
        subst hw
        go_wp2
        go_ret
        exact ⟨rfl, rfl⟩
set_option maxHeartbeats 2000000 in
theorem apRows_nil (w : World) : Calls Try.prog 63 #[.slice none 0 0] w fun e w' => e = .returned (.bool true) ∧ w' = w := by
  go_enter Try.func63, Try.ntmps63
  go_wp2_with fail
  go_loopw [3] (fun i wr => i = .int .i64 0 ∧ wr = w) (fun _ _ => 0)
  case atStart => exact ⟨rfl, rfl⟩
  case round =>
    obtain ⟨hi, hw⟩ := hrel
    subst hi
    replace hw := hw.symm
    subst hw
    go_wp2_with fail
    go_loopw [6] (fun i wr => i = .int .i64 0 ∧ wr = w) (fun _ _ => 0)
    case atStart => exact ⟨rfl, rfl⟩
    case round =>
      obtain ⟨hi, hw⟩ := hrel
      subst hi
      replace hw := hw.symm
      subst hw
      go_wp2_with fail
      go_loopw [9] (fun i wr => i = .int .i64 0 ∧ wr = w) (fun _ _ => 0)
      case atStart => exact ⟨rfl, rfl⟩
      case round =>
        obtain ⟨hi, hw⟩ := hrel
        subst hi
        replace hw := hw.symm
        subst hw
        go_wp2
        go_ret
        exact ⟨rfl, rfl⟩
/-- the Books in block b: lists of ints alone -/
def BkB (w : World) (b : Nat) (iv iv0 : Value) : Prop := w.heap[b]? = some (.cells #[.slice none 0 0, .slice none 0 0, .slice none 0 0, .slice none 0 0, iv, iv0, .slice none 0 0, .slice none 0 0, .slice none 0 0, .slice none 0 0, .slice none 0 0, .slice none 0 0, .slice none 0 0, .slice none 0 0] 53 (0, 0))
theorem BkB.c0 {w : World} {b : Nat} {iv iv0 : Value} (h : BkB w b iv iv0) : w.cell? ⟨b, 0, none⟩ = some (.slice none 0 0) := Lib.cell_of_heap h 0
theorem BkB.c1 {w : World} {b : Nat} {iv iv0 : Value} (h : BkB w b iv iv0) : w.cell? ⟨b, 1, none⟩ = some (.slice none 0 0) := Lib.cell_of_heap h 1
theorem BkB.c2 {w : World} {b : Nat} {iv iv0 : Value} (h : BkB w b iv iv0) : w.cell? ⟨b, 2, none⟩ = some (.slice none 0 0) := Lib.cell_of_heap h 2
theorem BkB.c3 {w : World} {b : Nat} {iv iv0 : Value} (h : BkB w b iv iv0) : w.cell? ⟨b, 3, none⟩ = some (.slice none 0 0) := Lib.cell_of_heap h 3
theorem BkB.c4 {w : World} {b : Nat} {iv iv0 : Value} (h : BkB w b iv iv0) : w.cell? ⟨b, 4, none⟩ = some iv := Lib.cell_of_heap h 4
theorem BkB.c5 {w : World} {b : Nat} {iv iv0 : Value} (h : BkB w b iv iv0) : w.cell? ⟨b, 5, none⟩ = some iv0 := Lib.cell_of_heap h 5
theorem BkB.c6 {w : World} {b : Nat} {iv iv0 : Value} (h : BkB w b iv iv0) : w.cell? ⟨b, 6, none⟩ = some (.slice none 0 0) := Lib.cell_of_heap h 6
theorem BkB.c7 {w : World} {b : Nat} {iv iv0 : Value} (h : BkB w b iv iv0) : w.cell? ⟨b, 7, none⟩ = some (.slice none 0 0) := Lib.cell_of_heap h 7
theorem BkB.c8 {w : World} {b : Nat} {iv iv0 : Value} (h : BkB w b iv iv0) : w.cell? ⟨b, 8, none⟩ = some (.slice none 0 0) := Lib.cell_of_heap h 8
theorem BkB.c9 {w : World} {b : Nat} {iv iv0 : Value} (h : BkB w b iv iv0) : w.cell? ⟨b, 9, none⟩ = some (.slice none 0 0) := Lib.cell_of_heap h 9
theorem BkB.c10 {w : World} {b : Nat} {iv iv0 : Value} (h : BkB w b iv iv0) : w.cell? ⟨b, 10, none⟩ = some (.slice none 0 0) := Lib.cell_of_heap h 10
theorem BkB.c11 {w : World} {b : Nat} {iv iv0 : Value} (h : BkB w b iv iv0) : w.cell? ⟨b, 11, none⟩ = some (.slice none 0 0) := Lib.cell_of_heap h 11
theorem BkB.c12 {w : World} {b : Nat} {iv iv0 : Value} (h : BkB w b iv iv0) : w.cell? ⟨b, 12, none⟩ = some (.slice none 0 0) := Lib.cell_of_heap h 12
theorem BkB.c13 {w : World} {b : Nat} {iv iv0 : Value} (h : BkB w b iv iv0) : w.cell? ⟨b, 13, none⟩ = some (.slice none 0 0) := Lib.cell_of_heap h 13
theorem BkB.lt {w : World} {b : Nat} {iv iv0 : Value} (h : BkB w b iv iv0) : b < w.heap.size := (Array.getElem?_eq_some_iff.1 h).1
theorem BkB.fr {w : World} {b : Nat} {iv iv0 : Value} (h : BkB w b iv iv0) (j : Nat) : w.frozen? ⟨b, j, none⟩ = false := Lib.frozen_of_heap h j
theorem BkB.later {w w' : World} {b : Nat} {iv iv0 : Value} (h : BkB w b iv iv0) (hb : Below w.heap.size w w') : BkB w' b iv iv0 := (hb.block b h.lt).trans h
theorem BkB.set4 {w : World} {b : Nat} {iv iv0 : Value} (h : BkB w b iv iv0) (u : Value) : BkB (w.setCell ⟨b, 4, none⟩ u) b u iv0 := Lib.heap_setCell_same h _
theorem BkB.set5 {w : World} {b : Nat} {iv iv0 : Value} (h : BkB w b iv iv0) (u : Value) : BkB (w.setCell ⟨b, 5, none⟩ u) b iv u := Lib.heap_setCell_same h _
/-- the lists and what they were -/
structure BkI (col : Nat → Nat) (w : World) (B b : Nat) (iv iv0 : Value) (V V0 : List Value) (X : Nat → List Int) : Prop where
  bb : BkB w b iv iv0
  i1 : I1 col w B iv V X
  o0 : Ow eV 1 22 col 6 w B iv0 V0
  r0 : RwG eN 1 3 (fun j => 4 * j + 1) col w B (fun _ => True) V0 X
  len : V0.length = V.length
  cb : col b = 14
  few : V.length ≤ 1000000000000
  sh : ∀ j, (X j).length ≤ 1000000000000
theorem BkI.later {col : Nat → Nat} {w w' : World} {B b : Nat} {iv iv0 : Value} {V V0 : List Value} {X : Nat → List Int} (h : BkI col w B b iv iv0 V V0 X) (hb : Below w.heap.size w w') : BkI col w' B b iv iv0 V V0 X :=
  ⟨h.bb.later hb, ⟨h.i1.1.later hb, h.i1.2.later hb⟩, h.o0.later hb, h.r0.later hb, h.len, h.cb, h.few, h.sh⟩
theorem BkI.recol {col col' : Nat → Nat} {w : World} {B b : Nat} {iv iv0 : Value} {V V0 : List Value} {X : Nat → List Int} (h : BkI col w B b iv iv0 V V0 X) (hc : ∀ g, g < w.heap.size → col' g = col g) : BkI col' w B b iv iv0 V V0 X :=
  ⟨h.bb, ⟨h.i1.1.recol hc, h.i1.2.recol hc⟩, h.o0.recol hc, h.r0.recol hc, h.len, (hc b h.bb.lt).trans h.cb, h.few, h.sh⟩
theorem Ow.neB {α : Type} {enc : α → List Value} {k : Nat} {t : TypeId} {col : Nat → Nat} {c : Nat} {w : World} {B : Nat} {v : Value} {L : List α} (h : Ow enc k t col c w B v L) {b : Nat} {cs : Array Value} {u : TypeId} {fr : Nat × Nat} (hb : w.heap[b]? = some (.cells cs u fr)) (hne : u ≠ t) : v.ownBlock ≠ some b := by
  rcases h.1.2 with ⟨rfl, _⟩ | ⟨g, cap, cur, rfl, _, hg, _⟩
  · simp [Value.ownBlock]
  · intro e
    have : g = b := by simpa [Value.ownBlock] using e
    subst this
    have h1 := hg.symm.trans hb
    injection h1 with h2
    injection h2 with _ h3 _
    exact hne h3.symm
theorem below_drewN2 {B : Nat} {a w : World} (h : Below B a w) : ∀ n, Below B a (w.drewN n)
  | 0 => h
  | n + 1 => (below_drewN2 h n).drew
set_option maxHeartbeats 8000000 in
theorem stillI_any (w : World) (B b : Nat) (col : Nat → Nat) (iv iv0 : Value) (V V0 : List Value) (X : Nat → List Int) (h : BkI col w B b iv iv0 V V0 X) :
    Calls Try.prog 56 #[.pointer (some ⟨b, 0, none⟩)] w fun e w' => e = .returned (.bool true) ∧ Below w.heap.size w w' := by
  have c0 := h.bb.c0
  have c2 := h.bb.c2
  have c4 := h.bb.c4
  obtain ⟨io, ic, hiv⟩ := h.i1.1.sl
  subst hiv
  obtain ⟨jo, jc, hjv⟩ := h.o0.sl
  rw [h.len] at hjv
  subst hjv
  have hfew := h.few
  have HH := hib h
  clear h
  go_enter Try.func56, Try.ntmps56
  go_wp2_with fail
  go_loopw [3] (fun i wz => i = .int .i64 0 ∧ wz = w) (fun _ _ => 0)
  case atStart => exact ⟨rfl, rfl⟩
  case round =>
    obtain ⟨hi, hw⟩ := hrel
    subst hi
    replace hw := hw.symm
    subst hw
    go_wp2_with fail
    go_loopw [4] (fun i wz => i = .int .i64 0 ∧ wz = w) (fun _ _ => 0)
    case atStart => exact ⟨rfl, rfl⟩
    case round =>
      obtain ⟨hi, hw⟩ := hrel
      subst hi
      replace hw := hw.symm
      subst hw
      go_wp2_with fail
      go_loopg [6] V.length (fun g s6 wr => ∃ (i : Nat), i ≤ V.length ∧ V.length - i ≤ g ∧ s6 = .int .i64 (i : Int) ∧ Hid (Below w.heap.size w wr))
      case atStart => exact ⟨0, Nat.zero_le _, Nat.le_refl _, rfl, hib (Below.refl _ _)⟩
      case round =>
        obtain ⟨i, hi, hm, h6, HB⟩ := hrel
        subst h6
        have hH := HH.out.later HB.out
        clear c0 c2 c4
        have c4 := hH.bb.c4
        by_cases hlt : i < V.length
        · have hltI : (i : Int) < (V.length : Int) := by omega
          have hdI : decide (i < V.length) = true := by simp; exact hlt
          obtain ⟨gO, hgO⟩ : ∃ gO, gO = gk := ⟨_, rfl⟩
          have hlt0 : i < V0.length := by rw [hH.len]; exact hlt
          obtain ⟨bk, kc, hkv, hkc, _⟩ := hH.i1.1.cellV i hlt
          injection hkv with e1 _ e3
          subst e1 e3
          obtain ⟨bj, kc2, hjv, hkc2, _⟩ := hH.o0.cellV i hlt0
          injection hjv with e1 e2 e3
          subst e1 e3
          obtain ⟨ai, ci, hvi⟩ := (hH.i1.2 i hlt trivial).sl
          obtain ⟨aj, cj, hvj⟩ := (hH.r0 i hlt0 trivial).sl
          obtain ⟨N, hN⟩ : ∃ N, N = (X i).length := ⟨_, rfl⟩
          rw [← hN] at hvi hvj
          have hNb : N ≤ 1000000000000 := by rw [hN]; exact hH.sh i
          have HVI := hib (And.intro hvi hvj)
          have HN := hib hN
          have HG := hib (And.intro hgO hm)
          clear hgO hm hvi hvj hN e2
          go_wp2_with fail
          go_loopg [7] N (fun g s7 wr => ∃ (k : Nat), k ≤ N ∧ N - k ≤ g ∧ s7 = .int .i64 (k : Int) ∧ Hid (Below w.heap.size w wr))
          case atStart => exact ⟨0, Nat.zero_le _, Nat.le_refl _, rfl, HB⟩
          case round =>
            obtain ⟨k, hk, hm2, h7, HB2⟩ := hrel
            subst h7
            clear c4 HB hH
            have hH := HH.out.later HB2.out
            have c4 := hH.bb.c4
            have c5 := hH.bb.c5
            have ck : wr.cell? ⟨bk, i, none⟩ = some (.slice ai N ci) := by
              obtain ⟨g', c', e, _, hq⟩ := hH.i1.1.cellV i hlt
              cases e
              rw [HVI.out.1] at hq
              exact hq
            by_cases hk3 : k < N
            · have hkI : (k : Int) < (N : Int) := by omega
              have hdk : decide (k < N) = true := by simp; exact hk3
              have cj : wr.cell? ⟨bj, i, none⟩ = some (.slice aj N cj) := by
                obtain ⟨g', c', e, _, hq⟩ := hH.o0.cellV i hlt0
                injection e with e1
                injection e1 with e1
                injection e1 with e1
                subst e1
                rw [HVI.out.2] at hq
                exact hq
              obtain ⟨gi, ci', e, hci, hc, _⟩ := (hH.i1.2 i hlt trivial).atI k (by rw [← HN.out]; exact hk3)
              rw [HVI.out.1] at e
              injection e with e1 e2 e3
              subst e1 e3
              obtain ⟨gj, cj', e, hcj, hc2, _⟩ := (hH.r0 i hlt0 trivial).atI k (by rw [← HN.out]; exact hk3)
              rw [HVI.out.2] at e
              injection e with e1 e2' e3
              subst e1 e3
              rw [← HN.out] at hci hcj
              generalize (X i)[k]'(by rw [← HN.out]; exact hk3) = z at hc hc2
              clear e2 e2' hk3 hH
              go_wp2_with fail
              go_quiet (fail)
              have HB3 := hib (below_drewN2 HB2.out nq)
              generalize wr.drewN nq = w9 at *
              clear c4 c5 ck cj hc hc2
              go_wp2
              go_roundg (gk - 1)
              case measure => omega
              case rel => exact ⟨k + 1, by omega, by omega, by first | rfl | go_num, HB3⟩
            · have hkI : ¬ (k : Int) < (N : Int) := by omega
              have hdk : decide (k < N) = false := by simp; omega
              clear hk3 hm2 hH
              go_wp2
              go_roundg (gO - 1)
              case measure => obtain ⟨h1, h2⟩ := HG.out; omega
              case rel => exact ⟨i + 1, by omega, by obtain ⟨h1, h2⟩ := HG.out; omega, by first | rfl | go_num, HB2⟩
        · have hltI : ¬ (i : Int) < (V.length : Int) := by omega
          have hdI : decide (i < V.length) = false := by simp; omega
          have c6 := hH.bb.c6
          have c8 := hH.bb.c8
          have c10 := hH.bb.c10
          have c12 := hH.bb.c12
          clear hlt hm hH
          obtain ⟨w6, hw6⟩ : ∃ w6, w6 = wr := ⟨_, rfl⟩
          subst hw6
          go_wp2_with fail
          go_loopw [8] (fun i wz => i = .int .i64 0 ∧ wz = w6) (fun _ _ => 0)
          case atStart => exact ⟨rfl, rfl⟩
          case round =>
            obtain ⟨hi, hw⟩ := hrel
            subst hi
            replace hw := hw.symm
            subst hw
            go_wp2_with fail
            go_loopw [10] (fun i wz => i = .int .i64 0 ∧ wz = w6) (fun _ _ => 0)
            case atStart => exact ⟨rfl, rfl⟩
            case round =>
              obtain ⟨hi, hw⟩ := hrel
              subst hi
              replace hw := hw.symm
              subst hw
              go_wp2_with fail
              go_loopw [12] (fun i wz => i = .int .i64 0 ∧ wz = w6) (fun _ _ => 0)
              case atStart => exact ⟨rfl, rfl⟩
              case round =>
                obtain ⟨hi, hw⟩ := hrel
                subst hi
                replace hw := hw.symm
                subst hw
                go_wp2_with fail
                go_loopw [14] (fun i wz => i = .int .i64 0 ∧ wz = w6) (fun _ _ => 0)
                case atStart => exact ⟨rfl, rfl⟩
                case round =>
                  obtain ⟨hi, hw⟩ := hrel
                  subst hi
                  replace hw := hw.symm
                  subst hw
                  go_wp2
                  go_ret
                  exact ⟨rfl, HB.out⟩
set_option maxHeartbeats 4000000 in
theorem apartI_any (w : World) (B b : Nat) (col : Nat → Nat) (iv iv0 : Value) (V V0 : List Value) (X : Nat → List Int) (h : BkI col w B b iv iv0 V V0 X) (hB : B ≤ w.heap.size) :
    Calls Try.prog 28 #[.pointer (some ⟨b, 0, none⟩)] w fun e w' => e = .returned (.bool true) ∧ Bx B col w w' := by
  have HSt := hib (stillI_any w B b col iv iv0 V V0 X h)
  have HH := hib h
  have N1 := hib apBytes_nil
  have N2 := hib apLists_nil
  have N3 := hib apTexts_nil
  have N4 := hib apLines_nil
  have N5 := hib apLevels_nil
  have N6 := hib apRows_nil
  clear h
  go_enter Try.func28, Try.ntmps28
  go_wp2_with fail
  refine Calls.mono HSt.out ?_
  rintro e w1 ⟨rfl, hb1⟩
  have hH := HH.out.later hb1
  have HB1 := hib hb1
  have HB := hib hB
  have HCb := hib HH.out.cb
  have c0 := hH.bb.c0
  have c2 := hH.bb.c2
  have c4 := hH.bb.c4
  have HIn := hib (apInts_any w1 B col iv V X hH.i1 (Nat.le_trans hB hb1.size) hH.sh hH.few)
  have HBB := hib hH.bb
  obtain ⟨io, ic, hiv⟩ := hH.i1.1.sl
  subst hiv
  have HI1 := hib hH.i1
  clear hb1 hH HSt HH
  go_wp2_with fail
  refine Calls.mono (N1.out _) ?_
  rintro e wz ⟨rfl, hw⟩
  replace hw := hw.symm
  subst hw
  go_wp2_with fail
  refine Calls.mono (N2.out _) ?_
  rintro e wz ⟨rfl, hw⟩
  replace hw := hw.symm
  subst hw
  go_wp2_with fail
  refine Calls.mono HIn.out ?_
  rintro e w2 ⟨rfl, hb2⟩
  have hbb2 : BkB w2 b _ _ := (hb2.oth b HBB.out.lt (by rw [HCb.out]; decide)).trans HBB.out
  have HX := hib (show Bx B col w w2 from ⟨(HB1.out.mono HB.out).trans hb2.bel, fun g hg hc => (hb2.oth g (Nat.lt_of_lt_of_le hg HB1.out.size) hc).trans (HB1.out.block g hg)⟩)
  have c6 := hbb2.c6
  have c8 := hbb2.c8
  have c10 := hbb2.c10
  have c12 := hbb2.c12
  clear hbb2 hb2 c0 c2 c4
  go_wp2_with fail
  refine Calls.mono (N3.out _) ?_
  rintro e wz ⟨rfl, hw⟩
  replace hw := hw.symm
  subst hw
  go_wp2_with fail
  refine Calls.mono (N4.out _) ?_
  rintro e wz ⟨rfl, hw⟩
  replace hw := hw.symm
  subst hw
  go_wp2_with fail
  refine Calls.mono (N5.out _) ?_
  rintro e wz ⟨rfl, hw⟩
  replace hw := hw.symm
  subst hw
  go_wp2_with fail
  refine Calls.mono (N6.out _) ?_
  rintro e wz ⟨rfl, hw⟩
  replace hw := hw.symm
  subst hw
  go_wp2
  go_ret
  exact ⟨rfl, HX.out⟩

/-- append as an equation: of what lies at an address, or of nothing -/
theorem run_appD {α : Type} {enc : α → List Value} {k : Nat} {t : TypeId} {col : Nat → Nat} {c : Nat} {w : World} {base : Nat} {v : Value} {L : List α} {st : TypeId} {z : Value} {bytes : Nat} (inf : (Try.prog.info? t).map (fun i => (i.zero, i.size, i.bytes)) = some (some z, k, bytes)) (hst : Try.prog.underlying st = some (.slice t)) (hzs : z.cells.size = k) (hk0 : 0 < k) (hk : ∀ x, (enc x).length = k)
    (hown : Ow enc k t col c w base v L) (xv : Value) (M : List α) (hx : (xv = .slice none 0 0 ∧ M = []) ∨ ∃ ad cp, xv = .slice (some ad) M.length cp ∧ ∀ j u, (M.flatMap enc)[j]? = some u → w.cell? (ad.add j) = some u) (h1 : ∀ x ∈ M, ∀ u ∈ enc x, u.oneCell' = true)
    (hlen : (L.length + M.length) * bytes ≤ 140737488355328) (hlen2 : L.length + M.length ≤ maxLen) (hbase : base ≤ w.heap.size) (ty : TypeId) :
    ∃ v' w' col', (Builtin.append_ #[st, st] ty #[v, xv]).run Try.prog w = .ok v' w' ∧ Ow enc k t col' c w' base v' (L ++ M) ∧ (∀ u c2 (L2 : List α), Ow enc k t col c2 w base u L2 → L2.length ≤ L.length → Ow enc k t col' c2 w' base u L2) ∧ w.grownBy w' v.ownBlock ∧ (∀ g, v.ownBlock = some g → col g = c ∧ g < w.heap.size) ∧ (∀ g, g < w.heap.size → col' g = col g) := by
  obtain ⟨i, hi, hz, hsz, hby⟩ := info_parts inf
  rcases hx with ⟨rfl, rfl⟩ | ⟨ad, cp, rfl, hnews⟩
  · have hr := run_append_owned_none (P := Try.prog) (w := w) base st ty t i k hst hi v L.length (L.flatMap enc) hown.1
    exact ⟨v, w, col, hr, by rw [List.append_nil]; exact hown, fun u c2 L2 hu _ => hu, ⟨rfl, rfl, rfl, Nat.le_refl _, fun _ _ _ => rfl⟩, fun g hg => ⟨hown.2 g hg, (hown.lt g hg).2⟩, fun _ _ => rfl⟩
  obtain ⟨v', w', hr, h2, h3, h5, h6⟩ := run_append_keep2 (P := Try.prog) w base st ty t i z k bytes hst hi hz hsz hby hzs hk0 v L.length (L.flatMap enc) hown.1 ad M.length cp (M.flatMap enc) (fl_len hk M) hnews (fun u hu => by obtain ⟨y, hy1, hy⟩ := List.mem_flatMap.1 hu; exact h1 y hy1 u hy) hlen2 hlen hbase
  have hcol : ∀ g, g < w.heap.size → (fun g => if g = w.heap.size then c else col g) g = col g := fun g hg => by show (if g = w.heap.size then c else col g) = col g; rw [if_neg (by omega)]
  exact ⟨v', w', (fun g => if g = w.heap.size then c else col g), hr, ⟨by rw [List.flatMap_append, List.length_append]; exact h2, fun g hg => by
      rcases h5 with h5 | h5
      · rw [h5] at hg
        rw [hcol g (hown.lt g hg).2]
        exact hown.2 g hg
      · rw [h5] at hg
        cases hg
        show (if w.heap.size = w.heap.size then c else col w.heap.size) = c
        rw [if_pos rfl]⟩, (fun u c2 L2 hu hl => ⟨h6 u _ _ hu.1 hl, fun g hg => by rw [hcol g (hu.lt g hg).2]; exact hu.2 g hg⟩), h3, (fun g hg => ⟨hown.2 g hg, (hown.lt g hg).2⟩), hcol⟩
/-- a list as a source -/
theorem Ow.srcI {col : Nat → Nat} {c : Nat} {w : World} {B : Nat} {v : Value} {L : List Int} (h : Ow eN 1 3 col c w B v L) : (v = .slice none 0 0 ∧ L = []) ∨ ∃ ad cp, v = .slice (some ad) L.length cp ∧ ∀ j u, (L.flatMap eN)[j]? = some u → w.cell? (ad.add j) = some u := by
  have hc := fun g hg => World.ownsRow.cells h.1 (g := g) hg
  rcases h.1.2 with ⟨rfl, h0⟩ | ⟨g, cap, cur, rfl, _⟩
  · exact .inl ⟨rfl, List.eq_nil_of_length_eq_zero h0⟩
  · exact .inr ⟨_, cap, rfl, hc g rfl⟩
/-- what Ints leaves -/
structure FrB (col : Nat → Nat) (b : Nat) (w w' : World) : Prop where
  os : w'.os = w.os
  tape : w'.tape = w.tape
  output : w'.output = w.output
  size : w.heap.size ≤ w'.heap.size
  block : ∀ g, g < w.heap.size → g ≠ b → col g ≠ 2 → col g ≠ 6 → w'.heap[g]? = w.heap[g]?
def IntsA (col : Nat → Nat) (w : World) (B b : Nat) (V : List Value) (X : Nat → List Int) (l : Value) (L : List Int) (e : Ending) (w' : World) : Prop :=
  ∃ col' iv' iv0' V0', e = .returned (.tuple #[]) ∧ BkI col' w' B b iv' iv0' (V ++ [l]) V0' (fun j => if j = V.length then L else X j) ∧ (∀ g, g < w.heap.size → col' g = col g) ∧ FrB col b w w'
