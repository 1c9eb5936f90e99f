/-
  Fair: the program's and the document's.
-/
import Derived.Test.YtogbmldplgondacSc1
namespace Go.Proofs.Ytogbmldplgondac
open Go.RowKit
set_option maxRecDepth 100000
attribute [local go_sem ↓] mki_op

/-- behind the last place of each handler among the first picks -/
def LA (R : List Int) (n : Nat) : Nat → List Int
  | 0 => List.replicate n 0
  | i + 1 => (LA R n i).set (R.getD i 0).toNat ((i : Int) + 1)
theorem LA_len (R : List Int) (n : Nat) : ∀ i, (LA R n i).length = n
  | 0 => by simp [LA]
  | i + 1 => by rw [LA, List.length_set, LA_len R n i]
theorem LA_next (R : List Int) (n i : Nat) (h : i < R.length) : LA R n (i + 1) = (LA R n i).set R[i].toNat ((i : Int) + 1) := by
  rw [LA, List.getD_eq_getElem?_getD, List.getElem?_eq_getElem h]; rfl
/-- the k that end at place i lack one -/
def badF (R : List Int) (n : Nat) (k : Int) (i : Nat) : Prop := 0 ≤ (i : Int) + 1 - k ∧ ∃ x ∈ LA R n (i + 1), x ≤ (i : Int) + 1 - k
def okF (R : List Int) (n k : Int) : Prop := okN n = true ∧ 1 ≤ k ∧ R.length ≤ 65536 ∧ inB R n = true
/-- what Fair answers -/
def FaA (R : List Int) (n k : Int) (b : Bool) (p : Int) : Prop :=
  (¬ okF R n k ∧ b = false ∧ p = -1) ∨ (okF R n k ∧ ∃ i, i < R.length ∧ badF R n.toNat k i ∧ (∀ j, j < i → ¬ badF R n.toNat k j) ∧ b = false ∧ p = (i : Int) + 1 - k) ∨ (okF R n k ∧ (∀ j, j < R.length → ¬ badF R n.toNat k j) ∧ b = true ∧ p = 0)
theorem FaA.same {R : List Int} {n k : Int} {b b' : Bool} {p p' : Int} (h : FaA R n k b p) (h' : FaA R n k b' p') : b = b' ∧ p = p' := by
  rcases h with ⟨x, rfl, rfl⟩ | ⟨x, i, hi, hb, hm, rfl, rfl⟩ | ⟨x, hm, rfl, rfl⟩ <;> rcases h' with ⟨x', rfl, rfl⟩ | ⟨x', i', hi', hb', hm', rfl, rfl⟩ | ⟨x', hm', rfl, rfl⟩
  · exact ⟨rfl, rfl⟩
  · exact absurd x' x
  · exact absurd x' x
  · exact absurd x x'
  · have : i = i' := by
      rcases Nat.lt_trichotomy i i' with h | h | h
      · exact absurd hb (hm' i h)
      · exact h
      · exact absurd hb' (hm i' h)
    subst this
    exact ⟨rfl, rfl⟩
  · exact absurd hb (hm' i hi)
  · exact absurd x x'
  · exact absurd hb' (hm i' hi')
  · exact ⟨rfl, rfl⟩
/-- the answer as a call's end -/
def FaE (R : List Int) (n k : Int) (e : Ending) : Prop := ∃ b p, e = .returned (.tuple #[.bool b, .int .i64 p]) ∧ FaA R n k b p

set_option maxHeartbeats 1000000 in
theorem fair_any (v : Value) (R : List Int) (n k : Int) (w : World) (hr : RI w v R) (hl : R.length ≤ 9223372036854775807) (hk0 : -9223372036854775808 ≤ k) (hk1 : k ≤ 9223372036854775807) :
    Calls Try.prog 25 #[v, .int .i64 n, .int .i64 k] w fun e w' => FaE R n k e ∧ Below w.heap.size w w' := by
  have HI := hid (isCount_any n)
  have HA := hid (areBelow_any v R n w hr hl)
  by_cases ho : okF R n k
  · obtain ⟨hn, hk, h6, hin⟩ := ho
    have HOK := hid (show okF R n k from ⟨hn, hk, h6, hin⟩)
    have HIN := hid ((inB_iff R n).1 hin)
    rw [hin] at HA
    rw [hn] at HI
    obtain ⟨n1, n2⟩ := (okN_iff n).1 hn
    obtain ⟨m, rfl⟩ : ∃ m : Nat, n = (m : Int) := ⟨n.toNat, by omega⟩
    clear hin hn
    have hm := run_mkI m (by omega)
    have bB := (Below.refl w.heap.size w).alloc (Nat.le_refl _) (.cells (ic (List.replicate m 0)).toArray 3)
    have hB := heap_alloc_new w (.cells (ic (List.replicate m 0)).toArray 3)
    obtain ⟨V, hV⟩ : ∃ V, w.alloc (.cells (ic (List.replicate m 0)).toArray 3) = V := ⟨_, rfl⟩
    rw [hV] at bB hB
    obtain ⟨ao, cap, rfl, hpc, hpn, hcell⟩ := hr
    have HC : Hid (_) := hcell
    have HB := hid bB
    have HV := hid hB
    clear hcell hpn bB hB
    have h6' : (R.length : Int) ≤ 65536 := by omega
    go_enter Try.func25, Try.ntmps25
    go_wp2_with (first
      | (go_at_call 52; refine (HI.out _).mono ?_; rintro e w3 ⟨rfl, rfl⟩)
      | (go_at_call 48; refine HA.out.mono ?_; rintro e w3 ⟨rfl, rfl⟩))
    clear hm
    go_loopw [34] (fun i wx => ∃ j : Nat, j ≤ R.length ∧ i = .int .i64 (j : Int) ∧ wx.heap[w3.heap.size]? = some (.cells (ic (LA R m j)).toArray 3 (0, 0)) ∧ (∀ i, i < j → ¬ badF R m k i) ∧ Below w3.heap.size w3 wx) (fun i _ => R.length - (intOf i).toNat)
    case atStart => exact ⟨0, by omega, rfl, HV.out, fun i h => by omega, HB.out⟩
    case round =>
      obtain ⟨j, hj, rfl, hh, hno, hb⟩ := hrel
      have HH := hid hh
      have HNo := hid hno
      have HBj := hid hb
      clear hh hno hb
      by_cases hlt : j < R.length
      · have hI : (j : Int) < (R.length : Int) := by omega
        obtain ⟨g, off, hao, c0⟩ := HC.out j hlt
        subst hao
        have c0 := below_cells HBj.out _ _ c0
        have HLN := hid (LA_next R m j hlt)
        obtain ⟨x0, x1⟩ := HIN.out j hlt
        generalize R[j] = x at c0 HLN x0 x1
        obtain ⟨q, rfl⟩ : ∃ q : Nat, x = (q : Int) := ⟨x.toNat, by omega⟩
        have hqm : q < m := by omega
        rw [Int.toNat_natCast] at HLN
        obtain ⟨old, c1⟩ : ∃ z, wr.cell? ⟨w3.heap.size, q, none⟩ = some (.int .i64 z) := by
          refine ⟨(LA R m j)[q]'(by rw [LA_len]; exact hqm), ?_⟩
          rw [cell_of_row wr _ q _ _ _ HH.out]
          simp only [List.getElem?_toArray]
          exact ic_at _ q _
        have f1 : wr.frozen? ⟨w3.heap.size, q, none⟩ = false := by simp [World.frozen?, HH.out]
        have HN := hid (show (wr.setCell ⟨w3.heap.size, q, none⟩ (.int .i64 ((j : Int) + 1))).heap[w3.heap.size]? = some (.cells (ic (LA R m (j + 1))).toArray 3 (0, 0)) by
          rw [heap_setCell_same wr w3.heap.size q _ _ _ HH.out, List.setIfInBounds_toArray, HLN.out, ic_set])
        have BN := hid (HBj.out.setCell (p := ⟨w3.heap.size, q, none⟩) (Nat.le_refl _) (.int .i64 ((j : Int) + 1)))
        have HM := hid (min_any _ (LA R m (j + 1)) _ (RI.block HN.out (c := m) (by rw [LA_len]; exact Nat.le_refl _)) (by rw [LA_len]; omega) (by rw [LA_len]; omega))
        rw [LA_len] at HM
        by_cases hbg : 0 ≤ (j : Int) + 1 - k
        · go_wp2_with fail
          refine HM.out.mono ?_
          rintro e w5 ⟨⟨y, rfl, hy1, hy2⟩, rfl⟩
          have Y1 := hid hy1
          have Y2 := hid hy2
          clear hy1 hy2
          by_cases hyb : y ≤ (j : Int) + 1 - k
          · go_wp2
            go_ret2
            exact ⟨⟨false, _, rfl, .inr (.inl ⟨HOK.out, j, hlt, by rw [Int.toNat_natCast]; exact ⟨hbg, y, Y1.out, hyb⟩, fun i hi => by rw [Int.toNat_natCast]; exact HNo.out i hi, rfl, rfl⟩)⟩, BN.out⟩
          · have HNo' := hid (show ∀ i, i < j + 1 → ¬ badF R m k i from fun i hi hbad => by
              by_cases e : i = j
              · subst e
                obtain ⟨z, hz, hz2⟩ := hbad.2
                have := Y2.out z hz
                omega
              · exact HNo.out i (by omega) hbad)
            go_wp2
            go_roundw
            case rel => exact ⟨j + 1, by omega, by go_num, HN.out, HNo'.out, BN.out⟩
            case measure => simp [intOf]; omega
        · have HNo' := hid (show ∀ i, i < j + 1 → ¬ badF R m k i from fun i hi hbad => by
            by_cases e : i = j
            · subst e; exact hbg hbad.1
            · exact HNo.out i (by omega) hbad)
          go_wp2
          go_roundw
          case rel => exact ⟨j + 1, by omega, by go_num, HN.out, HNo'.out, BN.out⟩
          case measure => simp [intOf]; omega
      · have hI : ¬ (j : Int) < (R.length : Int) := by omega
        go_wp2
        go_ret2
        exact ⟨⟨true, 0, rfl, .inr (.inr ⟨HOK.out, fun i hi => by rw [Int.toNat_natCast]; exact HNo.out i (by omega), rfl, rfl⟩)⟩, HBj.out⟩
  · have HNO := hid ho
    by_cases hn : okN n = true
    · rw [hn] at HI
      by_cases hk : 1 ≤ k
      · by_cases h6 : R.length ≤ 65536
        · have hin : inB R n = false := Bool.eq_false_iff.2 fun h => ho ⟨hn, hk, h6, h⟩
          rw [hin] at HA
          have h6' : (R.length : Int) ≤ 65536 := by omega
          obtain ⟨ao, cap, rfl⟩ := hr.len0
          clear hr ho hin
          go_enter Try.func25, Try.ntmps25
          go_wp2_with (first
            | (go_at_call 52; refine (HI.out _).mono ?_; rintro e w3 ⟨rfl, rfl⟩)
            | (go_at_call 48; refine HA.out.mono ?_; rintro e w3 ⟨rfl, rfl⟩))
          go_ret2
          exact ⟨⟨false, _, rfl, .inl ⟨HNO.out, rfl, rfl⟩⟩, Below.refl _ _⟩
        · have h6' : ¬ (R.length : Int) ≤ 65536 := by omega
          obtain ⟨ao, cap, rfl⟩ := hr.len0
          clear hr ho HA
          go_enter Try.func25, Try.ntmps25
          go_wp2_with (first
            | (go_at_call 52; refine (HI.out _).mono ?_; rintro e w3 ⟨rfl, rfl⟩))
          go_ret2
          exact ⟨⟨false, _, rfl, .inl ⟨HNO.out, rfl, rfl⟩⟩, Below.refl _ _⟩
      · obtain ⟨ao, cap, rfl⟩ := hr.len0
        clear hr ho HA
        go_enter Try.func25, Try.ntmps25
        go_wp2_with (first
          | (go_at_call 52; refine (HI.out _).mono ?_; rintro e w3 ⟨rfl, rfl⟩))
        go_ret2
        exact ⟨⟨false, _, rfl, .inl ⟨HNO.out, rfl, rfl⟩⟩, Below.refl _ _⟩
    · rw [Bool.eq_false_iff.2 hn] at HI
      obtain ⟨ao, cap, rfl⟩ := hr.len0
      clear hr ho HA hn
      go_enter Try.func25, Try.ntmps25
      go_wp2_with (first
        | (go_at_call 52; refine (HI.out _).mono ?_; rintro e w3 ⟨rfl, rfl⟩))
      go_ret2
      exact ⟨⟨false, _, rfl, .inl ⟨HNO.out, rfl, rfl⟩⟩, Below.refl _ _⟩
end Go.Proofs.Ytogbmldplgondac
