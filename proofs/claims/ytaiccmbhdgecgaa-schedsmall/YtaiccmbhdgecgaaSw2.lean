/-
  Switches: the program's, every answer; the document's; they are the same.
-/
import Derived.Test.YtaiccmbhdgecgaaSw1
import Derived.Test.YtaiccmbhdgecgaaRk5
import Derived.Deep.QuietTactic
import Derived.BigQuiet
namespace Go.Proofs.Ytaiccmbhdgecgaa
open Go.RowKit
set_option maxRecDepth 100000

/-- is a handler put aside ahead of place j -/
def cnd (L : List Nat) (j : Nat) : Prop := 1 ≤ j ∧ L.getD (j - 1) 0 ≠ L.getD j 0 ∧ 0 < (L.drop j).count (L.getD (j - 1) 0)
theorem cnd_b (L : List Nat) (j : Nat) : ∃ b : Bool, (b = true ↔ cnd L j) := by
  by_cases c : cnd L j
  · exact ⟨true, by simp [c]⟩
  · exact ⟨false, by simp [c]⟩
def cb (L : List Nat) (j : Nat) : Bool := decide (1 ≤ j) && (decide (L.getD (j - 1) 0 ≠ L.getD j 0) && decide (0 < (L.drop j).count (L.getD (j - 1) 0)))
/-- how often ahead of the first j places -/
def cS (L : List Nat) : Nat → Nat
  | 0 => 0
  | j + 1 => if cb L j then cS L j + 1 else cS L j
theorem cS_le (L : List Nat) : ∀ j, cS L j ≤ j
  | 0 => Nat.le_refl _
  | j + 1 => by
    have := cS_le L j
    unfold cS
    split <;> omega
theorem drop_count (L : List Nat) (j h : Nat) (hj : j < L.length) : (L.drop j).count h = (if L.getD j 0 = h then 1 else 0) + (L.drop (j + 1)).count h := by
  rw [List.drop_eq_getElem_cons hj, List.count_cons, gN L j hj]
  by_cases e : L[j] = h
  · rw [if_pos e, if_pos (by simp [e])]
    omega
  · rw [if_neg e, if_neg (by simpa using e)]
    omega
theorem sSt_is (L : List Nat) (hL : ∀ x ∈ L, x < 16) : ∀ j, j ≤ L.length → (sSt L j).1 = cS L j ∧ (sSt L j).2.1 = (if j = 0 then -1 else ((L.getD (j - 1) 0 : Nat) : Int)) ∧ ∀ h, h < 16 → (sSt L j).2.2.getD h 0 = (((L.drop j).count h : Nat) : Int)
  | 0, _ => by
    refine ⟨rfl, rfl, fun h hh => ?_⟩
    show (cR L L.length).getD h 0 = _
    rw [cR_is L hL L.length (Nat.le_refl _), List.take_length, iN_getD, C16_at, if_pos hh]
    rfl
  | j + 1, hj => by
    obtain ⟨i1, i2, i3⟩ := sSt_is L hL j (by omega)
    have hx : L.getD j 0 < 16 := by rw [gN L j (by omega)]; exact hL _ (List.getElem_mem _)
    have hlen := sSt_len L j
    refine ⟨?_, ?_, fun h hh => ?_⟩
    · show (if asd (sSt L j).2.2 (sSt L j).2.1 (L.getD j 0) then (sSt L j).1 + 1 else (sSt L j).1) = if cb L j then cS L j + 1 else cS L j
      have e : asd (sSt L j).2.2 (sSt L j).2.1 (L.getD j 0) = cb L j := by
        rw [i2]
        unfold asd cb
        by_cases h0 : j = 0
        · subst h0
          simp
        · rw [if_neg h0]
          have hp : L.getD (j - 1) 0 < 16 := by rw [gN L (j - 1) (by omega)]; exact hL _ (List.getElem_mem _)
          rw [Int.toNat_natCast, i3 _ hp]
          have e1 : decide (0 ≤ ((L.getD (j - 1) 0 : Nat) : Int)) = true := decide_eq_true (by omega)
          have e2 : decide (1 ≤ j) = true := decide_eq_true (by omega)
          rw [e1, e2, Bool.true_and, Bool.true_and]
          congr 1
          · by_cases e3 : L.getD (j - 1) 0 = L.getD j 0
            · rw [e3]; simp
            · rw [decide_eq_false (show ¬ ((L.getD (j - 1) 0 : Nat) : Int) = ((L.getD j 0 : Nat) : Int) by omega), decide_eq_true e3]
              rfl
          · by_cases e4 : 0 < (L.drop j).count (L.getD (j - 1) 0)
            · rw [decide_eq_true e4, decide_eq_true (by omega)]
            · rw [decide_eq_false e4, decide_eq_false (by omega)]
      rw [e, i1]
    · rfl
    · show ((sSt L j).2.2.set (L.getD j 0) ((sSt L j).2.2.getD (L.getD j 0) 0 - 1)).getD h 0 = _
      rw [getD_set0, hlen, i3 _ hx, i3 _ hh, drop_count L j h (by omega), drop_count L j (L.getD j 0) (by omega), if_pos rfl]
      by_cases e : L.getD j 0 = h
      · subst e
        rw [if_pos ⟨rfl, hx⟩]
        omega
      · rw [if_neg (fun c => e c.1), if_neg e]
        omega
/-- what Switches answers -/
def SwA (R : List Int) (e : Ending) : Prop :=
  (inB R 16 = false ∧ e = .returned (.tuple #[.int .i64 0, .int .i64 2])) ∨
  (inB R 16 = true ∧ 65536 < R.length ∧ e = .returned (.tuple #[.int .i64 0, .int .i64 1])) ∨
  (inB R 16 = true ∧ R.length ≤ 65536 ∧ ∃ L, R = iN L ∧ (∀ x ∈ L, x < 16) ∧ e = .returned (.tuple #[.int .i64 (cS L L.length : Int), .int .i64 0]))
theorem iN_inj {L M : List Nat} (h : iN L = iN M) : L = M := by
  have := congrArg nats h
  rwa [iN_nats, iN_nats] at this
theorem SwA.same {R : List Int} {e f : Ending} (h : SwA R e) (k : SwA R f) : e = f := by
  rcases h with ⟨h1, rfl⟩ | ⟨h1, h2, rfl⟩ | ⟨h1, h2, L, h3, _, rfl⟩ <;> rcases k with ⟨k1, rfl⟩ | ⟨k1, k2, rfl⟩ | ⟨k1, k2, M, k3, _, rfl⟩
  · rfl
  · rw [h1] at k1; cases k1
  · rw [h1] at k1; cases k1
  · rw [h1] at k1; cases k1
  · rfl
  · omega
  · rw [h1] at k1; cases k1
  · omega
  · obtain rfl := iN_inj (h3.symm.trans k3)
    rfl
set_option maxHeartbeats 1000000 in
theorem switchesA_any (v : Value) (R : List Int) (w : World) (hr : RI w v R) (hl : R.length ≤ 9223372036854775807) :
    Calls Try.prog 18 #[v] w fun e w' => SwA R e ∧ Below w.heap.size w w' := by
  have HAb := hid (areBelow_any v R 16 w hr hl)
  by_cases hin : inB R 16 = true
  · by_cases h65 : R.length ≤ 65536
    · obtain ⟨L, rfl, hx⟩ := nat_list hin
      rw [iN_len] at h65
      refine (switches_any v L w hr (fun i => ?_) h65).mono ?_
      · by_cases hi : i < L.length
        · rw [gN L i hi]
          exact hx _ (List.getElem_mem _)
        · rw [getD_out L i (by omega)]
          decide
      · rintro e w' ⟨rfl, hb⟩
        rw [(sSt_is L hx L.length (Nat.le_refl _)).1]
        exact ⟨.inr (.inr ⟨hin, by rw [iN_len]; exact h65, L, rfl, hx, rfl⟩), hb⟩
    · have HA := hid (show SwA R (.returned (.tuple #[.int .i64 0, .int .i64 1])) from .inr (.inl ⟨hin, by omega, rfl⟩))
      have hI : (65536 : Int) < (R.length : Int) := by omega
      obtain ⟨ao, cap, rfl⟩ := hr.len0
      rw [hin] at HAb
      clear hr hin h65
      go_enter Try.func18, Try.ntmps18
      go_wp2_with fail
      refine Calls.mono HAb.out ?_
      rintro e w1 ⟨rfl, rfl⟩
      clear HAb
      go_wp2
      go_ret2
      exact ⟨HA.out, Below.refl _ _⟩
  · have hin : inB R 16 = false := by simpa using hin
    have HA := hid (show SwA R (.returned (.tuple #[.int .i64 0, .int .i64 2])) from .inl ⟨hin, rfl⟩)
    obtain ⟨ao, cap, rfl⟩ := hr.len0
    rw [hin] at HAb
    clear hr hin
    go_enter Try.func18, Try.ntmps18
    go_wp2_with fail
    refine Calls.mono HAb.out ?_
    rintro e w1 ⟨rfl, rfl⟩
    clear HAb
    go_wp2
    go_ret2
    exact ⟨HA.out, Below.refl _ _⟩
/-- an array of ints in block g -/
def RowA (w : World) (g : Nat) (L : List Int) : Prop := w.heap[g]? = some (.cells (ic L).toArray 80 (0, 0))
theorem RowA.cell {w : World} {g : Nat} {L : List Int} (h : RowA w g L) (j : Nat) (hj : j < L.length) : w.cell? ⟨g, j, none⟩ = some (.int .i64 (L.getD j 0)) := by
  rw [cell_of_row w g j _ _ _ h, List.getD_eq_getElem?_getD, List.getElem?_eq_getElem hj]
  simp [ic, hj]
theorem RowA.frozen {w : World} {g : Nat} {L : List Int} (h : RowA w g L) (j : Nat) : w.frozen? ⟨g, j, none⟩ = false := by
  unfold RowA at h
  simp [World.frozen?, h]
theorem RowA.put {w : World} {g : Nat} {L : List Int} (h : RowA w g L) (j : Nat) (x : Int) : RowA (w.setCell ⟨g, j, none⟩ (.int .i64 x)) g (L.set j x) := by
  have := heap_setCell_same w g j _ _ (.int .i64 x) h
  unfold RowA
  rw [this, ← ic_set]
  simp
set_option maxHeartbeats 2000000 in
theorem switches7_any (v : Value) (R : List Int) (w : World) (hr : RI w v R) (hl : R.length ≤ 9223372036854775807) :
    Calls Try.prog 25 #[v] w fun e w' => SwA R e ∧ Below w.heap.size w w' := by
  have HAb := hid (numbers7_any v R w hr hl)
  by_cases hin : inB R 16 = true
  · rw [hin] at HAb
    by_cases h65 : R.length ≤ 65536
    · obtain ⟨L, rfl, hx⟩ := nat_list hin
      have HA := hid (show SwA (iN L) (.returned (.tuple #[.int .i64 (cS L L.length : Int), .int .i64 0])) from .inr (.inr ⟨hin, h65, L, rfl, hx, rfl⟩))
      rw [iN_len] at h65
      obtain ⟨ao, cap, rfl, hcc, hn0, hcell⟩ := hr
      rw [iN_len] at hcc
      have HC := hid (show ∀ j (hj : j < L.length), ∃ g off, ao = some ⟨g, off, none⟩ ∧ w.cell? ⟨g, off + j, none⟩ = some (.int .i64 ((L.getD j 0 : Nat) : Int)) from fun j hj => by
        obtain ⟨g, off, e, c⟩ := hcell j (by rw [iN_len]; exact hj)
        rw [iN_at L j _ hj, ← gN L j hj] at c
        exact ⟨g, off, e, c⟩)
      have HX := hid (show ∀ j, j < L.length → L.getD j 0 < 16 from fun j hj => by rw [gN L j hj]; exact hx _ (List.getElem_mem _))
      rw [iN_len] at HAb ⊢
      have h65I : ¬ (65536 : Int) < (L.length : Int) := by omega
      clear hcell hn0 hx hin hl
      go_enter Try.func25, Try.ntmps25
      go_wp2_with fail
      refine Calls.mono HAb.out ?_
      rintro e w1 ⟨rfl, rfl⟩
      clear HAb
      go_wp2_with fail
      obtain ⟨W, hW⟩ : ∃ W, w1.alloc (.cells #[.int .i64 0, .int .i64 0, .int .i64 0, .int .i64 0, .int .i64 0, .int .i64 0, .int .i64 0, .int .i64 0, .int .i64 0, .int .i64 0, .int .i64 0, .int .i64 0, .int .i64 0, .int .i64 0, .int .i64 0, .int .i64 0] 80) = W := ⟨_, rfl⟩
      rw [hW]
      have HB := hid (show Below w1.heap.size w1 W by rw [← hW]; exact (Below.refl _ _).alloc (Nat.le_refl _) _)
      have HRo := hid (show RowA W w1.heap.size (List.replicate 16 0) by rw [← hW]; exact heap_alloc_new w1 _)
      clear hW
      generalize hgg : w1.heap.size = g at *
      go_loopw [4, 6] (fun vn vi wx => ∃ (k n : Nat) (T : List Int), k ≤ L.length ∧ vi = .int .i64 ((k : Int) - 1) ∧ vn = .int .i64 (n : Int) ∧ n + cS L k = cS L L.length ∧ T.length = 16 ∧ (∀ h, h < 16 → T.getD h 0 = (((L.drop k).count h : Nat) : Int)) ∧ RowA wx g T ∧ Below g w1 wx) (fun _ vi _ => (intOf vi + 1).toNat)
      case atStart => exact ⟨L.length, 0, _, Nat.le_refl _, rfl, rfl, Nat.zero_add _, by simp, fun h hh => by rw [List.drop_length, List.getD_eq_getElem?_getD, List.getElem?_replicate, if_pos hh]; rfl, HRo.out, HB.out⟩
      case round =>
        obtain ⟨k, n, T, hk, rfl, rfl, hn, hT, hTc, hro, hB⟩ := hrel
        have HRo := hid hro
        have HB := hid hB
        have HN := hid hn
        have HTc := hid hTc
        have hnk : n ≤ 65536 := by have := cS_le L L.length; omega
        clear hn hTc hro hB
        by_cases h : 2 ≤ k
        · obtain ⟨m, rfl⟩ : ∃ m, k = m + 1 := ⟨k - 1, by omega⟩
          obtain ⟨j, hjm⟩ : ∃ j, m - 1 = j := ⟨_, rfl⟩
          have hkI : ((m + 1 : Nat) : Int) - 1 = (m : Int) := by omega
          rw [hkI]
          have hgt : (0 : Int) < (m : Int) := by omega
          have hj2 : (m : Int) < (L.length : Int) := by omega
          have hj1 : (j : Int) < (L.length : Int) := by omega
          have hjj : (m : Int) - 1 = (j : Int) := by omega
          have hjw : IntKind.i64.wrap ((m : Int) - 1) = (j : Int) := by rw [IntKind.wrap_i64]; omega
          have hjw2 : IntKind.i64.wrap (j : Int) = (j : Int) := by rw [IntKind.wrap_i64]; omega
          obtain ⟨g1, o1, hao, c1⟩ := HC.out m (by omega)
          obtain ⟨g2, o2, hao2, c2⟩ := HC.out j (by omega)
          rw [hao] at hao2
          injection hao2 with hao2
          injection hao2 with e1 e2
          subst e1 e2 hao
          have hx := HX.out m (by omega)
          have hy := HX.out j (by omega)
          have hlt1 : g1 < g := by have := cell_ltB c1; rw [hgg] at this; exact this
          have d1 := below_cells (hgg ▸ HB.out) _ _ c1
          have HD := hid (fun h => drop_count L m h (by omega))
          have HCb := hid (show cS L (m + 1) = if cb L m then cS L m + 1 else cS L m from rfl)
          have HCd := hid (show cb L m = (decide (L.getD j 0 ≠ L.getD m 0) && decide (0 < (L.drop m).count (L.getD j 0))) by unfold cb; rw [decide_eq_true (show 1 ≤ m by omega), Bool.true_and, hjm])
          have t0 := HRo.out.cell (L.getD m 0) (by rw [hT]; exact hx)
          have f0 := HRo.out.frozen (L.getD m 0)
          have htb : 0 ≤ T.getD (L.getD m 0) 0 ∧ T.getD (L.getD m 0) 0 ≤ 65536 := by
            rw [HTc.out _ hx]
            have : (L.drop (m + 1)).count (L.getD m 0) ≤ L.length := Nat.le_trans List.count_le_length (by rw [List.length_drop]; omega)
            omega
          have HT2 := hid (show ∀ h, h < 16 → (T.set (L.getD m 0) (T.getD (L.getD m 0) 0 + 1)).getD h 0 = (((L.drop m).count h : Nat) : Int) from fun h hh => by
            rw [getD_set0, hT, HTc.out _ hx, HTc.out _ hh, HD.out h]
            by_cases e : L.getD m 0 = h
            · subst e
              rw [if_pos ⟨rfl, hx⟩, if_pos rfl]
              omega
            · rw [if_neg (fun c => e c.1), if_neg e]
              omega)
          have HT3 := hid (show (T.set (L.getD m 0) (T.getD (L.getD m 0) 0 + 1)).length = 16 by rw [List.length_set]; exact hT)
          obtain ⟨W', hW'⟩ : ∃ W', wr.setCell ⟨g, L.getD m 0, none⟩ (.int .i64 (T.getD (L.getD m 0) 0 + 1)) = W' := ⟨_, rfl⟩
          have HPu := hid (show RowA W' g (T.set (L.getD m 0) (T.getD (L.getD m 0) 0 + 1)) by rw [← hW']; exact HRo.out.put _ _)
          have HB2 := hid (show Below g w1 W' by rw [← hW']; exact HB.out.setCell (Nat.le_refl _) _)
          have k1 := below_cells (hgg ▸ HB2.out) _ _ c1
          have k2 := below_cells (hgg ▸ HB2.out) _ _ c2
          have k3 := HPu.out.cell (L.getD j 0) (by rw [HT3.out]; exact hy)
          rw [HT2.out _ hy] at k3
          generalize hz : (L.drop m).count (L.getD j 0) = z at *
          generalize T.set (L.getD m 0) (T.getD (L.getD m 0) 0 + 1) = T2 at *
          generalize T.getD (L.getD m 0) 0 = t at *
          generalize L.getD m 0 = x at *
          generalize L.getD j 0 = y at *
          have hxI : (x : Int) < 16 := by omega
          have hyI : (y : Int) < 16 := by omega
          obtain ⟨htb0, htb1⟩ := htb
          have HJm := hid hjm
          clear c1 c2 hz hx hy HRo HB HTc HD hjm
          by_cases e1 : y = x
          · have hb : ((x : Int) == (y : Int)) = true := by simp [e1]
            have hne : ¬ ¬ (x : Int) = (y : Int) := by omega
            have HE := hid (show cb L m = false by rw [HCd.out, decide_eq_false (by simpa using e1)]; rfl)
            clear HCd e1
            go_wp2
            go_quiet (fail)
            go_wp2
            go_roundw
            case rel => exact ⟨m, n, T2, by omega, by first | rfl | go_num, rfl, by have := HCb.out; rw [HE.out] at this; have := HN.out; simp at *; omega, HT3.out, HT2.out, HPu.out, below_drewN HB2.out nq⟩
            case measure => simp [intOf]; omega
          · have hb : ((x : Int) == (y : Int)) = false := beq_eq_false_iff_ne.2 (by omega)
            have hne : ¬ (x : Int) = (y : Int) := by omega
            by_cases e2 : 0 < z
            · have hzI : (0 : Int) < (z : Int) := by omega
              have hdz : decide (0 < z) = true := decide_eq_true e2
              have HE := hid (show cb L m = true by rw [HCd.out, decide_eq_true (show y ≠ x from e1), decide_eq_true e2]; rfl)
              clear HCd e1 e2
              go_wp2
              go_quiet (fail)
              go_wp2
              go_roundw
              case rel => exact ⟨m, n + 1, T2, by omega, by first | rfl | go_num, by go_num, by have := HCb.out; rw [HE.out] at this; have := HN.out; simp at *; omega, HT3.out, HT2.out, HPu.out, below_drewN HB2.out nq⟩
              case measure => simp [intOf]; omega
            · have hzI : ¬ (0 : Int) < (z : Int) := by omega
              have hdz : decide (0 < z) = false := decide_eq_false e2
              have HE := hid (show cb L m = false by rw [HCd.out, decide_eq_false e2, Bool.and_false])
              clear HCd e1 e2
              go_wp2
              go_quiet (fail)
              go_wp2
              go_roundw
              case rel => exact ⟨m, n, T2, by omega, by first | rfl | go_num, rfl, by have := HCb.out; rw [HE.out] at this; have := HN.out; simp at *; omega, HT3.out, HT2.out, HPu.out, below_drewN HB2.out nq⟩
              case measure => simp [intOf]; omega
        · have hgt : ¬ (0 : Int) < (k : Int) - 1 := by omega
          have h0 : cS L k = 0 := by
            have : k = 0 ∨ k = 1 := by omega
            rcases this with rfl | rfl
            · rfl
            · rfl
          have hE : n = cS L L.length := by have := HN.out; omega
          subst hE
          generalize cS L L.length = c at *
          go_wp2
          go_ret2
          exact ⟨HA.out, hgg ▸ HB.out⟩
    · have HA := hid (show SwA R (.returned (.tuple #[.int .i64 0, .int .i64 1])) from .inr (.inl ⟨hin, by omega, rfl⟩))
      have hI : (65536 : Int) < (R.length : Int) := by omega
      obtain ⟨ao, cap, rfl⟩ := hr.len0
      clear hr hin h65
      go_enter Try.func25, Try.ntmps25
      go_wp2_with fail
      refine Calls.mono HAb.out ?_
      rintro e w1 ⟨rfl, rfl⟩
      clear HAb
      go_wp2
      go_ret2
      exact ⟨HA.out, Below.refl _ _⟩
  · have hin : inB R 16 = false := by simpa using hin
    have HA := hid (show SwA R (.returned (.tuple #[.int .i64 0, .int .i64 2])) from .inl ⟨hin, rfl⟩)
    obtain ⟨ao, cap, rfl⟩ := hr.len0
    rw [hin] at HAb
    clear hr hin
    go_enter Try.func25, Try.ntmps25
    go_wp2_with fail
    refine Calls.mono HAb.out ?_
    rintro e w1 ⟨rfl, rfl⟩
    clear HAb
    go_wp2
    go_ret2
    exact ⟨HA.out, Below.refl _ _⟩
end Go.Proofs.Ytaiccmbhdgecgaa
