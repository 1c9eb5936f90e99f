/-
  Least: what it answers.
-/
import Derived.Maps.AppendAt
import Derived.Test.YtaiccmbhdgecgaaLe3
namespace Go.Proofs.Ytaiccmbhdgecgaa
open Go.RowKit
set_option maxRecDepth 100000

def pOk (p : Pr) : Bool := inB [p.1, p.2] 16
/-- Least's error -/
def leE (R : List Int) (P : List Pr) : Int := if 512 < R.length ∨ 256 < P.length then 1 else if inB R 16 && P.all pOk then 0 else 2
/-- again and again the lowest that can come first -/
def le (B : List Nat) : Nat → List Int → List Int
  | 0, _ => []
  | m + 1, R => R.getD (lw R B R.length) 0 :: le B m (R.eraseIdx (lw R B R.length))
def leL (R : List Int) (P : List Pr) : List Int := if leE R P = 0 then le (bm P P.length) R.length R else []
theorem PL.below {w w' : World} {v : Value} {P : List Pr} (h : PL w v P) (k : Below w.heap.size w w') : PL w' v P := by
  obtain ⟨ao, c, hv, hc, hn, hr⟩ := h
  refine ⟨ao, c, hv, hc, hn, fun i hi => ?_⟩
  obtain ⟨hb, g, off, ha, p0, p1⟩ := hr i hi
  exact ⟨hb, g, off, ha, below_cells k _ _ p0, below_cells k _ _ p1⟩
theorem le_pos (B : List Nat) (R : List Int) (h : 0 < R.length) : le B R.length R = R.getD (lw R B R.length) 0 :: le B (R.length - 1) (R.eraseIdx (lw R B R.length)) := by
  have h2 : le B ((R.length - 1) + 1) R = R.getD (lw R B R.length) 0 :: le B (R.length - 1) (R.eraseIdx (lw R B R.length)) := rfl
  rw [show R.length - 1 + 1 = R.length by omega] at h2
  exact h2
def slen : Value → Nat
  | .slice _ n _ => n
  | _ => 0
theorem le_one_new (w : World) (x : Int) : ∀ j u, ([.int .i64 x] : List Value)[j]? = some u → (w.alloc (.cells #[.int .i64 x] 3)).cell? ((⟨w.heap.size, 0, none⟩ : Addr).add j) = some u := by
  intro j u hj
  match j, hj with
  | 0, hj => simp at hj; subst hj; simp [Addr.add]
  | n + 1, hj => simp at hj
theorem le_one (x : Int) : ∀ u ∈ ([.int .i64 x] : List Value), u.oneCell' = true := by
  intro u hu
  simp at hu
  subst hu
  rfl
theorem OI.own_lt {w : World} {base : Nat} {v : Value} {R : List Int} (h : OI w base v R) : ∀ g, v.ownBlock = some g → base ≤ g ∧ g < w.heap.size := fun g hg => World.ownsRow.lt h g hg
theorem OI.keep {w w' : World} {base : Nat} {v : Value} {R : List Int} {row : Option Nat} (h : OI w base v R) (hg : w.grownBy w' row) (hne : ∀ g, v.ownBlock = some g → row ≠ some g) : OI w' base v R := by
  refine World.ownsRow.kept h hg ?_
  cases hv : v.ownBlock with
  | none => exact .inl rfl
  | some g => exact .inr (fun e => hne g hv e.symm)
set_option maxHeartbeats 4000000 in
theorem least_any (v vp : Value) (R : List Int) (P : List Pr) (w : World) (hr : RI w v R) (hp : PL w vp P) (hRl : R.length ≤ 9223372036854775807) (hPl : P.length ≤ 9223372036854775807) :
    Calls Try.prog 19 #[v, vp] w fun e w' => (∃ v', e = .returned (.tuple #[v', .int .i64 (leE R P)]) ∧ OI w' w.heap.size v' (leL R P)) ∧ Below w.heap.size w w' := by
  have HR := hid hr
  have HP := hid hp
  have HA := hid (areBelow_any v R 16 w hr hRl)
  obtain ⟨ao, cap, hv⟩ := hr.len0
  obtain ⟨aop, capp, hvp, hcp, _, hcell⟩ := hp
  have HC := hid hcell
  have hv0 := hv
  have hvp0 := hvp
  subst hv hvp
  clear hcell hr hv0 hvp0
  go_enter Try.func19, Try.ntmps19
  by_cases hlen : 512 < R.length ∨ 256 < P.length
  · have HE := hid (show leE R P = 1 by unfold leE; rw [if_pos hlen])
    have HL := hid (show leL R P = [] by unfold leL; rw [HE.out]; rfl)
    have DD : (512 : Int) < (R.length : Int) ∨ (¬ (512 : Int) < (R.length : Int) ∧ (256 : Int) < (P.length : Int)) := by omega
    clear hlen HA
    rcases DD with h1 | ⟨h1, h2⟩
    all_goals
      go_wp2
      go_ret2
      rw [HE.out, HL.out]
      exact ⟨⟨_, rfl, OI.nil _ _⟩, Below.refl _ _⟩
  have h1 : ¬ (512 : Int) < (R.length : Int) := by omega
  have h2 : ¬ (256 : Int) < (P.length : Int) := by omega
  have hR512 : R.length ≤ 512 := by omega
  have hP256 : P.length ≤ 256 := by omega
  have HE0 := hid (show leE R P = if inB R 16 && P.all pOk then 0 else 2 by unfold leE; rw [if_neg hlen])
  clear hlen
  cases hin : inB R 16 with
  | false =>
    rw [hin] at HA HE0
    have HE := hid (show leE R P = 2 by rw [HE0.out]; rfl)
    have HL := hid (show leL R P = [] by unfold leL; rw [HE.out]; rfl)
    go_wp2_with (go_at_call 37; refine HA.out.mono ?_; rintro e w3 ⟨rfl, rfl⟩)
    go_ret2
    rw [HE.out, HL.out]
    exact ⟨⟨_, rfl, OI.nil _ _⟩, Below.refl _ _⟩
  | true =>
  rw [hin] at HA HE0
  have HIN := hid ((inB_iff R 16).1 hin)
  clear hin
  go_wp2_with (go_at_call 37; refine HA.out.mono ?_; rintro e w3 ⟨rfl, rfl⟩)
  go_loopw [7, 25] (fun _ vi wx => ∃ j : Nat, j ≤ P.length ∧ vi = .int .i64 (j : Int) ∧ (P.take j).all pOk = true ∧ Below w3.heap.size w3 wx) (fun _ vi _ => P.length - (intOf vi).toNat)
  case atStart => exact ⟨0, Nat.zero_le _, rfl, rfl, Below.refl _ _⟩
  case round =>
    obtain ⟨j, hj, rfl, hall, hB⟩ := hrel
    have HB := hid hB
    have HAL := hid hall
    have hws := hB.size
    clear hB hall HA
    by_cases h : j < P.length
    · as_aux_lemma =>
      have hI : (j : Int) < (P.length : Int) := by omega
      obtain ⟨_, g, off, hao, p0, p1⟩ := HC.out j h
      subst hao
      have p0 := below_cells HB.out _ _ p0
      have p1 := below_cells HB.out _ _ p1
      have HTk := hid (show P.take (j + 1) = P.take j ++ [P[j]] by rw [List.take_add_one, List.getElem?_eq_getElem h]; rfl)
      have HMem := hid (List.getElem_mem h)
      obtain ⟨y, hy⟩ : ∃ y, P[j] = y := ⟨_, rfl⟩
      rw [hy] at p0 p1 HTk HMem
      obtain ⟨A, B⟩ := y
      simp only at p0 p1
      clear hy
      have HAB := hid (areBelow_any (.slice (some ⟨wr.heap.size + 1, 0, none⟩) 2 2) [A, B] 16 ((wr.alloc (.cells #[.int .i64 A, .int .i64 B] 70)).alloc (.cells #[.int .i64 A, .int .i64 B] 3)) (by
        have := RI.block (w := (wr.alloc (.cells #[.int .i64 A, .int .i64 B] 70)).alloc (.cells #[.int .i64 A, .int .i64 B] 3)) (g := wr.heap.size + 1) (c := 2) (R := [A, B]) (by
          have := heap_alloc_new (wr.alloc (.cells #[.int .i64 A, .int .i64 B] 70)) (.cells #[.int .i64 A, .int .i64 B] 3)
          rw [World.size_alloc] at this
          exact this) (by simp)
        exact this) (by simp))
      have HB2 := hid (fun o o' => (HB.out.alloc hws o).alloc (by simp; omega) o')
      cases hok : inB [A, B] 16 with
      | false =>
        rw [hok] at HAB
        have HE := hid (show leE R P = 2 by
          rw [HE0.out]
          have : P.all pOk = false := by
            rw [List.all_eq_false]
            exact ⟨(A, B), HMem.out, by unfold pOk; rw [hok]; simp⟩
          rw [this]
          rfl)
        have HL := hid (show leL R P = [] by unfold leL; rw [HE.out]; rfl)
        go_wp2_with (go_at_call 37; refine HAB.out.mono ?_; rintro e w4 ⟨rfl, rfl⟩)
        go_ret2
        rw [HE.out, HL.out]
        exact ⟨⟨_, rfl, OI.nil _ _⟩, HB2.out _ _⟩
      | true =>
        rw [hok] at HAB
        have HA2 := hid (show (P.take (j + 1)).all pOk = true by rw [HTk.out, List.all_append, HAL.out]; simp [pOk, hok])
        go_wp2_with (go_at_call 37; refine HAB.out.mono ?_; rintro e w4 ⟨rfl, rfl⟩)
        go_roundw
        case rel => exact ⟨j + 1, by omega, by go_num, HA2.out, HB2.out _ _⟩
        case measure => simp [intOf]; omega
    · have hI : ¬ (j : Int) < (P.length : Int) := by omega
      obtain rfl : j = P.length := by omega
      rw [List.take_length] at HAL
      have HE := hid (show leE R P = 0 by rw [HE0.out, HAL.out]; rfl)
      have HL := hid (show leL R P = le (bm P P.length) R.length R by unfold leL; rw [if_pos HE.out])
      have HBar := hid (barred_any _ P wr (HP.out.below HB.out) hP256 (fun i hi => by
        have h3 := List.all_eq_true.1 HAL.out _ (List.getElem_mem hi)
        unfold pOk at h3
        have h4 := (inB_iff _ _).1 h3
        have a0 := h4 0 (by simp)
        have a1 := h4 1 (by simp)
        exact ⟨a0.1, a0.2, a1.1, a1.2⟩))
      obtain ⟨m0, m1, m2, m3, m4, m5, m6, m7, m8, m9, m10, m11, m12, m13, m14, m15, hm⟩ : ∃ m0 m1 m2 m3 m4 m5 m6 m7 m8 m9 m10 m11 m12 m13 m14 m15 : Nat, bm P P.length = [m0, m1, m2, m3, m4, m5, m6, m7, m8, m9, m10, m11, m12, m13, m14, m15] := by
        have hl := bm_len P P.length
        match hL : bm P P.length, hl with
        | [m0, m1, m2, m3, m4, m5, m6, m7, m8, m9, m10, m11, m12, m13, m14, m15], _ => exact ⟨m0, m1, m2, m3, m4, m5, m6, m7, m8, m9, m10, m11, m12, m13, m14, m15, rfl⟩
      have HM := hid hm
      have e1 : (uc (bm P P.length)).toArray = #[.int .u64 (m0 : Int), .int .u64 (m1 : Int), .int .u64 (m2 : Int), .int .u64 (m3 : Int), .int .u64 (m4 : Int), .int .u64 (m5 : Int), .int .u64 (m6 : Int), .int .u64 (m7 : Int), .int .u64 (m8 : Int), .int .u64 (m9 : Int), .int .u64 (m10 : Int), .int .u64 (m11 : Int), .int .u64 (m12 : Int), .int .u64 (m13 : Int), .int .u64 (m14 : Int), .int .u64 (m15 : Int)] := by rw [hm]; rfl
      rw [e1] at HBar
      clear e1 hm h1 h2
      go_wp2_with fail
      refine Calls.mono HBar.out ?_
      rintro e w4 ⟨rfl, hB4⟩
      have B4 := hid (HB.out.trans (hB4.mono hws))
      clear hB4 HBar
      have HCl := hid (fun W' hr' => le_clone_any (.slice ao R.length cap) R W' hr' (by omega))
      clear HC HE0
      go_wp2_with fail
      obtain ⟨W, hW⟩ : ∃ W, w4.alloc (.cells #[.int .u64 (m0 : Int), .int .u64 (m1 : Int), .int .u64 (m2 : Int), .int .u64 (m3 : Int), .int .u64 (m4 : Int), .int .u64 (m5 : Int), .int .u64 (m6 : Int), .int .u64 (m7 : Int), .int .u64 (m8 : Int), .int .u64 (m9 : Int), .int .u64 (m10 : Int), .int .u64 (m11 : Int), .int .u64 (m12 : Int), .int .u64 (m13 : Int), .int .u64 (m14 : Int), .int .u64 (m15 : Int)] 72) = W := ⟨_, rfl⟩
      rw [hW]
      have hWs : W.heap.size = w4.heap.size + 1 := by rw [← hW, World.size_alloc]
      have hw4 := B4.out.size
      have BW := hid (show Below w3.heap.size w3 W by rw [← hW]; exact B4.out.alloc hw4 _)
      have HMk := hid (show ∀ j u, (#[.int .u64 (m0 : Int), .int .u64 (m1 : Int), .int .u64 (m2 : Int), .int .u64 (m3 : Int), .int .u64 (m4 : Int), .int .u64 (m5 : Int), .int .u64 (m6 : Int), .int .u64 (m7 : Int), .int .u64 (m8 : Int), .int .u64 (m9 : Int), .int .u64 (m10 : Int), .int .u64 (m11 : Int), .int .u64 (m12 : Int), .int .u64 (m13 : Int), .int .u64 (m14 : Int), .int .u64 (m15 : Int)] : Array Value)[j]? = some u → W.cell? ⟨w4.heap.size, j, none⟩ = some u from fun j u hu => by
        rw [← hW, cell_of_row _ w4.heap.size j _ _ _ (heap_alloc_new w4 _)]
        exact hu)
      clear hW
      refine Calls.mono (HCl.out _ (HR.out.below BW.out)) ?_
      rintro e w5 ⟨⟨vr, rfl, ho5⟩, hB5⟩
      have HB5 := hid hB5
      have HO5 := hid ho5
      clear hB5 ho5 HCl
      go_wp2_with fail
      go_loopw [9, 10, 11] (fun v9 v10 _ wx => ∃ Rr A, OI wx W.heap.size v9 Rr ∧ OI wx W.heap.size v10 A ∧ (∀ g, v9.ownBlock = some g → v10.ownBlock ≠ some g) ∧ Below W.heap.size W wx ∧ (∀ i (h : i < Rr.length), 0 ≤ Rr[i] ∧ Rr[i] < 16) ∧ A.length + Rr.length = R.length ∧ A ++ le (bm P P.length) Rr.length Rr = le (bm P P.length) R.length R) (fun v9 _ _ _ => slen v9)
      case atStart => exact ⟨R, [], HO5.out, OI.nil _ _, (fun _ _ h => by cases h), HB5.out, HIN.out, Nat.zero_add _, rfl⟩
      case round =>
        obtain ⟨Rr, A, ho, hoA, hap, hBr, hIn, hLen, hEq⟩ := hrel
        have HOr := hid ho
        have HOA := hid hoA
        have HAp := hid hap
        have HBr := hid hBr
        have HInr := hid hIn
        have HEq := hid hEq
        have hwr := hBr.size
        clear hap hBr hIn hEq HB5 HO5 HIN HB HAL HR HP B4 ho hoA
        by_cases h0 : 0 < Rr.length
        · as_aux_lemma =>
          have h0I : (0 : Int) < (Rr.length : Int) := by omega
          obtain ⟨g, c, hv9, hc9, hm9, hcl9⟩ := HOr.out.form h0
          have HCl := hid hcl9
          subst hv9
          have hB16 : ([m0, m1, m2, m3, m4, m5, m6, m7, m8, m9, m10, m11, m12, m13, m14, m15] : List Nat).length = 16 := rfl
          have HLf := hid (lowestFree_any _ Rr [m0, m1, m2, m3, m4, m5, m6, m7, m8, m9, m10, m11, m12, m13, m14, m15] wr HOr.out.reads (by omega) HInr.out rfl (fun b hb => bm_lt P P.length b (by rw [HM.out]; exact hb)))
          have e2 : (uc [m0, m1, m2, m3, m4, m5, m6, m7, m8, m9, m10, m11, m12, m13, m14, m15]).toArray = #[.int .u64 (m0 : Int), .int .u64 (m1 : Int), .int .u64 (m2 : Int), .int .u64 (m3 : Int), .int .u64 (m4 : Int), .int .u64 (m5 : Int), .int .u64 (m6 : Int), .int .u64 (m7 : Int), .int .u64 (m8 : Int), .int .u64 (m9 : Int), .int .u64 (m10 : Int), .int .u64 (m11 : Int), .int .u64 (m12 : Int), .int .u64 (m13 : Int), .int .u64 (m14 : Int), .int .u64 (m15 : Int)] := rfl
          rw [e2] at HLf
          rw [HM.out] at HEq
          have hkl := lw_lt Rr [m0, m1, m2, m3, m4, m5, m6, m7, m8, m9, m10, m11, m12, m13, m14, m15] Rr.length h0
          have HLe := hid (show le [m0, m1, m2, m3, m4, m5, m6, m7, m8, m9, m10, m11, m12, m13, m14, m15] Rr.length Rr = Rr.getD (lw Rr [m0, m1, m2, m3, m4, m5, m6, m7, m8, m9, m10, m11, m12, m13, m14, m15] Rr.length) 0 :: le [m0, m1, m2, m3, m4, m5, m6, m7, m8, m9, m10, m11, m12, m13, m14, m15] (Rr.length - 1) (Rr.eraseIdx (lw Rr [m0, m1, m2, m3, m4, m5, m6, m7, m8, m9, m10, m11, m12, m13, m14, m15] Rr.length)) from le_pos _ Rr h0)
          obtain ⟨k, hk⟩ : ∃ k, lw Rr [m0, m1, m2, m3, m4, m5, m6, m7, m8, m9, m10, m11, m12, m13, m14, m15] Rr.length = k := ⟨_, rfl⟩
          rw [hk] at HLf hkl HLe
          have hkI : (k : Int) < (Rr.length : Int) := by omega
          have c0 : wr.cell? ⟨w4.heap.size, 0, none⟩ = some (.int .u64 (m0 : Int)) := below_cells HBr.out _ _ (HMk.out 0 _ rfl)
          have c1 : wr.cell? ⟨w4.heap.size, 1, none⟩ = some (.int .u64 (m1 : Int)) := below_cells HBr.out _ _ (HMk.out 1 _ rfl)
          have c2 : wr.cell? ⟨w4.heap.size, 2, none⟩ = some (.int .u64 (m2 : Int)) := below_cells HBr.out _ _ (HMk.out 2 _ rfl)
          have c3 : wr.cell? ⟨w4.heap.size, 3, none⟩ = some (.int .u64 (m3 : Int)) := below_cells HBr.out _ _ (HMk.out 3 _ rfl)
          have c4 : wr.cell? ⟨w4.heap.size, 4, none⟩ = some (.int .u64 (m4 : Int)) := below_cells HBr.out _ _ (HMk.out 4 _ rfl)
          have c5 : wr.cell? ⟨w4.heap.size, 5, none⟩ = some (.int .u64 (m5 : Int)) := below_cells HBr.out _ _ (HMk.out 5 _ rfl)
          have c6 : wr.cell? ⟨w4.heap.size, 6, none⟩ = some (.int .u64 (m6 : Int)) := below_cells HBr.out _ _ (HMk.out 6 _ rfl)
          have c7 : wr.cell? ⟨w4.heap.size, 7, none⟩ = some (.int .u64 (m7 : Int)) := below_cells HBr.out _ _ (HMk.out 7 _ rfl)
          have c8 : wr.cell? ⟨w4.heap.size, 8, none⟩ = some (.int .u64 (m8 : Int)) := below_cells HBr.out _ _ (HMk.out 8 _ rfl)
          have c9 : wr.cell? ⟨w4.heap.size, 9, none⟩ = some (.int .u64 (m9 : Int)) := below_cells HBr.out _ _ (HMk.out 9 _ rfl)
          have c10 : wr.cell? ⟨w4.heap.size, 10, none⟩ = some (.int .u64 (m10 : Int)) := below_cells HBr.out _ _ (HMk.out 10 _ rfl)
          have c11 : wr.cell? ⟨w4.heap.size, 11, none⟩ = some (.int .u64 (m11 : Int)) := below_cells HBr.out _ _ (HMk.out 11 _ rfl)
          have c12 : wr.cell? ⟨w4.heap.size, 12, none⟩ = some (.int .u64 (m12 : Int)) := below_cells HBr.out _ _ (HMk.out 12 _ rfl)
          have c13 : wr.cell? ⟨w4.heap.size, 13, none⟩ = some (.int .u64 (m13 : Int)) := below_cells HBr.out _ _ (HMk.out 13 _ rfl)
          have c14 : wr.cell? ⟨w4.heap.size, 14, none⟩ = some (.int .u64 (m14 : Int)) := below_cells HBr.out _ _ (HMk.out 14 _ rfl)
          have c15 : wr.cell? ⟨w4.heap.size, 15, none⟩ = some (.int .u64 (m15 : Int)) := below_cells HBr.out _ _ (HMk.out 15 _ rfl)
          clear e2 hcl9 hB16 hk HMk
          go_wp2_with fail
          refine Calls.mono HLf.out ?_
          rintro e w6 ⟨rfl, hB6⟩
          have HB6 := hid hB6
          have hz6 := hB6.size
          have HO6 := hid (HOr.out.below hB6)
          have HOA6 := hid (HOA.out.below hB6)
          have ck : w6.cell? ⟨g, k, none⟩ = some (.int .i64 Rr[k]) := below_cells hB6 _ _ (HCl.out k hkl)
          obtain ⟨i0, hi0, hz0, hz1, hz2⟩ := info_parts intinfo
          have HI := hid hi0
          clear hB6 HLf hi0 c0 c1 c2 c3 c4 c5 c6 c7 c8 c9 c10 c11 c12 c13 c14 c15 HCl
          go_wp2_with (at_builtin; refine wpList_append_own_at _ rfl _ _ 22 rfl W.heap.size 3 i0 (.int .i64 0) 1 8 Try.underlying22 HI.out hz0 hz1 hz2 rfl (by decide) _ _ _ rfl (HOA6.out.alloc _) ⟨w6.heap.size, 0, none⟩ 1 1 [.int .i64 Rr[k]] rfl rfl (le_one_new _ _) (le_one _) ?m1 ?m2 ?m3 ?hnext)
          case m1 => unfold maxLen; omega
          case m2 => omega
          case m3 => simp; omega
          case hnext =>
            intro vA w7 hown' hgrow _ hloc
            have hoi : OI w7 W.heap.size vA (A ++ [Rr[k]]) := by
              unfold OI
              rw [ic_app, List.length_append, hWs]
              exact hown'
            have HO1 := hid (HO6.out.alloc (.cells #[.int .i64 Rr[k]] 3))
            have HO7 := hid (HO1.out.keep hgrow (fun g' hg' e => HAp.out g' hg' e))
            have hlt := HO6.out.own_lt g rfl
            have HApA := hid (show vA.ownBlock ≠ some g from fun e => by
              rcases hloc with e1 | e1
              · exact HAp.out g rfl (e1.symm.trans e)
              · rw [e] at e1
                have : g = w6.heap.size + 1 := by simpa using e1
                omega)
            have HB7 := hid ((((HBr.out.trans (HB6.out.mono hwr)).alloc (by omega) (.cells #[.int .i64 Rr[k]] 3))).grown hgrow (by simp; omega) (fun k' hk' => HOA6.out.block_ge k' hk'))
            have HOV := hid hoi
            have HDel := hid (delete_any _ Rr k W.heap.size w7 HO7.out hkl (by omega))
            clear hoi hown' hgrow hloc hlt HO1 HO6 HOA6 HAp HOA HOr ck
            go_wp2_with fail
            refine Calls.mono HDel.out ?_
            rintro e w8 ⟨⟨v8, rfl, ho8, hb8⟩, hg8⟩
            have HO8 := hid ho8
            have HOV8 := hid (HOV.out.keep hg8 (fun g' hg' e => HApA.out (by rw [hg']; exact e.symm)))
            have HB8 := hid (HB7.out.grown hg8 (by have := HB7.out.size; omega) (fun k' hk' => HO7.out.block_ge k' hk'))
            have HAp8 := hid (show ∀ g', v8.ownBlock = some g' → vA.ownBlock ≠ some g' from fun g' h1 h2 => by
              rw [hb8] at h1
              have : g = g' := by simpa [Value.ownBlock] using h1
              subst this
              exact HApA.out h2)
            have hel : (Rr.eraseIdx k).length = Rr.length - 1 := List.length_eraseIdx_of_lt hkl
            have HIn8 := hid (show ∀ i (h : i < (Rr.eraseIdx k).length), 0 ≤ (Rr.eraseIdx k)[i] ∧ (Rr.eraseIdx k)[i] < 16 from fun i hi => by
              obtain ⟨q, hq, e⟩ := List.getElem_of_mem (List.mem_of_mem_eraseIdx (List.getElem_mem hi))
              rw [← e]
              exact HInr.out q hq)
            have HEq8 := hid (show (A ++ [Rr[k]]) ++ le [m0, m1, m2, m3, m4, m5, m6, m7, m8, m9, m10, m11, m12, m13, m14, m15] (Rr.eraseIdx k).length (Rr.eraseIdx k) = le [m0, m1, m2, m3, m4, m5, m6, m7, m8, m9, m10, m11, m12, m13, m14, m15] R.length R by
              rw [← HEq.out, HLe.out, hel, List.append_assoc]
              simp [hkl])
            have hsl : slen v8 = Rr.length - 1 := by
              obtain ⟨ao8, c8, e8⟩ := ho8.reads.len0
              rw [e8]
              exact hel
            clear hg8 ho8 hb8 HDel HB7 HOV HO7 HApA
            go_wp2_with fail
            go_roundw
            case rel => exact ⟨_, _, HO8.out, HOV8.out, HAp8.out, HB8.out, HIn8.out, by rw [List.length_append, hel]; simp; omega, by rw [HM.out]; exact HEq8.out⟩
            case measure => rw [hsl]; show _ < Rr.length; omega
        · have h0I : ¬ (0 : Int) < (Rr.length : Int) := by omega
          have hz : Rr = [] := List.eq_nil_of_length_eq_zero (by omega)
          obtain ⟨ao9, c9, hv9⟩ := HOr.out.reads.len0
          subst hv9
          have HF := hid (show OI wr w3.heap.size u10 (leL R P) by
            rw [HL.out, ← HEq.out, hz]
            show OI _ _ _ (A ++ [])
            rw [List.append_nil]
            exact HOA.out.mono BW.out.size)
          have HBf := hid (BW.out.trans (HBr.out.mono BW.out.size))
          clear hz HOr HOA HEq HM HMk
          go_wp2
          go_ret2
          rw [HE.out]
          exact ⟨⟨_, rfl, HF.out⟩, HBf.out⟩
end Go.Proofs.Ytaiccmbhdgecgaa
