/-
  Least: the document's.
-/
import Derived.Test.YtogbmldplgondaaLe4
import Derived.Test.YtogbmldplgondaaLe6
import Derived.Test.YtogbmldplgondaaLe7
import Derived.Deep.WholeRow
import Derived.Deep.QuietTactic
import Derived.BigQuiet
namespace Go.Proofs.Ytogbmldplgondaa
open Go.RowKit
set_option maxRecDepth 100000

theorem le_take {w : World} {g off c : Nat} {R : List Int} (h : RI w (.slice (some ⟨g, off, none⟩) R.length c) R) {k : Nat} (hk : k ≤ R.length) : RI w (.slice (some ⟨g, off, none⟩) k c) (R.take k) := by
  obtain ⟨ao, c', hv, hc, _, hr⟩ := h
  injection hv with h1 h2 h3
  subst h1 h3
  have hl : (R.take k).length = k := by rw [List.length_take]; omega
  refine ⟨_, c, by rw [hl], by omega, (fun e => by cases e), fun i hi => ?_⟩
  obtain ⟨g', off', ha, hcell⟩ := hr i (by omega)
  refine ⟨g', off', ha, ?_⟩
  rw [List.getElem_take]
  exact hcell
theorem le_drop {w : World} {g c : Nat} {R : List Int} (h : RI w (.slice (some ⟨g, 0, none⟩) R.length c) R) {k : Nat} (hk : k ≤ R.length) : RI w (.slice (if c = k then some ⟨g, 0, none⟩ else some ⟨g, k, none⟩) (R.length - k) (c - k)) (R.drop k) := by
  obtain ⟨ao, c', hv, hc, _, hr⟩ := h
  injection hv with h1 h2 h3
  subst h1 h3
  have hl : (R.drop k).length = R.length - k := List.length_drop
  refine ⟨_, c - k, by rw [hl], by omega, (fun e => by split at e <;> cases e), fun i hi => ?_⟩
  have hi' : i < R.length - k := by rw [← hl]; exact hi
  rw [if_neg (by omega)]
  obtain ⟨g', off', ha, hcell⟩ := hr (k + i) (by omega)
  injection ha with ha
  injection ha with e1 e2
  subst e1 e2
  refine ⟨g, k, rfl, ?_⟩
  rw [List.getElem_drop, ← hcell, Nat.zero_add]
attribute [local go_sem ↓] loadVar_t storeVar_t
set_option maxHeartbeats 4000000 in
theorem rleast_any (v vp : Value) (R : List Int) (P : List Pr) (w : World) (hr : RI w v R) (hp : PL w vp P) (hRl : R.length ≤ 9223372036854775807) (hPl : P.length ≤ 9223372036854775807) :
    Calls Try.prog 24 #[v, vp] w fun e w' => (∃ v', e = .returned (.tuple #[v', .int .i64 (leE R P)]) ∧ OI w' w.heap.size v' (leL R P)) ∧ Below w.heap.size w w' := by
  have HR := hid hr
  have HP := hid hp
  have HA := hid (numbers7_any v R w hr hRl)
  obtain ⟨ao, cap, hv⟩ := hr.len0
  obtain ⟨aop, capp, hvp, hcp, _, hcell⟩ := hp
  have HC := hid hcell
  have hv0 := hv
  have hvp0 := hvp
  subst hv hvp
  clear hcell hr hv0 hvp0
  go_enter Try.func24, Try.ntmps24
  by_cases hlen : 512 < R.length ∨ 256 < P.length
  · have HE := hid (show leE R P = 1 by unfold leE; rw [if_pos hlen])
    have HL := hid (show leL R P = [] by unfold leL; rw [HE.out]; rfl)
    have DD : (512 : Int) < (R.length : Int) ∨ (¬ (512 : Int) < (R.length : Int) ∧ (256 : Int) < (P.length : Int)) := by omega
    clear hlen HA
    rcases DD with h1 | ⟨h1, h2⟩
    all_goals
      go_wp2
      go_ret2
      rw [HE.out, HL.out]
      exact ⟨⟨_, rfl, OI.nil _ _⟩, Below.refl _ _⟩
  have h1 : ¬ (512 : Int) < (R.length : Int) := by omega
  have h2 : ¬ (256 : Int) < (P.length : Int) := by omega
  have hR512 : R.length ≤ 512 := by omega
  have hP256 : P.length ≤ 256 := by omega
  have HE0 := hid (show leE R P = if inB R 16 && P.all pOk then 0 else 2 by unfold leE; rw [if_neg hlen])
  clear hlen
  cases hin : inB R 16 with
  | false =>
    rw [hin] at HA HE0
    have HE := hid (show leE R P = 2 by rw [HE0.out]; rfl)
    have HL := hid (show leL R P = [] by unfold leL; rw [HE.out]; rfl)
    go_wp2_with (go_at_call 40; refine HA.out.mono ?_; rintro e w3 ⟨rfl, rfl⟩)
    go_ret2
    rw [HE.out, HL.out]
    exact ⟨⟨_, rfl, OI.nil _ _⟩, Below.refl _ _⟩
  | true =>
  rw [hin] at HA HE0
  have HIN := hid ((inB_iff R 16).1 hin)
  clear hin
  go_wp2_with (go_at_call 40; refine HA.out.mono ?_; rintro e w3 ⟨rfl, rfl⟩)
  go_loopw [6] (fun vi wx => ∃ j : Nat, j ≤ P.length ∧ vi = .int .i64 (j : Int) ∧ (P.take j).all pOk = true ∧ Below w3.heap.size w3 wx) (fun vi _ => P.length - (intOf vi).toNat)
  case atStart => exact ⟨0, Nat.zero_le _, rfl, rfl, Below.refl _ _⟩
  case round =>
    obtain ⟨j, hj, rfl, hall, hB⟩ := hrel
    have HB := hid hB
    have HAL := hid hall
    have hws := hB.size
    clear hB hall HA
    by_cases h : j < P.length
    · as_aux_lemma =>
      have hI : (j : Int) < (P.length : Int) := by omega
      obtain ⟨_, g, off, hao, p0, p1⟩ := HC.out j h
      subst hao
      have p0 := below_cells HB.out _ _ p0
      have p1 := below_cells HB.out _ _ p1
      have HTk := hid (show P.take (j + 1) = P.take j ++ [P[j]] by rw [List.take_add_one, List.getElem?_eq_getElem h]; rfl)
      have HMem := hid (List.getElem_mem h)
      obtain ⟨y, hy⟩ : ∃ y, P[j] = y := ⟨_, rfl⟩
      rw [hy] at p0 p1 HTk HMem
      obtain ⟨A, B⟩ := y
      simp only at p0 p1
      clear hy
      by_cases hok : inB [A, B] 16 = true
      · have HA2 := hid (show (P.take (j + 1)).all pOk = true by rw [HTk.out, List.all_append, HAL.out]; simp [pOk, hok])
        have hh := (inB_iff _ _).1 hok
        have a0 : ¬ A < 0 := by have := hh 0 (by simp); simp at this; omega
        have a1 : ¬ 16 ≤ A := by have := hh 0 (by simp); simp at this; omega
        have b0 : ¬ B < 0 := by have := hh 1 (by simp); simp at this; omega
        have b1 : ¬ 16 ≤ B := by have := hh 1 (by simp); simp at this; omega
        clear hh hok HTk HMem HAL
        go_wp2
        go_roundw
        case rel => exact ⟨j + 1, by omega, by go_num, HA2.out, HB.out⟩
        case measure => simp [intOf]; omega
      · have HE := hid (show leE R P = 2 by
          rw [HE0.out]
          have : P.all pOk = false := by
            rw [List.all_eq_false]
            exact ⟨(A, B), HMem.out, by unfold pOk; simpa using hok⟩
          rw [this]
          rfl)
        have HL := hid (show leL R P = [] by unfold leL; rw [HE.out]; rfl)
        have DD : A < 0 ∨ (¬ A < 0 ∧ 16 ≤ A) ∨ (¬ A < 0 ∧ ¬ 16 ≤ A ∧ B < 0) ∨ (¬ A < 0 ∧ ¬ 16 ≤ A ∧ ¬ B < 0 ∧ 16 ≤ B) := by
          by_cases a0 : A < 0
          · exact .inl a0
          by_cases a1 : 16 ≤ A
          · exact .inr (.inl ⟨a0, a1⟩)
          by_cases b0 : B < 0
          · exact .inr (.inr (.inl ⟨a0, a1, b0⟩))
          by_cases b1 : 16 ≤ B
          · exact .inr (.inr (.inr ⟨a0, a1, b0, b1⟩))
          refine (hok ((inB_iff _ _).2 fun i hi => ?_)).elim
          match i, hi with
          | 0, _ => show 0 ≤ A ∧ A < 16; omega
          | 1, _ => show 0 ≤ B ∧ B < 16; omega
        clear hok HTk HMem HAL HE0
        rcases DD with a0 | ⟨a0, a1⟩ | ⟨a0, a1, b0⟩ | ⟨a0, a1, b0, b1⟩
        all_goals
          go_wp2
          go_ret2
          rw [HE.out, HL.out]
          exact ⟨⟨_, rfl, OI.nil _ _⟩, HB.out⟩
    · have hI : ¬ (j : Int) < (P.length : Int) := by omega
      obtain rfl : j = P.length := by omega
      rw [List.take_length] at HAL
      have HE := hid (show leE R P = 0 by rw [HE0.out, HAL.out]; rfl)
      have HL := hid (show leL R P = le (bm P P.length) R.length R by unfold leL; rw [if_pos HE.out])
      have hpk : ∀ i (h : i < P.length), 0 ≤ P[i].1 ∧ P[i].1 < 16 ∧ 0 ≤ P[i].2 ∧ P[i].2 < 16 := fun i hi => by
        have h3 := List.all_eq_true.1 HAL.out _ (List.getElem_mem hi)
        unfold pOk at h3
        have h4 := (inB_iff _ _).1 h3
        have a0 := h4 0 (by simp)
        have a1 := h4 1 (by simp)
        exact ⟨a0.1, a0.2, a1.1, a1.2⟩
      have HAg := hid (agr_any P hpk P.length (Nat.le_refl _))
      have HT := hid (apartOf_any _ P wr (HP.out.below HB.out) hP256 hpk)
      obtain ⟨K, hKe⟩ : ∃ K, (bc (tm P P.length)).toArray = K := ⟨_, rfl⟩
      rw [hKe] at HT
      have HKe := hid hKe
      have hK : K.size = 256 := by rw [← hKe]; simp [bc, tm_len P P.length (Nat.le_refl _)]
      have h1c : K.all (·.oneCell') = true := by rw [← hKe]; simp [bc, Value.oneCell']
      have hzero : ∀ w : World, (zeroValue TT).run Try.prog w = .ok (.agg (bc f256).toArray) w := fun w => by kernel_rfl
      clear hKe hpk h1 h2 HE0 HC
      go_wp2_with fail
      refine Calls.mono HT.out ?_
      rintro e w4 ⟨rfl, hB4⟩
      have B4 := hid (HB.out.trans (hB4.mono hws))
      have hw4 := B4.out.size
      have hSt : (tStore ⟨w4.heap.size, 0, none⟩ (.agg K)).run Try.prog (w4.alloc (.cells (bc f256).toArray TT)) = .ok () (w4.alloc (.cells K TT)) := run_storeVar_new w4 TT _ K (by rw [hK]; exact tinfo) (by rw [hK]; simp [bc, f256]) h1c
      obtain ⟨W, hW⟩ : ∃ W, w4.alloc (.cells K TT) = W := ⟨_, rfl⟩
      rw [hW] at hSt
      have hWs : W.heap.size = w4.heap.size + 1 := by rw [← hW, World.size_alloc]
      have BW := hid (show Below w3.heap.size w3 W by rw [← hW]; exact B4.out.alloc hw4 _)
      have HMk := hid (show W.heap[w4.heap.size]? = some (.cells K TT (0, 0)) by rw [← hW]; exact heap_alloc_new w4 _)
      have HRW := hid (HR.out.below BW.out)
      clear hW hB4 HT h1c
      go_wp2_with (at_builtin; refine wpList_appI rfl _ _ rfl W.heap.size _ [] rfl (OI.nil _ _) _ R rfl HRW.out (by simp; omega) (Nat.le_refl _) ?hnext)
      case hnext =>
        intro vl w5 ho5 hg5
        have HO5 := hid (show OI w5 W.heap.size vl R by rw [hWs]; exact ho5)
        have HB5 := hid ((Below.refl W.heap.size W).grown hg5 (Nat.le_refl _) (by intro k hk; cases hk))
        clear ho5 hg5 HRW hSt hzero
        go_wp2_with fail
        go_loopw [8, 9] (fun v8 v9 wx => ∃ Rr A, OI wx W.heap.size v8 Rr ∧ OI wx W.heap.size v9 A ∧ (∀ g, v8.ownBlock = some g → v9.ownBlock ≠ some g) ∧ Below W.heap.size W wx ∧ (∀ i (h : i < Rr.length), 0 ≤ Rr[i] ∧ Rr[i] < 16) ∧ A.length + Rr.length = R.length ∧ A ++ le (bm P P.length) Rr.length Rr = le (bm P P.length) R.length R) (fun v8 _ _ => slen v8)
        case atStart => exact ⟨R, [], HO5.out, OI.nil _ _, (fun _ _ h => by cases h), HB5.out, HIN.out, Nat.zero_add _, rfl⟩
        case round =>
          obtain ⟨Rr, A, ho, hoA, hap, hBr, hIn, hLen, hEq⟩ := hrel
          have HOr := hid ho
          have HOA := hid hoA
          have HAp := hid hap
          have HBr := hid hBr
          have HInr := hid hIn
          have HEq := hid hEq
          have hwr := hBr.size
          clear hap hBr hIn hEq HB5 HO5 HIN HB HAL HR HP B4 ho hoA
          by_cases h0 : 0 < Rr.length
          · as_aux_lemma =>
            have h0I : (0 : Int) < (Rr.length : Int) := by omega
            obtain ⟨g, c, hv9, hc9, hm9, hcl9⟩ := HOr.out.form h0
            subst hv9
            obtain ⟨wo, hwo⟩ : ∃ wo, wo = wr := ⟨_, rfl⟩
            subst hwo
            have HCl := hid (fun wx (hb : Below wo.heap.size wo wx) j hj => below_cells hb _ _ (hcl9 j hj))
            have HTc := hid (show ∀ wx, Below wo.heap.size wo wx → ∀ a b, a < 16 → b < 16 → wx.cell? ⟨w4.heap.size, a * 16 + b, none⟩ = some (.bool ((tm P P.length).getD (16 * a + b) false)) from fun wx hb a b ha hb' => by
              refine below_cells hb _ _ (below_cells HBr.out _ _ ?_)
              rw [cell_of_row W w4.heap.size _ _ _ _ HMk.out, ← HKe.out, Nat.mul_comm a 16, List.getD_eq_getElem?_getD, List.getElem?_eq_getElem (by rw [tm_len P P.length (Nat.le_refl _)]; omega)]
              simp [bc])
            clear hcl9 HMk HKe hK
            go_wp2
            go_loopw [10, 11] (fun v10 v11 wx => ∃ i : Nat, i ≤ Rr.length ∧ v11 = .int .i64 (i : Int) ∧ v10 = .int .i64 (bst Rr (tm P P.length) i) ∧ Below wo.heap.size wo wx) (fun _ v11 _ => Rr.length - (intOf v11).toNat)
            case atStart => exact ⟨0, Nat.zero_le _, rfl, rfl, Below.refl _ _⟩
            case round =>
              obtain ⟨i, hi, rfl, rfl, hb⟩ := hrel
              have HBi := hid hb
              clear hb
              by_cases hlt : i < Rr.length
              · have hltI : (i : Int) < (Rr.length : Int) := by omega
                obtain ⟨wi, hwi⟩ : ∃ wi, wi = wr := ⟨_, rfl⟩
                subst hwi
                go_wp2
                go_loopw [12, 13] (fun v12 v13 wx => ∃ n : Nat, n ≤ i ∧ v13 = .int .i64 (n : Int) ∧ v12 = .bool (dfr Rr (tm P P.length) i n) ∧ Below wo.heap.size wo wx) (fun _ v13 _ => i - (intOf v13).toNat)
                case atStart => exact ⟨0, Nat.zero_le _, rfl, rfl, HBi.out⟩
                case round =>
                  obtain ⟨n, hn, rfl, rfl, hb⟩ := hrel
                  have HBn := hid hb
                  by_cases hni : n < i
                  · have hniI : (n : Int) < (i : Int) := by omega
                    have hnR : (n : Int) < (Rr.length : Int) := by omega
                    obtain ⟨x, hx⟩ : ∃ x : Nat, Rr[n] = (x : Int) := ⟨Rr[n].toNat, by have := HInr.out n (by omega); omega⟩
                    obtain ⟨y, hy⟩ : ∃ y : Nat, Rr[i] = (y : Int) := ⟨Rr[i].toNat, by have := HInr.out i (by omega); omega⟩
                    have hx16 : x < 16 := by have := HInr.out n (by omega); omega
                    have hy16 : y < 16 := by have := HInr.out i (by omega); omega
                    have cn := HCl.out wr hb n (by omega)
                    have ci := HCl.out wr hb i hlt
                    rw [hx] at cn
                    rw [hy] at ci
                    have ct := HTc.out wr hb x y hx16 hy16
                    have HD := hid (show dfr Rr (tm P P.length) i (n + 1) = (dfr Rr (tm P P.length) i n && (tm P P.length).getD (16 * x + y) false) by
                      show (_ && _) = _
                      have e1 : Rr.getD n 0 = (x : Int) := by rw [List.getD_eq_getElem?_getD, List.getElem?_eq_getElem (by omega)]; exact hx
                      have e2 : Rr.getD i 0 = (y : Int) := by rw [List.getD_eq_getElem?_getD, List.getElem?_eq_getElem hlt]; exact hy
                      rw [e1, e2]
                      rfl)
                    clear hb hx hy
                    have HBD := hid (HBn.out.drew)
                    cases hq : (tm P P.length).getD (16 * x + y) false with
                    | true =>
                      rw [hq] at ct HD
                      go_wp2
                      go_region
                      go_wp2
                      go_roundw
                      case rel => exact ⟨n + 1, by omega, by go_num, by rw [HD.out, Bool.and_true], HBD.out⟩
                      case measure => simp [intOf]; omega
                    | false =>
                      rw [hq] at ct HD
                      go_wp2
                      go_region
                      go_wp2
                      go_roundw
                      case rel => exact ⟨n + 1, by omega, by go_num, by rw [HD.out, Bool.and_false], HBD.out⟩
                      case measure => simp [intOf]; omega
                  · have hniI : ¬ (n : Int) < (i : Int) := by omega
                    obtain rfl : n = i := by omega
                    have HBs := hid (show bst Rr (tm P P.length) (n + 1) = if dfr Rr (tm P P.length) n n && (decide (bst Rr (tm P P.length) n < 0) || decide (Rr.getD n 0 < Rr.getD (bst Rr (tm P P.length) n).toNat 0)) then (n : Int) else bst Rr (tm P P.length) n from rfl)
                    have HBD := hid (HBn.out.drew)
                    clear hb
                    by_cases hn0 : n = 0
                    · subst hn0
                      have e1 : dfr Rr (tm P P.length) 0 0 = true := rfl
                      have e2 : bst Rr (tm P P.length) 0 = -1 := rfl
                      rw [e1, e2] at HBs
                      rw [e1, e2]
                      have HBs2 := hid (show bst Rr (tm P P.length) (0 + 1) = ((0 : Nat) : Int) by rw [HBs.out]; rfl)
                      clear HBs e1 e2
                      go_wp2
                      go_quiet (fail)
                      go_wp2
                      go_roundw
                      case rel => exact ⟨0 + 1, by omega, by go_num, by rw [HBs2.out]; rfl, below_drewN HBn.out nq⟩
                      case measure => simp [intOf]; omega
                    · obtain ⟨m, hm, hmn⟩ : ∃ m : Nat, bst Rr (tm P P.length) n = (m : Int) ∧ m < n := by
                        obtain ⟨q, rfl⟩ : ∃ q, n = q + 1 := ⟨n - 1, by omega⟩
                        exact ⟨_, bst_is HAg.out HInr.out q, lw_lt _ _ _ (by omega)⟩
                      rw [hm] at HBs
                      rw [hm]
                      have hmI : (m : Int) < (Rr.length : Int) := by omega
                      have cn := HCl.out wr HBn.out n hlt
                      have cm := HCl.out wr HBn.out m (by omega)
                      have e1 : Rr.getD n 0 = Rr[n] := by rw [List.getD_eq_getElem?_getD, List.getElem?_eq_getElem hlt]; rfl
                      have e2 : Rr.getD m 0 = Rr[m] := by rw [List.getD_eq_getElem?_getD, List.getElem?_eq_getElem (by omega)]; rfl
                      rw [Int.toNat_natCast, e1, e2, decide_eq_false (show ¬ ((m : Nat) : Int) < 0 by omega), Bool.false_or] at HBs
                      have hm0 : decide (((m : Nat) : Int) < 0) = false := decide_eq_false (by omega)
                      generalize Rr[n] = x at cn HBs
                      generalize Rr[m] = y at cm HBs
                      clear e1 e2 hm HBD
                      cases hd : dfr Rr (tm P P.length) n n with
                      | false =>
                        rw [hd] at HBs
                        have HBs2 := hid (show bst Rr (tm P P.length) (n + 1) = (m : Int) by rw [HBs.out]; rfl)
                        clear HBs
                        go_wp2
                        go_quiet (fail)
                        go_wp2
                        go_roundw
                        case rel => exact ⟨n + 1, by omega, by go_num, by rw [HBs2.out], below_drewN HBn.out nq⟩
                        case measure => simp [intOf]; omega
                      | true =>
                        rw [hd, Bool.true_and] at HBs
                        by_cases hxy : x < y
                        · have HBs2 := hid (show bst Rr (tm P P.length) (n + 1) = (n : Int) by rw [HBs.out, if_pos (by simpa using hxy)])
                          clear HBs
                          go_wp2
                          go_quiet (fail)
                          go_wp2
                          go_roundw
                          case rel => exact ⟨n + 1, by omega, by go_num, by rw [HBs2.out], below_drewN HBn.out nq⟩
                          case measure => simp [intOf]; omega
                        · have HBs2 := hid (show bst Rr (tm P P.length) (n + 1) = (m : Int) by rw [HBs.out, if_neg (by simpa using hxy)])
                          clear HBs
                          go_wp2
                          go_quiet (fail)
                          go_wp2
                          go_roundw
                          case rel => exact ⟨n + 1, by omega, by go_num, by rw [HBs2.out], below_drewN HBn.out nq⟩
                          case measure => simp [intOf]; omega
              · have hltI : ¬ (i : Int) < (Rr.length : Int) := by omega
                obtain rfl : i = Rr.length := by omega
                have hbl : bst Rr (tm P P.length) Rr.length = (lw Rr (bm P P.length) Rr.length : Int) := by
                  have := bst_is HAg.out HInr.out (Rr.length - 1)
                  rw [show Rr.length - 1 + 1 = Rr.length by omega] at this
                  exact this
                have hkl := lw_lt Rr (bm P P.length) Rr.length h0
                have HLe := hid (le_pos (bm P P.length) Rr h0)
                rw [hbl]
                clear hbl
                obtain ⟨k, hk⟩ : ∃ k, lw Rr (bm P P.length) Rr.length = k := ⟨_, rfl⟩
                rw [hk] at hkl HLe
                rw [hk]
                have hkI : (k : Int) < (Rr.length : Int) := by omega
                have ck := HCl.out wr HBi.out k hkl
                have HO6 := hid (HOr.out.below HBi.out)
                have HOA6 := hid (HOA.out.below HBi.out)
                obtain ⟨i0, hi0, hz0, hz1, hz2⟩ := info_parts intinfo
                have HI := hid hi0
                have hz6 := HBi.out.size
                clear hi0 hk HTc
                go_wp2_with (at_builtin; refine wpList_append_own_at _ rfl _ _ 22 rfl W.heap.size 3 i0 (.int .i64 0) 1 8 Try.underlying22 HI.out hz0 hz1 hz2 rfl (by decide) _ _ _ rfl (HOA6.out.alloc _) ⟨wr.heap.size, 0, none⟩ 1 1 [.int .i64 Rr[k]] rfl rfl (le_one_new _ _) (le_one _) ?m1 ?m2 ?m3 ?hnext)
                case m1 => unfold maxLen; omega
                case m2 => omega
                case m3 => first | omega | (simp only [World.size_alloc]; omega) | trace_state
                case hnext =>
                  intro vA w7 hown' hgrow _ hloc
                  have hoi : OI w7 W.heap.size vA (A ++ [Rr[k]]) := by
                    unfold OI
                    rw [ic_app, List.length_append, hWs]
                    exact hown'
                  have HO1 := hid (HO6.out.alloc (.cells #[.int .i64 Rr[k]] 3))
                  have HO7 := hid (HO1.out.keep hgrow (fun g' hg' e => HAp.out g' hg' e))
                  have HB7 := hid ((((HBr.out.trans (HBi.out.mono hwr)).alloc (by omega) (.cells #[.int .i64 Rr[k]] 3))).grown hgrow (by rw [World.size_alloc]; omega) (fun k' hk' => HOA6.out.block_ge k' hk'))
                  have HOV := hid hoi
                  have hw7 := HB7.out.size
                  have HRt := hid (le_take HO7.out.reads (show k ≤ Rr.length by omega))
                  have HRd := hid (fun wx (hb : Below w7.heap.size w7 wx) => le_drop (HO7.out.reads.below hb) (show k + 1 ≤ Rr.length by omega))
                  have hkc : (k : Int) ≤ (c : Int) := by omega
                  have hkc1 : (k : Int) + 1 ≤ (Rr.length : Int) := by omega
                  have hkc2 : (Rr.length : Int) ≤ (c : Int) := by omega
                  clear hoi hown' hgrow hloc HO1 HO6 HOA6 HAp HOA HOr ck HO7
                  go_wp2_with (at_builtin; refine wpList_appI rfl _ _ rfl w7.heap.size _ [] rfl (OI.nil _ _) _ (Rr.take k) rfl HRt.out (by simp; omega) (Nat.le_refl _) ?hnext)
                  case hnext =>
                    intro v14 w8 ho8 hg8
                    have HO8 := hid (show OI w8 w7.heap.size v14 (Rr.take k) from ho8)
                    have HB8 := hid ((Below.refl w7.heap.size w7).grown hg8 (Nat.le_refl _) (by intro k hk; cases hk))
                    clear ho8 hg8 HRt
                    go_wp2_with (at_builtin; refine wpList_appI rfl _ _ rfl w7.heap.size _ (Rr.take k) rfl HO8.out _ (Rr.drop (k + 1)) rfl (HRd.out _ HB8.out) (by simp; omega) HB8.out.size ?hnext)
                    all_goals
                      intro v8 w9 ho9 hg9
                      rw [← List.eraseIdx_eq_take_drop_succ] at ho9
                      have hge := HB8.out.size
                      have HB9 := hid ((HB7.out.trans (HB8.out.mono hw7)).grown hg9 (by omega) (fun k' hk' => Nat.le_trans hw7 (HO8.out.block_ge k' hk')))
                      have HOV9 := hid ((HOV.out.below HB8.out).keep hg9 (fun g' hg' e => by
                        have h1 := (HOV.out.own_lt g' hg').2
                        have h2 := HO8.out.block_ge g' e
                        omega))
                      have HAp9 := hid (show ∀ g', v8.ownBlock = some g' → vA.ownBlock ≠ some g' from fun g' h1 h2 => by
                        have h3 := (HOV.out.own_lt g' h2).2
                        have h4 := ho9.block_ge g' h1
                        omega)
                      have HO9 := hid (ho9.mono hw7)
                      have hel : (Rr.eraseIdx k).length = Rr.length - 1 := List.length_eraseIdx_of_lt hkl
                      have HIn9 := hid (show ∀ i (h : i < (Rr.eraseIdx k).length), 0 ≤ (Rr.eraseIdx k)[i] ∧ (Rr.eraseIdx k)[i] < 16 from fun i hi => by
                        obtain ⟨q, hq, e⟩ := List.getElem_of_mem (List.mem_of_mem_eraseIdx (List.getElem_mem hi))
                        rw [← e]
                        exact HInr.out q hq)
                      have HEq9 := hid (show (A ++ [Rr[k]]) ++ le (bm P P.length) (Rr.eraseIdx k).length (Rr.eraseIdx k) = le (bm P P.length) R.length R by
                        rw [← HEq.out, HLe.out, hel, List.append_assoc]
                        simp [hkl])
                      have hsl : slen v8 = Rr.length - 1 := by
                        obtain ⟨ao8, c8, e8⟩ := ho9.reads.len0
                        rw [e8]
                        exact hel
                      clear hg9 ho9 HB7 HOV HO8 HRd HB8
                      go_wp2_with fail
                      go_roundw
                      case rel => exact ⟨_, _, HO9.out, HOV9.out, HAp9.out, HB9.out, HIn9.out, by rw [List.length_append, hel]; simp; omega, HEq9.out⟩
                      case measure => rw [hsl]; show _ < Rr.length; omega
          · have h0I : ¬ (0 : Int) < (Rr.length : Int) := by omega
            have hz : Rr = [] := List.eq_nil_of_length_eq_zero (by omega)
            obtain ⟨ao9, c9, hv9⟩ := HOr.out.reads.len0
            subst hv9
            have HF := hid (show OI wr w3.heap.size u9 (leL R P) by
              rw [HL.out, ← HEq.out, hz]
              show OI _ _ _ (A ++ [])
              rw [List.append_nil]
              exact HOA.out.mono BW.out.size)
            have HBf := hid (BW.out.trans (HBr.out.mono BW.out.size))
            clear hz HOr HOA HEq HMk
            go_wp2
            go_ret2
            rw [HE.out]
            exact ⟨⟨_, rfl, HF.out⟩, HBf.out⟩
end Go.Proofs.Ytogbmldplgondaa
