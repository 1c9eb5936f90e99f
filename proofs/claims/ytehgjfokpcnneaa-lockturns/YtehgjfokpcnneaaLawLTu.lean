/-
  LockTurns: the law's walk.
-/
import Derived.Test.YtehgjfokpcnneaaTb5
namespace Go.Proofs.Ytehgjfokpcnneaa
open Go.RowKit
set_option maxRecDepth 100000

theorem svd_no {x : Hd} {t : Int} (h : t ≠ x.2.1) : svd x t = false := by unfold svd; exact decide_eq_false (fun e => h e.1)
theorem hoE_no {x : Hd} {t par : Int} (h : t ≠ x.2.1) : hoE x t par = 81 := by unfold hoE; rw [svd_no h]; rfl
theorem lvX_no {x : Hd} {t : Int} (h : t ≠ x.2.1) : lvX x t = x := by unfold lvX; rw [hoE_no h]; rfl
theorem ctX_no {x : Hd} {t par : Int} (h : t ≠ x.2.1) : ctX x t par = x := by unfold ctX; rw [hoE_no h]; rfl
/-- three stripes, of the second g tickets given and l left -/
def S3 (g l : Int) : List Hd := [(0, 0, 0), (g, l, 0), (0, 0, 0)]
theorem svd_yes (g l : Int) (h : l < g) : svd (g, l, 0) l = true := by unfold svd; exact decide_eq_true ⟨rfl, h⟩
theorem hoE_yes (g l : Int) (h : l < g) : hoE (g, l, 0) l 0 = 0 := by unfold hoE; rw [svd_yes g l h]; rfl
theorem lvX_yes (g l : Int) (h : l < g) : lvX (g, l, 0) l = (g, l + 1, 0) := by unfold lvX; rw [if_pos (hoE_yes g l h)]
theorem tkX_few (g : Int) (h : g < 100) : tkX (g, 0, 0) = (g + 1, 0, 0) := by unfold tkX; rw [if_neg (by simp only; omega)]
theorem tkN_few (g : Int) (h : g < 100) : tkN (g, 0, 0) = g := by unfold tkN; rw [if_neg (by simp only; omega)]
theorem tkE_few (g : Int) (h : g < 100) : tkE (g, 0, 0) = 0 := by unfold tkE; rw [if_neg (by simp only; omega)]
set_option maxHeartbeats 4000000 in
theorem turns_any (n0 : Int) (v : Value) (L : List Int) (w : World) (hr : RI w v L) (hl : L.length * 8 ≤ reachBytes) :
    Calls Try.prog 3 #[.int .i64 n0, v] w fun e w' => e = .returned (.bool true) ∧ Below w.heap.size w w' := by
  have hl' : L.length ≤ 17592186043904 := by have : reachBytes = 140737488351232 := rfl; omega
  clear hl
  have HWk := hid (works_any w)
  have HN := hid (new_in 3)
  have HW1 := hid (fun w => within_any n0 30 w (by omega) (by omega))
  have hw := wth_in n0 30 (by omega)
  obtain ⟨m, hm⟩ : ∃ m : Nat, wth n0 30 = (m : Int) := ⟨(wth n0 30).toNat, by omega⟩
  rw [hm] at HW1
  have hm30 : m ≤ 30 := by omega
  clear hw hm
  obtain ⟨n, hn⟩ : ∃ n : Nat, n = m + 1 := ⟨_, rfl⟩
  have HnI := hid (show (m : Int) + 1 = (n : Int) ∧ 1 + (m : Int) = (n : Int) by omega)
  have hn31 : n ≤ 31 := by omega
  clear hn
  obtain ⟨ao, cap, rfl, hc, hn', hcell⟩ := hr
  have HC := hid hcell
  clear hcell hn'
  go_enter Try.func3, Try.ntmps3
  go_wp2_with fail
  refine Calls.mono HWk.out ?_
  rintro e wz ⟨rfl, hBz⟩
  have KZ := hid hBz
  have hz := hBz.size
  clear hBz HWk
  go_wp2_with fail
  refine Calls.mono (HW1.out _) ?_
  rintro e wq ⟨rfl, rfl⟩
  go_wp2_with fail
  refine Calls.mono (HN.out _ (by omega) (by omega)) ?_
  rintro e w1 ⟨⟨d, hb, rfl, hT⟩, hB⟩
  have hP : ∀ k, k = hb → w.heap.size ≤ k := fun k e => Nat.le_trans hz (e ▸ hT.gh)
  have K1 := hid (show Below w.heap.size w w1 from KZ.out.trans (hB.mono hz))
  have T1 := hid (show TP w1 w.heap.size d hb (S3 ((0 : Nat) : Int) 0) from ⟨Nat.le_trans hz hT.gd, Nat.le_trans hz hT.gh, hT.top, hT.row, hT.ne, hT.many, hT.ok⟩)
  have step : ∀ a b : World, Below w.heap.size w a → Kw (fun k => k = hb) a b → Below w.heap.size w b := fun _ _ h k => Kw.since h h.size k hP
  have SP := hid step
  clear HN hT hB hP step KZ
  first | rw [HnI.out.1] | rw [HnI.out.2]
  go_wp2
  go_loopw [7, 8, 9] (fun vi _ _ wr => ∃ k : Nat, k ≤ n ∧ vi = .int .i64 (k : Int) ∧ TP wr w.heap.size d hb (S3 (k : Int) 0) ∧ Below w.heap.size w wr) (fun vi _ _ _ => n - (intOf vi).toNat)
  case atStart => exact ⟨0, Nat.zero_le _, rfl, T1.out, K1.out⟩
  case round =>
    obtain ⟨k, hk, rfl, hT, hB⟩ := hrel
    have T := hid hT
    have B := hid hB
    clear hT hB T1 K1
    by_cases h : k < n
    · have hI : (k : Int) < (n : Int) := by omega
      go_wp2_with fail
      refine Calls.mono (tick 1 1 ((k : Int), 0, 0) (k : Int) 0 (S3 ((k + 1 : Nat) : Int) 0) rfl rfl (tkN_few _ (by omega)) (tkE_few _ (by omega)) (by rw [tkX_few _ (by omega)]; rfl) T.out) ?_
      rintro e wa ⟨rfl, hTa, hKa⟩
      have Ta := hid hTa
      have Ka := hid (SP.out _ _ B.out hKa)
      clear hTa hKa
      go_wp2
      go_roundw
      case rel => exact ⟨k + 1, by omega, by go_num, Ta.out, Ka.out⟩
      case measure => simp [intOf]; omega
    · have hI : ¬ (k : Int) < (n : Int) := by omega
      obtain rfl : k = n := by omega
      clear hI h hk
      go_wp2
      go_loopw [10, 11] (fun vi _ wr => ∃ i : Nat, i ≤ k ∧ vi = .int .i64 (i : Int) ∧ TP wr w.heap.size d hb (S3 (k : Int) (i : Int)) ∧ Below w.heap.size w wr) (fun vi _ _ => k - (intOf vi).toNat)
      case atStart => exact ⟨0, Nat.zero_le _, rfl, T.out, B.out⟩
      case round =>
        obtain ⟨i, hi, rfl, hT, hB⟩ := hrel
        have T := hid hT
        have B := hid hB
        clear hT hB
        by_cases h : i < k
        · have hI : (i : Int) < (k : Int) := by omega
          go_wp2
          go_loopw [11] (fun vj wr => ∃ j : Nat, j ≤ L.length ∧ vj = .int .i64 (j : Int) ∧ TP wr w.heap.size d hb (S3 (k : Int) (i : Int)) ∧ Below w.heap.size w wr) (fun vj _ => L.length - (intOf vj).toNat)
          case atStart => exact ⟨0, Nat.zero_le _, rfl, T.out, B.out⟩
          case round =>
            obtain ⟨j, hj, rfl, hT, hB⟩ := hrel
            have T := hid hT
            have B := hid hB
            clear hT hB
            by_cases hjl : j < L.length ∧ j < 20
            · have hJ : (j : Int) < (L.length : Int) := by omega
              have hJ2 : (j : Int) < 20 := by omega
              obtain ⟨g, off, hao, cx⟩ := HC.out j hjl.1
              subst hao
              have hgl := World.block_lt_of_cell? _ _ cx
              have cc : ∀ wr : World, Below w.heap.size w wr → wr.cell? ⟨g, off + j, none⟩ = some (.int .i64 L[j]) := fun wr hB => below_cells hB _ _ cx
              have c1 := cc _ B.out
              have CC := hid cc
              clear cx hgl cc
              generalize L[j] = x at c1 CC
              by_cases hx : x = (i : Int)
              · have hxb : (x == (i : Int)) = true := by simp [hx]
                clear hx
                go_wp2
                go_roundw
                case rel => exact ⟨j + 1, by omega, by go_num, T.out, B.out⟩
                case measure => simp [intOf]; omega
              · have hxb : (x == (i : Int)) = false := by simp [hx]
                have NX := hid hx
                clear hx
                go_wp2_with fail
                refine Calls.mono (srv 1 x 1 ((k : Int), (i : Int), 0) false rfl rfl (svd_no NX.out) T.out) ?_
                rintro e wa ⟨rfl, hTa, hKa⟩
                have Ta := hid hTa
                have Ka := hid (B.out.trans (hKa.mono B.out.size))
                have c2 := CC.out _ Ka.out
                clear hTa hKa
                go_wp2_with fail
                refine Calls.mono (lve 1 x 1 ((k : Int), (i : Int), 0) 81 (S3 (k : Int) (i : Int)) rfl rfl (hoE_no NX.out) (by rw [lvX_no NX.out]; rfl) Ta.out) ?_
                rintro e wb ⟨rfl, hTb, hKb⟩
                have Tb := hid hTb
                have Kb := hid (SP.out _ _ Ka.out hKb)
                have c3 := CC.out _ Kb.out
                clear hTb hKb Ta Ka
                go_wp2_with fail
                refine Calls.mono (oddc 1 x 1 ((k : Int), (i : Int), 0) 81 (S3 (k : Int) (i : Int)) rfl rfl (hoE_no NX.out) (by rw [ctX_no NX.out]; rfl) (by simp only; omega) Tb.out) ?_
                rintro e wc ⟨rfl, hTc, hKc⟩
                have Tc := hid hTc
                have Kc := hid (SP.out _ _ Kb.out hKc)
                have c4 := CC.out _ Kc.out
                clear hTc hKc Tb Kb
                go_wp2_with fail
                refine Calls.mono (evenc 1 x 1 ((k : Int), (i : Int), 0) 81 (S3 (k : Int) (i : Int)) rfl rfl (hoE_no NX.out) (by rw [ctX_no NX.out]; rfl) (by simp only; omega) Tc.out) ?_
                rintro e wd ⟨rfl, hTd, hKd⟩
                have Td := hid hTd
                have Kd := hid (SP.out _ _ Kc.out hKd)
                clear hTd hKd Tc Kc
                go_wp2
                go_roundw
                case rel => exact ⟨j + 1, by omega, by go_num, Td.out, Kd.out⟩
                case measure => simp [intOf]; omega
            · have DD : ((j : Int) < (L.length : Int) ∧ ¬ (j : Int) < 20) ∨ ¬ (j : Int) < (L.length : Int) := by omega
              have X0 := hid (svd_yes (k : Int) (i : Int) hI)
              have X1 := hid (hoE_yes (k : Int) (i : Int) hI)
              have X2 := hid (lvX_yes (k : Int) (i : Int) hI)
              clear hjl
              rcases DD with ⟨hJ, hJ2⟩ | hJ
              all_goals
                go_wp2_with fail
                refine Calls.mono (srv 1 (i : Int) 1 ((k : Int), (i : Int), 0) true rfl rfl X0.out T.out) ?_
                rintro e wa ⟨rfl, hTa, hKa⟩
                have Ta := hid hTa
                have Ka := hid (B.out.trans (hKa.mono B.out.size))
                clear hTa hKa
                go_wp2_with fail
                refine Calls.mono (wtg 1 1 ((k : Int), (i : Int), 0) ((k : Int) - (i : Int)) rfl rfl rfl Ta.out) ?_
                rintro e wb ⟨rfl, hTb, hKb⟩
                have Tb := hid hTb
                have Kb := hid (Ka.out.trans (hKb.mono Ka.out.size))
                clear hTb hKb Ta Ka
                go_wp2_with fail
                refine Calls.mono (wtg 0 0 (0, 0, 0) 0 rfl rfl rfl Tb.out) ?_
                rintro e wc ⟨rfl, hTc, hKc⟩
                have Tc := hid hTc
                have Kc := hid (Kb.out.trans (hKc.mono Kb.out.size))
                clear hTc hKc Tb Kb
                go_wp2_with fail
                refine Calls.mono (sqc 1 1 ((k : Int), (i : Int), 0) 0 rfl rfl rfl Tc.out) ?_
                rintro e wd ⟨rfl, rfl⟩
                go_wp2_with fail
                refine Calls.mono (lve 1 (i : Int) 1 ((k : Int), (i : Int), 0) 0 (S3 (k : Int) ((i + 1 : Nat) : Int)) rfl rfl X1.out (by rw [X2.out]; rfl) Tc.out) ?_
                rintro e we ⟨rfl, hTd, hKd⟩
                have Td := hid hTd
                have Kd := hid (SP.out _ _ Kc.out hKd)
                clear hTd hKd Tc Kc
                go_wp2
                go_roundw
                case rel => exact ⟨i + 1, by omega, by go_num, Td.out, Kd.out⟩
                case measure => simp [intOf]; omega
        · have hI : ¬ (i : Int) < (k : Int) := by omega
          obtain rfl : i = k := by omega
          go_wp2_with fail
          refine Calls.mono (ticket_out 3 _ T.out (by simp [S3])) ?_
          rintro e wa ⟨rfl, rfl⟩
          go_wp2_with fail
          refine Calls.mono (wtg 1 1 ((i : Int), (i : Int), 0) 0 rfl rfl (by simp only; omega) T.out) ?_
          rintro e wb ⟨rfl, hTb, hKb⟩
          have Tb := hid hTb
          have Kb := hid (B.out.trans (hKb.mono B.out.size))
          clear hTb hKb
          go_wp2_with fail
          refine Calls.mono (srv 1 (i : Int) 1 ((i : Int), (i : Int), 0) false rfl rfl (by unfold svd; exact decide_eq_false (by simp only; omega)) Tb.out) ?_
          rintro e wc ⟨rfl, hTc, hKc⟩
          have Kc := hid (Kb.out.trans (hKc.mono Kb.out.size))
          clear hTc hKc Tb Kb
          go_wp2
          go_ret
          exact ⟨rfl, Kc.out⟩
end Go.Proofs.Ytehgjfokpcnneaa
