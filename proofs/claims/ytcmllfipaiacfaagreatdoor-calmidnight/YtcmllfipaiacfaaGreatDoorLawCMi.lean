/-
  CalMidnight: the law's own walk.
-/
import Derived.Test.YtcmllfipaiacfaaGreatDoorTm1
import Derived.BigQuiet
namespace Go.Proofs.YtcmllfipaiacfaaGreatDoor
open Go.RowKit
set_option maxRecDepth 100000

def Wd : Nat → ByteArray
  | 0 => ⟨#[84, 50, 52, 90]⟩
  | 1 => ⟨#[84, 50, 52, 58, 48, 48, 90]⟩
  | _ => ⟨#[84, 50, 52, 58, 48, 48, 58, 48, 48, 43, 48, 48, 58, 48, 48]⟩
def Pl : Nat → ByteArray
  | 0 => ⟨#[84, 50, 52, 90]⟩
  | 1 => ⟨#[84, 50, 52, 48, 48, 90]⟩
  | _ => ⟨#[84, 50, 52, 48, 48, 48, 48, 43, 48, 48]⟩
theorem Wd_size (k : Nat) : (Wd k).size ≤ 15 := by
  match k with
  | 0 => decide
  | 1 => decide
  | _ + 2 => show (15 : Nat) ≤ 15; decide
theorem Pl_size (k : Nat) : (Pl k).size ≤ 15 := by
  match k with
  | 0 => decide
  | 1 => decide
  | _ + 2 => show (10 : Nat) ≤ 15; decide
/-- the lists of texts lie there -/
def MM (w0 : World) (g wb pb : Nat) (T : Nat → ByteArray) (w : World) : Prop :=
  HasAh w ∧ Below w0.heap.size w0 w ∧ (∀ j, j < 6 → w.cell? ⟨g, j, none⟩ = some (.string (T j))) ∧ (∀ j, j < 3 → w.cell? ⟨wb, j, none⟩ = some (.string (Wd j))) ∧ ∀ j, j < 3 → w.cell? ⟨pb, j, none⟩ = some (.string (Pl j))
theorem MM.stable {w0 w w' : World} {g wb pb : Nat} {T : Nat → ByteArray} (h : MM w0 g wb pb T w) (hb : Below w.heap.size w w') : MM w0 g wb pb T w' :=
  ⟨h.1.below hb, h.2.1.trans (hb.mono h.2.1.size), fun j hj => cell_old (h.2.2.1 j hj) hb, fun j hj => cell_old (h.2.2.2.1 j hj) hb, fun j hj => cell_old (h.2.2.2.2 j hj) hb⟩
theorem mid_all (y m d : Int) (hv : VD y m d) (hw : 0 ≤ wkY y (nb y m d)) (hin : InstS ((nb y m d + 1) * 86400)) (f : Nat) (hf : f < 6) :
    (f % 2 = 0 → ∀ k, k < 3 → PrI (pdT f y m d ++ Wd k) ((nb y m d + 1) * 86400, 0, 0)) ∧ (f % 2 = 1 → ∀ k, k < 3 → PrI (pdT f y m d ++ Pl k) ((nb y m d + 1) * 86400, 0, 0)) ∧ (f = 0 → PrI (pdT f y m d ++ ⟨#[84, 50, 52, 58, 48, 49, 90]⟩) (0, 32, 11) ∧ PrI (pdT f y m d ++ ⟨#[84, 50, 51, 58, 54, 48, 90]⟩) (0, 32, 14)) := by
  obtain ⟨h84, hc, hl⟩ := pd_facts y m d hv hw f hf
  have hp : PrD ⟨(pdL f y m d).toArray⟩ y m d := fun w hA => psd_any y m d hv hw f hf w hA
  have hl0 : f = 0 → (pdL f y m d).length = 10 := fun e => by subst e; exact pd0_len y m d hv
  have key : ∀ (b : ByteArray) (l : List UInt8), b.data.toList = l → (pdT f y m d ++ b).data.toList = pdL f y m d ++ l := fun b l h => by rw [ba_app, pdT_list, h]
  refine ⟨fun he k hk => ?_, fun ho k hk => ?_, fun h0 => ?_⟩
  · rw [decide_eq_true he] at hc
    match k, hk with
    | 0, _ => exact mid_E0 _ _ y m d hp hv h84 hc hl (key _ _ rfl) hin
    | 1, _ => exact mid_E1 _ _ y m d hp hv h84 hc hl (key _ _ rfl) hin
    | 2, _ => exact mid_E2 _ _ y m d hp hv h84 hc hl (key _ _ rfl) hin
  · rw [decide_eq_false (by omega)] at hc
    match k, hk with
    | 0, _ => exact mid_P0 _ _ y m d hp hv h84 hc hl (key _ _ rfl) hin
    | 1, _ => exact mid_P1 _ _ y m d hp hv h84 hc hl (key _ _ rfl) hin
    | 2, _ => exact mid_P2 _ _ y m d hp hv h84 hc hl (key _ _ rfl) hin
  · rw [decide_eq_true (by omega)] at hc
    have a := mid_x1 _ _ y m d hp h84 hc hl (key ⟨#[84, 50, 52, 58, 48, 49, 90]⟩ _ rfl)
    have b := mid_x2 _ _ y m d hp h84 hc hl (key ⟨#[84, 50, 51, 58, 54, 48, 90]⟩ _ rfl)
    rw [hl0 h0] at a b
    exact ⟨a, b⟩
set_option maxHeartbeats 4000000 in
theorem midnight_any (n0 : Int) (hn : -9223372036854775808 ≤ n0 ∧ n0 ≤ 9223372036854775807) (w : World) (hA : HasAh w) (hT : HasPw w) :
    Calls Tryz.prog 5 #[.int .i64 n0] w fun e w' => e = .returned (.bool true) ∧ Below w.heap.size w w' := by
  have W1 := hid (fun w => within_any n0 0 3652423 hn (by omega) (by omega) (by omega) w)
  have hN := wi_in n0 0 3652423 (by omega)
  generalize wi n0 0 3652423 = N at *
  have W2 := hid (fun w => within_any N 2 3652423 (by omega) (by omega) (by omega) (by omega) w)
  have hA1 := wi_in N 2 3652423 (by omega)
  generalize wi N 2 3652423 = A at *
  have P1 := hid (fun w h => at_any A (by omega) w h)
  rw [wi_self A 3652424 (by omega) (by omega)] at P1
  obtain ⟨hv, hnb, hwk⟩ := wk_pos A hA1.1 (by omega)
  have F1 := hid (fun w hA hT => forms_any (dY A) (dM A) (dD A) hv (by omega) w hA hT)
  have MI := mid_all (dY A) (dM A) (dD A) hv hwk (by rw [hnb]; exact ⟨by omega, by omega⟩)
  rw [hnb] at MI
  have hsz0 : ∀ k, k < 6 → (pdT k (dY A) (dM A) (dD A)).size ≤ 10 := fun k hk => by
    have := (pd_facts (dY A) (dM A) (dD A) hv hwk k hk).2.2
    rw [← pdT_list] at this
    exact this
  generalize hTd : (fun k => pdT k (dY A) (dM A) (dD A)) = T at *
  have eT : ∀ k, pdT k (dY A) (dM A) (dD A) = T k := fun k => congrFun hTd k
  simp only [eT] at F1 MI hsz0
  have M := hid MI
  have HZ := hid hsz0
  clear hTd eT hv hwk hnb hn MI hsz0
  generalize dY A = y at *
  generalize dM A = m at *
  generalize dD A = d at *
  have S0 := hid (show Su w w from ⟨hA, hT, Below.refl _ _⟩)
  clear hA hT
  unfold PrI tup at M
  unfold dV at *
  go_enter Tryz.func5, Tryz.ntmps5
  go_wp2_with fail
  refine (W1.out _).mono ?_
  rintro e w1 ⟨rfl, hw1⟩
  have hw1s := hw1.symm
  clear hw1
  subst hw1s
  go_wp2_with fail
  refine (W2.out _).mono ?_
  rintro e w1 ⟨rfl, hw1⟩
  have hw1s := hw1.symm
  clear hw1
  subst hw1s
  go_wp2_with fail
  refine (P1.out _ S0.out.1).mono ?_
  rintro e w2 ⟨rfl, hb2⟩
  have S2 := hid (S0.out.call hb2)
  clear hb2 S0 W1 P1
  go_wp2_with fail
  refine (F1.out _ S2.out.1 S2.out.2.1).mono ?_
  rintro e w3 ⟨⟨g, cap, rfl, hcap, hg, hcell⟩, hb3⟩
  have S3 := hid (S2.out.call hb3)
  have HC := hid hcell
  clear hb3 S2 F1 hcell
  go_wp2_with fail
  refine (W2.out _).mono ?_
  rintro e w1 ⟨rfl, hw1⟩
  have hw1s := hw1.symm
  clear hw1
  subst hw1s
  obtain ⟨W4, hW4⟩ : ∃ W4, (w3.alloc (.cells #[.string ⟨#[84, 50, 52, 90]⟩, .string ⟨#[84, 50, 52, 58, 48, 48, 90]⟩, .string ⟨#[84, 50, 52, 58, 48, 48, 58, 48, 48, 43, 48, 48, 58, 48, 48]⟩] 9)).alloc (.cells #[.string ⟨#[84, 50, 52, 90]⟩, .string ⟨#[84, 50, 52, 48, 48, 90]⟩, .string ⟨#[84, 50, 52, 48, 48, 48, 48, 43, 48, 48]⟩] 9) = W4 := ⟨_, rfl⟩
  have b1 : Below w3.heap.size w3 (w3.alloc (.cells #[.string ⟨#[84, 50, 52, 90]⟩, .string ⟨#[84, 50, 52, 58, 48, 48, 90]⟩, .string ⟨#[84, 50, 52, 58, 48, 48, 58, 48, 48, 43, 48, 48, 58, 48, 48]⟩] 9)) := alloc_below _ _
  have b2 : Below (w3.alloc (.cells #[.string ⟨#[84, 50, 52, 90]⟩, .string ⟨#[84, 50, 52, 58, 48, 48, 90]⟩, .string ⟨#[84, 50, 52, 58, 48, 48, 58, 48, 48, 43, 48, 48, 58, 48, 48]⟩] 9)).heap.size (w3.alloc (.cells #[.string ⟨#[84, 50, 52, 90]⟩, .string ⟨#[84, 50, 52, 58, 48, 48, 90]⟩, .string ⟨#[84, 50, 52, 58, 48, 48, 58, 48, 48, 43, 48, 48, 58, 48, 48]⟩] 9)) W4 := by rw [← hW4]; exact alloc_below _ _
  have c1 := (b2.block w3.heap.size (by simp)).trans (heap_alloc_new w3 (.cells #[.string ⟨#[84, 50, 52, 90]⟩, .string ⟨#[84, 50, 52, 58, 48, 48, 90]⟩, .string ⟨#[84, 50, 52, 58, 48, 48, 58, 48, 48, 43, 48, 48, 58, 48, 48]⟩] 9))
  have c2 : W4.heap[w3.heap.size + 1]? = some (.cells #[.string ⟨#[84, 50, 52, 90]⟩, .string ⟨#[84, 50, 52, 48, 48, 90]⟩, .string ⟨#[84, 50, 52, 48, 48, 48, 48, 43, 48, 48]⟩] 9 (0, 0)) := by
    have h := heap_alloc_new (w3.alloc (.cells #[.string ⟨#[84, 50, 52, 90]⟩, .string ⟨#[84, 50, 52, 58, 48, 48, 90]⟩, .string ⟨#[84, 50, 52, 58, 48, 48, 58, 48, 48, 43, 48, 48, 58, 48, 48]⟩] 9)) (.cells #[.string ⟨#[84, 50, 52, 90]⟩, .string ⟨#[84, 50, 52, 48, 48, 90]⟩, .string ⟨#[84, 50, 52, 48, 48, 48, 48, 43, 48, 48]⟩] 9)
    rw [hW4, World.size_alloc] at h
    exact h
  have S4 := (S3.out.call b1).call b2
  have R4 := hid (show MM w g w3.heap.size (w3.heap.size + 1) T W4 from ⟨S4.1, S4.2.2, fun j hj => cell_old (cell_old (HC.out j hj) b1) b2, fun j hj => by
      match j, hj with
      | 0, _ => rw [Lib.cell_of_heap c1]; rfl
      | 1, _ => rw [Lib.cell_of_heap c1]; rfl
      | 2, _ => rw [Lib.cell_of_heap c1]; rfl, fun j hj => by
      match j, hj with
      | 0, _ => rw [Lib.cell_of_heap c2]; rfl
      | 1, _ => rw [Lib.cell_of_heap c2]; rfl
      | 2, _ => rw [Lib.cell_of_heap c2]; rfl⟩)
  have HW4 := hid hW4
  clear b1 b2 c1 c2 S4 S3 HC W2 hW4 hN
  go_wp2_with fail
  try rw [HW4.out]
  clear HW4
  generalize w3.heap.size = wb at *
  have q0 : (A + 1) * 86400 ≤ 9223372036854775807 := by omega
  go_loopw [8] (fun i wr => ∃ f : Nat, i = .int .i64 (f : Int) ∧ f ≤ 6 ∧ MM w g wb (wb + 1) T wr) (fun i _ => 6 - (intOf i).toNat)
  case atStart => exact ⟨0, rfl, by omega, R4.out⟩
  case round =>
    clear R4
    obtain ⟨f, rfl, hf, hR⟩ := hrel
    have HR := hid hR
    clear hR
    by_cases h1 : f < 6
    · have e6 : (f : Int) < 6 := by omega
      go_wp2_with fail
      go_loopw [9] (fun i wr => ∃ k : Nat, i = .int .i64 (k : Int) ∧ k ≤ 3 ∧ MM w g wb (wb + 1) T wr) (fun i _ => 3 - (intOf i).toNat)
      case atStart => exact ⟨0, rfl, by omega, HR.out⟩
      case round =>
        clear HR
        obtain ⟨k, rfl, hk, hR⟩ := hrel
        have HR := hid hR
        clear hR
        by_cases h2 : k < 3
        · have ct := fun n => cell_old (HR.out.2.2.1 f h1) (below_drewN (Below.refl wr.heap.size wr) n)
          have ct' := HR.out.2.2.1 f h1
          have cw := fun n => cell_old (HR.out.2.2.2.1 k h2) (below_drewN (Below.refl wr.heap.size wr) n)
          have cw' := HR.out.2.2.2.1 k h2
          have cp := fun n => cell_old (HR.out.2.2.2.2 k h2) (below_drewN (Below.refl wr.heap.size wr) n)
          have cp' := HR.out.2.2.2.2 k h2
          have zt := HZ.out f h1
          have zw := Wd_size k
          have zp := Pl_size k
          obtain ⟨m0, m1, _⟩ := M.out f h1
          have HM0 := hid (fun he => m0 he k h2)
          have HM1 := hid (fun ho => m1 ho k h2)
          clear m0 m1
          obtain ⟨Tf, hTf⟩ : ∃ Tf, T f = Tf := ⟨_, rfl⟩
          obtain ⟨Wk, hWk⟩ : ∃ Wk, Wd k = Wk := ⟨_, rfl⟩
          obtain ⟨Pk, hPk⟩ : ∃ Pk, Pl k = Pk := ⟨_, rfl⟩
          have eTf := hid hTf
          have ePk := hid hPk
          rw [hTf] at ct' zt HM0 HM1
          simp only [hTf] at ct
          rw [hWk] at cw' zw HM0
          simp only [hWk] at cw
          rw [hPk] at cp' zp HM1
          simp only [hPk] at cp
          clear hTf hWk hPk
          have e3 : (k : Int) < 3 := by omega
          go_wp2_with fail
          go_quiet (fail)
          have HRq := hid (HR.out.stable (below_drewN (Below.refl wr.heap.size wr) nq))
          clear HR
          by_cases hp : f % 2 = 1
          · have hm : (f : Int).tmod 2 = 1 := by rw [Int.tmod_eq_emod_of_nonneg (by omega)]; omega
            have PI := hid (HM1.out hp)
            clear HM0 HM1 cw cw' ct ct' cp cp'
            obtain ⟨wq, hwq⟩ : ∃ wq, wr.drewN nq = wq := ⟨_, rfl⟩
            have HRq2 := hid (show MM w g wb (wb + 1) T wq by rw [← hwq]; exact HRq.out)
            rw [hwq]
            clear hwq HRq nq
            have ct := fun n => cell_old (HRq2.out.2.2.1 f h1) (below_drewN (Below.refl wq.heap.size wq) n)
            have ct' := HRq2.out.2.2.1 f h1
            have cp := fun n => cell_old (HRq2.out.2.2.2.2 k h2) (below_drewN (Below.refl wq.heap.size wq) n)
            have cp' := HRq2.out.2.2.2.2 k h2
            rw [eTf.out] at ct'
            rw [ePk.out] at cp'
            simp only [eTf.out] at ct
            simp only [ePk.out] at cp
            go_wp2_with fail
            go_quiet (fail)
            have HR6 := hid (HRq2.out.stable (below_drewN (Below.refl wq.heap.size wq) nq))
            clear HRq2 ct ct' cp cp'
            go_wp2_with fail
            refine (PI.out _ HR6.out.1).mono ?_
            rintro e w5 ⟨rfl, hb5⟩
            have HR5 := hid (HR6.out.stable hb5)
            clear hb5 PI HR6
            go_wp2
            go_roundw
            case rel => exact ⟨k + 1, by go_num, by omega, HR5.out⟩
            case measure => simp [intOf]; omega
          · have hm : (f : Int).tmod 2 = 0 := by rw [Int.tmod_eq_emod_of_nonneg (by omega)]; omega
            have PI := hid (HM0.out (by omega))
            clear HM0 HM1
            go_wp2_with fail
            refine (PI.out _ HRq.out.1).mono ?_
            rintro e w5 ⟨rfl, hb5⟩
            have HR5 := hid (HRq.out.stable hb5)
            clear hb5 PI HRq
            go_wp2
            go_roundw
            case rel => exact ⟨k + 1, by go_num, by omega, HR5.out⟩
            case measure => simp [intOf]; omega
        · have e3 : ¬ (k : Int) < 3 := by omega
          go_wp2_with fail
          go_roundw
          case rel => exact ⟨f + 1, by go_num, by omega, HR.out⟩
          case measure => simp [intOf]; omega
    · have e6 : ¬ (f : Int) < 6 := by omega
      have ct := HR.out.2.2.1 0 (by omega)
      have zt := HZ.out 0 (by omega)
      obtain ⟨x1, x2⟩ := (M.out 0 (by omega)).2.2 rfl
      have X1 := hid x1
      have X2 := hid x2
      clear x1 x2
      generalize T 0 = T0 at *
      go_wp2_with fail
      refine (X1.out _ HR.out.1).mono ?_
      rintro e w5 ⟨rfl, hb5⟩
      have HR5 := hid (HR.out.stable hb5)
      have ct5 := cell_old ct hb5
      clear hb5 X1 HR ct
      go_wp2_with fail
      refine (X2.out _ HR5.out.1).mono ?_
      rintro e w6 ⟨rfl, hb6⟩
      have HR6 := hid (HR5.out.stable hb6)
      clear hb6 X2 HR5 ct5
      go_wp2
      go_ret
      exact ⟨rfl, HR6.out.2.1⟩
end Go.Proofs.YtcmllfipaiacfaaGreatDoor
