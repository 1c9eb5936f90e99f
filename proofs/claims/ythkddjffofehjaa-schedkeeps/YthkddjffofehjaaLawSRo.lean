/-
  SchedRounds: the law's walk.
-/
import Derived.Test.YthkddjffofehjaaSr2
namespace Go.Proofs.Ythkddjffofehjaa
open Go.RowKit Go.Shelf
set_option maxRecDepth 100000

def bnd (k n : Int) : Int := max 0 (min k n)
theorem bounded_any (k n : Int) (w : World) : Calls Try.prog 13 #[.int .i64 k, .int .i64 n] w fun e w' => e = .returned (.int .i64 (bnd k n)) ∧ w' = w := by
  go_enter Try.func13, Try.ntmps13
  go_wp2
  all_goals go_ret
  all_goals refine ⟨?_, rfl⟩
  all_goals exact congrArg (fun z => Ending.returned (Value.int .i64 z)) (by unfold bnd; omega)

theorem rdt_at (n k i : Nat) (h : i < ((rdL n 65536).take k).length) : ((rdL n 65536).take k)[i] = (i : Int) % (n : Int) := by
  rw [List.getElem_take]
  simp [rdL]

set_option maxHeartbeats 1000000 in
theorem rounds_yes (n most : Int) (w : World) (hn : okN n = true) :
    Calls Try.prog 4 #[.int .i64 n, .int .i64 most] w fun e w' => e = .returned (.bool true) ∧ Below w.heap.size w w' := by
  have HBd := hid (bounded_any most 65537)
  obtain ⟨nn, hnn, hn6⟩ : ∃ nn : Nat, bnd most 65537 = (nn : Int) ∧ nn ≤ 65537 := ⟨(bnd most 65537).toNat, by unfold bnd; omega, by unfold bnd; omega⟩
  rw [hnn] at HBd
  have HR := hid (rounds_any n w)
  have HN := hid hn
  obtain ⟨n1, n2⟩ := (okN_iff n).1 hn
  obtain ⟨m, rfl⟩ : ∃ m : Nat, n = (m : Int) := ⟨n.toNat, by omega⟩
  clear hn hnn
  go_enter Try.func4, Try.ntmps4
  go_wp2_with fail
  refine (HBd.out _).mono ?_
  rintro e w0 ⟨rfl, rfl⟩
  go_wp2_with fail
  refine HR.out.mono ?_
  rintro e w1 ⟨(⟨_, g, rfl, hx⟩ | ⟨hno, _⟩), hb1⟩
  case inr => rw [HN.out] at hno; cases hno
  have HX := hid hx
  have B1 := hid hb1
  have hnl := seq_notnil (.func 29) #[] #[.pointer (some ⟨g, 0, none⟩)]
  have eg := enters_of Try.func29 (by kernel_rfl) rfl
  have HSo := hid (fun w2 (h : IBox w2 g (m : Int)) => some_any 29 #[.pointer (some ⟨g, 0, none⟩)] (rdL m 65536) nn w2 eg (rounds_stops 4 (by omega) g w2.heap.size m h.facts.2.2 ⟨by omega, by omega⟩ w2 h) (by rw [rdL_len]; exact Nat.le_refl _) hn6)
  clear hx hb1 HBd HR eg
  go_wp2_with fail
  refine (HSo.out _ HX.out).mono ?_
  rintro e w2 ⟨⟨v, rfl, ho⟩, hb2⟩
  have HO := hid ho
  have B2 := hid (B1.out.trans (hb2.mono B1.out.size))
  have HX2 := hid (HX.out.later hb2)
  have hlen : ((rdL m 65536).take nn).length = min nn 65536 := by rw [List.length_take, rdL_len]
  obtain ⟨ao, cap, hv, hpc, hpn, hcell⟩ := ho.reads
  subst hv
  have HC := hid hcell
  have HAt := hid (rdt_at m nn)
  generalize (rdL m 65536).take nn = R at *
  have hcs : ((nn : Int) ≤ 65536 ∧ ((R.length : Int) == (nn : Int)) = true) ∨ ((65536 : Int) < (nn : Int) ∧ ((R.length : Int) == 65536) = true) := by
    by_cases h : nn ≤ 65536
    · exact .inl ⟨by omega, by simp; omega⟩
    · exact .inr ⟨by omega, by simp; omega⟩
  have hRl : R.length ≤ 65536 := by omega
  have HNN := hid hn6
  clear hlen hn6 hcell ho hb2 hpn
  rcases hcs with ⟨h6, hcb⟩ | ⟨h6, hcb⟩
  all_goals
    go_wp2
    clear hcb hnl
    go_loopw [9] (fun i wr => ∃ k : Nat, k ≤ R.length ∧ i = .int .i64 k ∧ Below w2.heap.size w2 wr) (fun i _ => R.length - (intOf i).toNat)
    case atStart => exact ⟨0, by omega, rfl, Below.refl _ _⟩
    case round =>
      obtain ⟨k, hk, rfl, hbl⟩ := hrel
      have HB := hid hbl
      clear hbl
      by_cases h : k < R.length
      · have hI : (k : Int) < (R.length : Int) := by omega
        obtain ⟨g2, off, hao, c1⟩ := HC.out k h
        rw [HAt.out k h] at c1
        subst hao
        have c1 := below_cells HB.out _ _ c1
        have hz : (m : Int) ≠ 0 := by omega
        have hx : ((k : Int) % (m : Int) == (k : Int) % (m : Int)) = true := by simp
        go_wp2
        go_quiet (fail)
        go_wp2
        go_roundw
        case rel => exact ⟨k + 1, by omega, by go_num, below_drewN HB.out _⟩
        case measure => simp [intOf]; omega
      · have hI : ¬ (k : Int) < (R.length : Int) := by omega
        have HO3 := hid (HO.out.reads.below HB.out)
        go_wp2_with fail
        refine (HSo.out _ (HX2.out.later HB.out)).mono ?_
        rintro e w4 ⟨⟨v, rfl, ho⟩, hb4⟩
        have HSm := hid (same_any v _ R R w4 ho.reads (HO3.out.below hb4) (by omega) (by omega))
        have B4 := hid (B2.out.trans ((HB.out.trans (hb4.mono HB.out.size)).mono B2.out.size))
        clear ho hb4
        go_wp2_with fail
        refine HSm.out.mono ?_
        rintro e w5 ⟨⟨b, rfl, hbt⟩, hb5⟩
        obtain rfl : b = true := by simpa using hbt
        have B5 := hid (B4.out.trans (hb5.mono B4.out.size))
        clear hb5 hbt
        go_wp2
        go_ret
        exact ⟨rfl, B5.out⟩

set_option maxHeartbeats 1000000 in
theorem rounds_no (n most : Int) (w : World) (hn : okN n = false) :
    Calls Try.prog 4 #[.int .i64 n, .int .i64 most] w fun e w' => e = .returned (.bool true) ∧ Below w.heap.size w w' := by
  have HBd := hid (bounded_any most 65537)
  obtain ⟨nn, hnn, hn6⟩ : ∃ nn : Nat, bnd most 65537 = (nn : Int) ∧ nn ≤ 65537 := ⟨(bnd most 65537).toNat, by unfold bnd; omega, by unfold bnd; omega⟩
  rw [hnn] at HBd
  have HR := hid (rounds_any n w)
  have HN := hid hn
  have hcs : n < 1 ∨ (1 ≤ n ∧ (16 : Int) < n) := by
    have : ¬ (1 ≤ n ∧ n ≤ 16) := fun h => by rw [(okN_iff n).2 h] at hn; cases hn
    omega
  clear hn hnn
  go_enter Try.func4, Try.ntmps4
  go_wp2_with fail
  refine (HBd.out _).mono ?_
  rintro e w0 ⟨rfl, rfl⟩
  go_wp2_with fail
  refine HR.out.mono ?_
  rintro e w1 ⟨(⟨hno, _⟩ | ⟨_, rfl⟩), hb1⟩
  case inl => rw [HN.out] at hno; cases hno
  have B1 := hid hb1
  have hnl := seq_notnil (.func 28) #[] #[]
  have eg := enters_of Try.func28 (by kernel_rfl) rfl
  have HSo := hid (fun w2 => some_any 28 #[] [] nn w2 eg (nothing_stops 4 w2.heap.size w2) (by simp) hn6)
  simp only [List.take_nil] at HSo
  clear hb1 HBd HR eg
  go_wp2_with fail
  refine (HSo.out _).mono ?_
  rintro e w2 ⟨⟨v, rfl, ho⟩, hb2⟩
  have HO := hid ho
  have B2 := hid (B1.out.trans (hb2.mono B1.out.size))
  obtain ⟨ao, cap, hv, hpc, hpn, hcell⟩ := ho.reads
  subst hv
  have HNN := hid hn6
  clear hn6 hcell ho hb2 hpn
  simp only [List.length_nil] at hpc HO ⊢
  rcases hcs with h1 | ⟨h0, h1⟩
  all_goals
    go_wp2
    clear hnl
    go_loopw [9] (fun i wr => i = .int .i64 0 ∧ wr = w2) (fun i _ => 0)
    case atStart => exact ⟨rfl, rfl⟩
    case round =>
      obtain ⟨rfl, rfl⟩ := hrel
      go_wp2_with fail
      refine (HSo.out _).mono ?_
      rintro e w4 ⟨⟨v, rfl, ho⟩, hb4⟩
      have HSm := hid (same_any v _ [] [] w4 ho.reads (HO.out.reads.below hb4) (by simp) (by simp))
      have B4 := hid (B2.out.trans (hb4.mono B2.out.size))
      clear ho hb4
      go_wp2_with fail
      refine HSm.out.mono ?_
      rintro e w5 ⟨⟨b, rfl, hbt⟩, hb5⟩
      obtain rfl : b = true := by simpa using hbt
      have B5 := hid (B4.out.trans (hb5.mono B4.out.size))
      clear hb5 hbt
      go_wp2
      go_ret
      exact ⟨rfl, B5.out⟩
end Go.Proofs.Ythkddjffofehjaa
