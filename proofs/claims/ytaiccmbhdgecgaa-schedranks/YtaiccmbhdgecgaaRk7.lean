/-
  The program's Rank: every answer. Its first half is Mn8's.
-/
import Derived.Test.YtaiccmbhdgecgaaRk5
namespace Go.Proofs.Ytaiccmbhdgecgaa
open Go.RowKit
set_option maxRecDepth 100000
attribute [local go_sem ↓] mki_op

set_option maxHeartbeats 4000000 in
theorem rankE (v : Value) (L : List Nat) (w : World) (hr : RI w v (iN L)) (hin : ∀ x ∈ L, x < 16) (hLl : L.length ≤ 24) (hbig : cntA (iN (C16 L)) = (0, 26)) :
    Calls Try.prog 12 #[v] w fun e w' => e = .returned (.tuple #[.int .i64 0, .int .i64 26]) ∧ Below w.heap.size w w' := by
  have HAb := hid (areBelow_any v (iN L) 16 w hr (by rw [iN_len]; omega))
  rw [show inB (iN L) 16 = true from (inB_iff _ _).2 (fun i h => by rw [iN_len] at h; rw [iN_at L i _ h]; have := hin L[i] (List.getElem_mem _); omega)] at HAb
  have HCnt := hid hbig
  have HcR := hid (cR_is L hin)
  have HIn := hid hin
  obtain ⟨ao, cap, rfl, hcc, hn0, hcell⟩ := hr
  rw [iN_len] at hcc
  have HC := hid (show ∀ j (hj : j < L.length), ∃ g off, ao = some ⟨g, off, none⟩ ∧ w.cell? ⟨g, off + j, none⟩ = some (.int .i64 ((L[j] : Nat) : Int)) from fun j hj => by
    obtain ⟨g, off, e, c⟩ := hcell j (by rw [iN_len]; exact hj)
    rw [iN_at L j _ hj] at c
    exact ⟨g, off, e, c⟩)
  have hm16 : ∀ w : World, (mkI (.int .i64 16) (.int .i64 16)).run Try.prog w = .ok (.slice (some ⟨w.heap.size, 0, none⟩) 16 16) (w.alloc (.cells (ic (List.replicate 16 0)).toArray 3)) := run_mkI 16 (by omega)
  obtain ⟨Z, hZ⟩ : ∃ Z, (ic (List.replicate 16 0)).toArray = Z := ⟨_, rfl⟩
  rw [hZ] at hm16
  have HZ := hid hZ
  rw [iN_len] at HAb ⊢
  have hL24 : L.length ≤ 24 := by omega
  have hL24I : ¬ (24 : Int) < (L.length : Int) := by omega
  clear hcell hn0 hZ hin hbig
  go_enter Try.func12, Try.ntmps12
  go_wp2_with fail
  refine Calls.mono HAb.out ?_
  rintro e w1 ⟨rfl, rfl⟩
  clear HAb
  go_wp2_with fail
  obtain ⟨W, hW⟩ : ∃ W, w1.alloc (.cells Z 3) = W := ⟨_, rfl⟩
  rw [hW]
  have HB := hid (show Below w1.heap.size w1 W by rw [← hW]; exact (Below.refl _ _).alloc (Nat.le_refl _) _)
  have HRo := hid (show RowI W w1.heap.size (cR L 0) by rw [← hW, ← HZ.out]; exact heap_alloc_new w1 _)
  clear hW hm16 HZ
  generalize hgg : w1.heap.size = g at *
  go_loopw [6, 25] (fun _ vi wx => ∃ j : Nat, j ≤ L.length ∧ vi = .int .i64 (j : Int) ∧ RowI wx g (cR L j) ∧ Below g w1 wx) (fun _ vi _ => L.length - (intOf vi).toNat)
  case atStart => exact ⟨0, Nat.zero_le _, rfl, HRo.out, HB.out⟩
  case round =>
    obtain ⟨j, hj, rfl, hro, hB⟩ := hrel
    have HRo := hid hro
    have HB := hid hB
    clear hro hB
    by_cases h : j < L.length
    · have hI : (j : Int) < (L.length : Int) := by omega
      obtain ⟨g', off, e, c⟩ := HC.out j h
      subst e
      have c0 := below_cells (hgg ▸ HB.out) _ _ c
      have hx := HIn.out L[j] (List.getElem_mem _)
      have HS := hid (show cR L (j + 1) = (cR L j).set L[j] ((cR L j).getD L[j] 0 + 1) by rw [← gN L j h]; rfl)
      have hy := cR_le L j L[j]
      have k0 := HRo.out.cell L[j] (by rw [cR_len]; exact hx)
      have k1 := HRo.out.frozen L[j]
      have HPu := hid (HRo.out.put L[j] ((cR L j).getD L[j] 0 + 1))
      have HB2 := hid (show Below g w1 (wr.setCell ⟨g, L[j], none⟩ (.int .i64 ((cR L j).getD L[j] 0 + 1))) from HB.out.setCell (Nat.le_refl _) _)
      rw [← HS.out] at HPu
      clear c
      generalize (cR L j).getD L[j] 0 = y at *
      generalize L[j] = x at *
      have hxI : (x : Int) < 16 := by omega
      have hyI : y ≤ 24 := by omega
      go_wp2
      go_roundw
      case rel => exact ⟨j + 1, by omega, by go_num, HPu.out, HB2.out⟩
      case measure => simp [intOf]; omega
    · have hI : ¬ (j : Int) < (L.length : Int) := by omega
      obtain rfl : j = L.length := by omega
      have HRo2 := hid (show RowI wr g (iN (C16 L)) by have := HRo.out; rw [HcR.out _ (Nat.le_refl _), List.take_length] at this; exact this)
      have HCo := hid (show Calls Try.prog 9 #[.slice (some ⟨g, 0, none⟩) 16 16] wr fun e w' => e = .returned (.tuple #[.int .i64 0, .int .i64 26]) ∧ w' = wr by
        have h1 := HRo2.out.reads
        rw [iN_len, C16_len] at h1
        have := countR_any _ (iN (C16 L)) wr h1 (by rw [iN_len, C16_len]; decide)
        rw [HCnt.out] at this
        exact this)
      go_wp2_with fail
      refine Calls.mono HCo.out ?_
      rintro e w3 ⟨rfl, rfl⟩
      clear HCo
      go_wp2
      go_ret2
      exact ⟨rfl, hgg ▸ HB.out⟩
set_option maxHeartbeats 1000000 in
theorem rankA_any (v : Value) (R : List Int) (w : World) (hr : RI w v R) (hl : R.length ≤ 9223372036854775807) :
    Calls Try.prog 12 #[v] w fun e w' => RkA R e ∧ Below w.heap.size w w' := by
  by_cases hbad : ¬ inB R 16 = true ∨ 24 < R.length
  · have HAb := hid (areBelow_any v R 16 w hr hl)
    have HA := hid (show RkA R (.returned (.tuple #[.int .i64 0, .int .i64 2])) from .inl ⟨hbad, rfl⟩)
    obtain ⟨ao, cap, rfl⟩ := hr.len0
    clear hr
    cases hin : inB R 16 with
    | false =>
      rw [hin] at HAb
      clear hbad hin
      go_enter Try.func12, Try.ntmps12
      go_wp2_with fail
      refine Calls.mono HAb.out ?_
      rintro e w1 ⟨rfl, rfl⟩
      clear HAb
      go_wp2
      go_ret2
      exact ⟨HA.out, Below.refl _ _⟩
    | true =>
      have h24 : 24 < R.length := by
        rcases hbad with h | h
        · exact absurd hin h
        · exact h
      have h24I : (24 : Int) < (R.length : Int) := by omega
      rw [hin] at HAb
      clear hbad hin
      go_enter Try.func12, Try.ntmps12
      go_wp2_with fail
      refine Calls.mono HAb.out ?_
      rintro e w1 ⟨rfl, rfl⟩
      clear HAb
      go_wp2
      go_ret2
      exact ⟨HA.out, Below.refl _ _⟩
  · have hin : inB R 16 = true := by
      by_cases c : inB R 16 = true
      · exact c
      · exact absurd (.inl c) hbad
    have h24 : R.length ≤ 24 := by
      rcases Nat.lt_or_ge 24 R.length with h | h
      · exact absurd (.inr h) hbad
      · exact h
    obtain ⟨L, rfl, hx⟩ := nat_list hin
    rw [iN_len] at h24
    have hct := ctof16 L hx
    have hsk : stOk (iN (C16 L)) = true := stOk_mk ((okN_iff _).2 (by rw [C16_len]; decide)) (by rw [hct.t]; exact h24)
    have hc := cntA_is (C16 L) hsk
    obtain ⟨n, hmx, hlt⟩ := mx_of L (C16 L) (fun i => (hct.1 i).symm) hct.2.2 (by rw [hct.t]; exact h24)
    by_cases hbig : mN (C16 L) ≤ 4611686018427387904
    · rw [if_pos hbig] at hc
      refine (rankX v L (C16 L) n w hr hmx (by rw [C16_len]; decide) (by rw [C16_len]; decide) (by rw [hct.t]; exact h24) hbig hc hlt).mono ?_
      rintro e w' ⟨rfl, hb⟩
      exact ⟨.inr (.inr ⟨L, n, rfl, hx, h24, hbig, hmx, rfl⟩), hb⟩
    · rw [if_neg hbig] at hc
      refine (rankE v L w hr hx h24 hc).mono ?_
      rintro e w' ⟨rfl, hb⟩
      exact ⟨.inr (.inl ⟨L, rfl, hx, h24, by omega, rfl⟩), hb⟩
end Go.Proofs.Ytaiccmbhdgecgaa
