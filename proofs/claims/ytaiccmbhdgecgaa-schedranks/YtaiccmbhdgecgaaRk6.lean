/-
  The document's Rank.
-/
import Derived.Test.YtaiccmbhdgecgaaRk5
import Derived.Deep.QuietTactic
import Derived.BigQuiet
namespace Go.Proofs.Ytaiccmbhdgecgaa
open Go.RowKit
set_option maxRecDepth 100000

/-- between two picks of the document's Rank -/
structure DR (n : Nat) (w1 wx : World) (vm : Value) (T N' : List Nat) (n' r : Nat) : Prop where
  ri : RI wx vm (iN N')
  len : N'.length ≤ 16
  mx : Mx N' n' T
  sum : r + n' = n
  tt : tN2 N' ≤ 24
  mm : mN N' ≤ 4611686018427387904
  be : Below w1.heap.size w1 wx
theorem rk_nil : mN (C16 []) ≤ 4611686018427387904 ∧ Mx (C16 []) 0 [] := by
  refine ⟨by decide +kernel, ?_⟩
  refine ⟨by decide +kernel, rfl⟩
set_option maxHeartbeats 4000000 in
theorem rank7_any (v : Value) (R : List Int) (w : World) (hr : RI w v R) (hl : R.length ≤ 9223372036854775807) :
    Calls Try.prog 24 #[v] w fun e w' => RkA R e ∧ Below w.heap.size w w' := by
  have HNu := hid (numbers7_any v R w hr hl)
  by_cases hbad : ¬ inB R 16 = true ∨ 24 < R.length
  · have HA := hid (show RkA R (.returned (.tuple #[.int .i64 0, .int .i64 2])) from .inl ⟨hbad, rfl⟩)
    obtain ⟨ao, cap, rfl⟩ := hr.len0
    clear hr
    by_cases h24 : 24 < R.length
    · have h24I : (24 : Int) < (R.length : Int) := by omega
      clear hbad
      go_enter Try.func24, Try.ntmps24
      go_wp2
      go_ret2
      exact ⟨HA.out, Below.refl _ _⟩
    · have h24I : ¬ (24 : Int) < (R.length : Int) := by omega
      have hin : inB R 16 = false := by
        rcases hbad with h | h
        · simpa using h
        · exact absurd h h24
      rw [hin] at HNu
      clear hbad hin
      go_enter Try.func24, Try.ntmps24
      go_wp2_with fail
      refine Calls.mono HNu.out ?_
      rintro e w1 ⟨rfl, rfl⟩
      clear HNu
      go_wp2
      go_ret2
      exact ⟨HA.out, Below.refl _ _⟩
  · have hin : inB R 16 = true := by
      by_cases c : inB R 16 = true
      · exact c
      · exact absurd (.inl c) hbad
    have h24 : R.length ≤ 24 := by
      rcases Nat.lt_or_ge 24 R.length with h | h
      · exact absurd (.inr h) hbad
      · exact h
    clear hbad
    obtain ⟨L, rfl, hx⟩ := nat_list hin
    rw [hin] at HNu
    rw [iN_len] at h24
    have HSo := hid (stepsOf_any v L w hr hx h24)
    obtain ⟨ao, cap, rfl, hcc, hn0, hcell⟩ := hr
    rw [iN_len] at hcc
    have HC := hid (show ∀ j (hj : j < L.length), ∃ g off, ao = some ⟨g, off, none⟩ ∧ w.cell? ⟨g, off + j, none⟩ = some (.int .i64 ((L[j] : Nat) : Int)) from fun j hj => by
      obtain ⟨g, off, e, c⟩ := hcell j (by rw [iN_len]; exact hj)
      rw [iN_at L j _ hj] at c
      exact ⟨g, off, e, c⟩)
    rw [iN_len] at HNu HSo ⊢
    have h24I : ¬ (24 : Int) < (L.length : Int) := by omega
    have HX := hid hx
    clear hcell hn0 hx hin hl
    rcases Nat.eq_zero_or_pos L.length with h0 | hpos
    · obtain rfl : L = [] := List.eq_nil_of_length_eq_zero h0
      have HA := hid (show RkA (iN []) (.returned (.tuple #[.int .i64 0, .int .i64 0])) from .inr (.inr ⟨[], 0, rfl, (by intro x hx; cases hx), by simp, rk_nil.1, rk_nil.2, rfl⟩))
      clear HSo HC h0
      go_enter Try.func24, Try.ntmps24
      go_wp2_with fail
      refine Calls.mono HNu.out ?_
      rintro e w1 ⟨rfl, rfl⟩
      clear HNu
      go_wp2
      go_ret2
      exact ⟨HA.out, Below.refl _ _⟩
    have hb0 : ((L.length : Int) == 0) = false := beq_eq_false_iff_ne.2 (by omega)
    go_enter Try.func24, Try.ntmps24
    go_wp2_with fail
    refine Calls.mono HNu.out ?_
    rintro e w1 ⟨rfl, rfl⟩
    clear HNu
    go_wp2_with fail
    refine Calls.mono HSo.out ?_
    rintro e w2 ⟨⟨vm, N, rfl, ho, hct⟩, hb2⟩
    have hp := hct.pad HX.out
    have hNt := hct.t
    have hN1 : 1 ≤ N.length := by have := hct.2.2 L[0] (List.getElem_mem _); omega
    have hsk : stOk (iN N) = true := stOk_mk ((okN_iff _).2 (by have := hct.2.1; omega)) (by rw [hNt]; exact h24)
    have HCo := hid (count7_any vm (iN N) w2 ho.reads (by rw [iN_len]; have := hct.2.1; omega))
    rw [cntA_is N hsk] at HCo
    obtain ⟨n, hmx, hlt⟩ := mx_of L N (fun i => (hct.1 i).symm) hct.2.2 (by rw [hNt]; exact h24)
    have B2 := hid hb2
    by_cases hbig : mN N ≤ 4611686018427387904
    · rw [if_pos hbig] at HCo
      have HA := hid (show RkA (iN L) (.returned (.tuple #[.int .i64 (n : Int), .int .i64 0])) from .inr (.inr ⟨L, n, rfl, HX.out, h24, by rw [hp.m]; exact hbig, mx_pad hmx _ hp, rfl⟩))
      have hnI : (n : Int) ≤ 4611686018427387904 := by omega
      have HP0 := hid (show DR n w1 w2 vm L N n 0 from ⟨ho.reads, hct.2.1, hmx, by omega, by rw [hNt]; exact h24, hbig, hb2⟩)
      generalize mN N = MM at *
      clear HSo ho hct hp hNt hN1 hsk hmx hlt hb2 hbig
      go_wp2_with fail
      refine Calls.mono HCo.out ?_
      rintro e w3 ⟨rfl, rfl⟩
      clear HCo
      go_wp2_with fail
      go_loopw [4, 7, 8, 9, 10, 11] (fun vl vr vi _ _ _ wx => ∃ (k r n' : Nat) (N' : List Nat), k ≤ L.length ∧ vi = .int .i64 (k : Int) ∧ vr = .int .i64 (r : Int) ∧ DR n w1 wx vl (L.drop k) N' n' r) (fun _ _ vi _ _ _ _ => L.length - (intOf vi).toNat)
      case atStart => exact ⟨0, 0, n, N, Nat.zero_le _, rfl, rfl, HP0.out⟩
      case round =>
        obtain ⟨k, r, n', N', hk, rfl, rfl, hp⟩ := hrel
        have HP := hid hp
        clear hp HP0
        by_cases hkl : k < L.length
        · have hkI : (k : Int) < (L.length : Int) := by omega
          obtain ⟨g', off, e, c⟩ := HC.out k hkl
          subst e
          have HC0 := hid c
          have HY := hid (show DR n w1 wr _ (L[k] :: L.drop (k + 1)) N' n' r by rw [← List.drop_eq_getElem_cons hkl]; exact HP.out)
          have hx := HX.out L[k] (List.getElem_mem _)
          clear c HP
          generalize L[k] = p at *
          obtain ⟨t1, t2, t3, t4⟩ := mx_tail HY.out.mx
          have H1 := hid t1
          have H2 := hid t2
          have H3 := hid t3
          have H4 := hid t4
          have HS1 := hid (show 1 ≤ tN2 N' by have := getD_le N' p H1.out; have := H2.out; omega)
          have hpI : (p : Int) < 16 := by omega
          have hSn := HY.out.sum
          clear t1 t2 t3 t4
          obtain ⟨wo, hwo⟩ : ∃ wo, wo = wr := ⟨_, rfl⟩
          subst hwo
          obtain ⟨am, cm, hvm⟩ := HY.out.ri.len0
          rw [iN_len] at hvm
          subst hvm
          have hlm := HY.out.len
          go_wp2_with fail
          go_loopw [7, 9, 10, 11] (fun vr vh _ _ wx => ∃ h : Nat, h ≤ p ∧ vr = .int .i64 ((r + bS N' h : Nat) : Int) ∧ vh = .int .i64 (h : Int) ∧ Below wo.heap.size wo wx) (fun _ vh _ _ _ => p - (intOf vh).toNat)
          case atStart => exact ⟨0, by omega, rfl, rfl, Below.refl _ _⟩
          case round =>
            obtain ⟨h, hh, rfl, rfl, hB⟩ := hrel
            have HB := hid hB
            have HBw := hid (HY.out.be.trans (hB.mono HY.out.be.size))
            have c0 := below_cells HBw.out _ _ HC0.out
            have HRi := hid (HY.out.ri.below hB)
            clear hB
            by_cases hlt : h < p
            · have hlI : (h : Int) < (p : Int) := by omega
              have hh' : h < N'.length := by have := H1.out; omega
              have hhN : (h : Int) < (N'.length : Int) := by omega
              have hle := bS_mono N' (show h + 1 ≤ p from hlt)
              have he : bS N' (h + 1) = bS N' h + bg N' h := rfl
              have h3 := H3.out
              have HE := hid he
              obtain ⟨_, _, hvs, _, _, hKc⟩ := HRi.out
              obtain ⟨gk, offk, hgk, ck⟩ := hKc h (by rw [iN_len]; exact hh')
              rw [iN_at N' h _ hh', ← gN N' h hh'] at ck
              have hao : am = some ⟨gk, offk, none⟩ := by injection hvs with e1 e2 e3; rw [e1, hgk]
              subst hao
              clear hKc hvs hgk
              rcases Nat.eq_zero_or_pos (N'.getD h 0) with hz | hp1
              · rw [hz] at ck
                have ck : wr.cell? ⟨gk, offk + h, none⟩ = some (.int .i64 0) := ck
                have hb0 := (bg_mul N' h hh' HY.out.tt HS1.out).2.1 hz
                have HE1 := hid (show bS N' (h + 1) = bS N' h by rw [he, hb0]; rfl)
                generalize bS N' h = s0 at *
                clear hb0 hz he hle h3 hlt HE
                go_wp2
                go_roundw
                case rel => exact ⟨h + 1, by omega, by rw [HE1.out], by go_num, HB.out⟩
                case measure => simp [intOf]; omega
              · have hgt : (0 : Int) < ((N'.getD h 0 : Nat) : Int) := by omega
                have HLe := hid (less7_any _ N' h wr HRi.out hlm hh' hp1 HY.out.tt)
                have HCA := hid (cntA_less N' h hh' hp1 hlm HY.out.tt HY.out.mm)
                generalize N'.getD h 0 = y at *
                obtain ⟨x, hx2⟩ : ∃ x, r + bS N' h = x := ⟨_, rfl⟩
                obtain ⟨b, hb2⟩ : ∃ b, bg N' h = b := ⟨_, rfl⟩
                have HX2 := hid hx2
                have HB2 := hid hb2
                rw [hb2] at HCA
                rw [hx2]
                have hxb : (x : Int) + (b : Int) ≤ 4611686018427387904 := by omega
                clear hle he h3 hx2 hb2 hlt
                go_wp2_with fail
                refine Calls.mono HLe.out ?_
                rintro e w5 ⟨⟨v5, rfl, ho5⟩, hb5⟩
                have HC5 := hid (count7_any v5 _ w5 ho5.reads (by rw [iN_len, less_len]; omega))
                rw [HCA.out] at HC5
                have HB5 := hid (HB.out.trans (hb5.mono HB.out.size))
                clear HLe ho5 hb5 HCA
                go_wp2_with fail
                refine Calls.mono HC5.out ?_
                rintro e w6 ⟨rfl, rfl⟩
                clear HC5
                go_wp2
                go_roundw
                case rel =>
                  refine ⟨h + 1, by omega, ?_, by go_num, HB5.out⟩
                  have := HE.out
                  have := HX2.out
                  have := HB2.out
                  rw [show ((r + bS N' (h + 1) : Nat) : Int) = (x : Int) + (b : Int) by omega]
                case measure => simp [intOf]; omega
            · have hlI : ¬ (h : Int) < (p : Int) := by omega
              obtain rfl : h = p := by omega
              have HLe := hid (less7_any _ N' h wr HRi.out hlm H1.out H2.out HY.out.tt)
              clear hlt
              go_wp2_with fail
              refine Calls.mono HLe.out ?_
              rintro e w6 ⟨⟨v6, rfl, ho6⟩, hb6⟩
              have HO6 := hid ho6
              have HB6 := hid (HBw.out.trans (hb6.mono HBw.out.size))
              clear ho6 hb6 HLe
              go_wp2
              go_roundw
              case rel =>
                have hp2 := HY.out.tt
                have ht := (mN_less N' h H1.out H2.out hp2).2
                have h3 := H3.out
                exact ⟨k + 1, r + bS N' h, n' - bS N' h, less N' h, by omega, by go_num, rfl, ⟨HO6.out.reads, by rw [less_len]; exact hlm, H4.out, by omega, by omega, Nat.le_trans (mN_less_le N' h H1.out HS1.out hp2 H2.out) HY.out.mm, HB6.out⟩⟩
              case measure => simp [intOf]; omega
        · have hkI : ¬ (k : Int) < (L.length : Int) := by omega
          obtain rfl : k = L.length := by omega
          have h0 : n' = 0 := by
            have := HP.out.mx
            rw [List.drop_length] at this
            exact mx_nil this
          have hrn : r = n := by have := HP.out.sum; omega
          subst hrn
          go_wp2
          go_ret2
          exact ⟨HA.out, HP.out.be⟩
    · rw [if_neg hbig] at HCo
      have HA := hid (show RkA (iN L) (.returned (.tuple #[.int .i64 0, .int .i64 26])) from .inr (.inl ⟨L, rfl, HX.out, h24, by rw [hp.m]; omega, rfl⟩))
      generalize mN N = MM at *
      clear HSo ho hct hp hNt hN1 hsk hmx hlt hb2 hbig
      go_wp2_with fail
      refine Calls.mono HCo.out ?_
      rintro e w3 ⟨rfl, rfl⟩
      clear HCo
      go_wp2
      go_ret2
      exact ⟨HA.out, B2.out⟩
end Go.Proofs.Ytaiccmbhdgecgaa
