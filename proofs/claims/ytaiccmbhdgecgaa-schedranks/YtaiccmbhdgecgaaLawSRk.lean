/-
  SchedRanks: the law's walk.
-/
import Derived.Test.YtaiccmbhdgecgaaRk4
import Derived.Test.YtaiccmbhdgecgaaRk6
import Derived.Test.YtaiccmbhdgecgaaRk7
import Derived.Test.YtaiccmbhdgecgaaSw2
import Derived.Test.YtaiccmbhdgecgaaSb
namespace Go.Proofs.Ytaiccmbhdgecgaa
open Go.RowKit
set_option maxRecDepth 100000

theorem RkA.form {R : List Int} {e : Ending} (h : RkA R e) : ∃ x g : Int, e = .returned (.tuple #[.int .i64 x, .int .i64 g]) := by
  rcases h with ⟨_, rfl⟩ | ⟨L, _, _, _, _, rfl⟩ | ⟨L, n, _, _, _, _, _, rfl⟩ <;> exact ⟨_, _, rfl⟩
theorem SwA.form {R : List Int} {e : Ending} (h : SwA R e) : ∃ x g : Int, e = .returned (.tuple #[.int .i64 x, .int .i64 g]) := by
  rcases h with ⟨_, rfl⟩ | ⟨_, _, rfl⟩ | ⟨_, _, L, _, _, rfl⟩ <;> exact ⟨_, _, rfl⟩
theorem NthA.form {R : List Int} {n : Int} {w w' : World} {e : Ending} (h : NthA R n w w' e) : ∃ (v : Value) (A : List Int) (g : Int), e = .returned (.tuple #[v, .int .i64 g]) ∧ RI w' v A ∧ A.length ≤ 24 ∧ ∀ w2 w3 f, NthA R n w2 w3 f → ∃ v2, f = .returned (.tuple #[v2, .int .i64 g]) ∧ RI w3 v2 A := by
  rcases h with ⟨h1, rfl⟩ | ⟨h1, h2, rfl⟩ | ⟨h1, N, m, v', L, h2, h3, h4, h5, h6, h7, h8, h9, rfl, ho, hx⟩
  · refine ⟨_, [], _, rfl, RI.nil _, by simp, ?_⟩
    rintro w2 w3 f (⟨k1, rfl⟩ | ⟨k1, k2, rfl⟩ | ⟨k1, _⟩)
    · exact ⟨_, rfl, RI.nil _⟩
    · exact absurd k1 h1
    · exact absurd k1 h1
  · refine ⟨_, [], _, rfl, RI.nil _, by simp, ?_⟩
    rintro w2 w3 f (⟨k1, rfl⟩ | ⟨k1, k2, rfl⟩ | ⟨k1, N, m, v', L, k2, k3, k4, k5, _⟩)
    · exact absurd h1 k1
    · exact ⟨_, rfl, RI.nil _⟩
    · exfalso
      rw [k5] at h2
      have h2 : n < 0 ∨ ((mN N : Nat) : Int) ≤ n := h2
      omega
  · refine ⟨v', iN L, _, rfl, ho.reads, by rw [iN_len, mx_len hx h8]; exact h8, ?_⟩
    rintro w2 w3 f (⟨k1, rfl⟩ | ⟨k1, k2, rfl⟩ | ⟨k1, M, p, v2, K, k2, k3, k4, k5, k6, k7, k8, k9, rfl, ko, kx⟩)
    · exact absurd h1 k1
    · exfalso
      rw [h5] at k2
      have k2 : n < 0 ∨ ((mN N : Nat) : Int) ≤ n := k2
      omega
    · obtain rfl := iN_inj (h2.symm.trans k2)
      obtain rfl : m = p := by omega
      obtain rfl := mx_same _ _ _ _ hx kx
      exact ⟨v2, rfl, ko.reads⟩
set_option maxHeartbeats 4000000 in
theorem ranks_any (v p : Value) (R P : List Int) (n : Int) (w : World) (hr : RI w v R) (hp : RI w p P) (hl : R.length * 8 ≤ reachBytes) (hl2 : P.length * 8 ≤ reachBytes) (hn : -9223372036854775808 ≤ n ∧ n ≤ 9223372036854775807) :
    Calls Try.prog 6 #[v, .int .i64 n, p] w fun e w' => e = .returned (.bool true) ∧ Below w.heap.size w w' := by
  have hl' : (R.length + 9) * 8 ≤ 140737488355328 := by have : reachBytes = 140737488351232 := rfl; omega
  have hl2' : (P.length + 9) * 8 ≤ 140737488355328 := by have : reachBytes = 140737488351232 := rfl; omega
  have HL := hid (lent_any v R w hr hl')
  have HR := hid hr
  have HP := hid hp
  obtain ⟨ao, cap, rfl⟩ := hr.len0
  obtain ⟨ap, capp, rfl⟩ := hp.len0
  clear hr hp hl hl2
  go_enter Try.func6, Try.ntmps6
  go_wp2_with fail
  refine HL.out.mono ?_
  rintro e w1 ⟨v', rfl, hv', hb1⟩
  have HV := hid hv'
  have B1 := hid hb1
  have HL2 := hid (lent_any _ P w1 (HP.out.below hb1) hl2')
  clear hv' hb1 HL
  go_wp2_with fail
  refine HL2.out.mono ?_
  rintro e w2 ⟨p', rfl, hp', hb2⟩
  have HQ := hid hp'
  have B2 := hid (B1.out.trans (hb2.mono B1.out.size))
  have HV2 := hid (HV.out.below hb2)
  have HN := hid (nthR_any v' R n w2 HV2.out.reads (by omega) hn)
  clear hp' hb2 HL2 HV
  go_wp2_with fail
  refine HN.out.mono ?_
  rintro e w3 ⟨ha, hb3⟩
  obtain ⟨va, A, ea, rfl, hra, hA24, hsame⟩ := ha.form
  have HA := hid hra
  have HSame := hid hsame
  have B3 := hid (B2.out.trans (hb3.mono B2.out.size))
  have HV3 := hid (HV2.out.below hb3)
  have HQ3 := hid (HQ.out.below hb3)
  have HM := hid (nth7R_any _ R n w3 (HR.out.below B3.out) (by omega) hn)
  clear ha hra hsame hb3 HN HV2 HQ
  go_wp2_with fail
  refine HM.out.mono ?_
  rintro e w4 ⟨ha, hb4⟩
  obtain ⟨vb, rfl, hrb⟩ := HSame.out _ _ _ ha
  have HB := hid hrb
  have HA4 := hid (HA.out.below hb4)
  have B4 := hid (B3.out.trans (hb4.mono B3.out.size))
  have HV4 := hid (HV3.out.below hb4)
  have HQ4 := hid (HQ3.out.below hb4)
  have HRk := hid (rankA_any p' P w4 HQ4.out.reads (by omega))
  clear ha hrb hb4 HM HSame HA HV3 HQ3
  go_wp2_with fail
  refine HRk.out.mono ?_
  rintro e w5 ⟨ha, hb5⟩
  obtain ⟨x, g, rfl⟩ := ha.form
  have HK := hid ha
  have HA5 := hid (HA4.out.below hb5)
  have HB5 := hid (HB.out.below hb5)
  have B5 := hid (B4.out.trans (hb5.mono B4.out.size))
  have HV5 := hid (HV4.out.below hb5)
  have HQ5 := hid (HQ4.out.below hb5)
  have HR7 := hid (rank7_any _ P w5 (HP.out.below B5.out) (by omega))
  clear ha hb5 HRk HA4 HB HV4 HQ4
  go_wp2_with fail
  refine HR7.out.mono ?_
  rintro e w6 ⟨ha, hb6⟩
  obtain rfl := HK.out.same ha
  have HA6 := hid (HA5.out.below hb6)
  have HB6 := hid (HB5.out.below hb6)
  have B6 := hid (B5.out.trans (hb6.mono B5.out.size))
  have HV6 := hid (HV5.out.below hb6)
  have HQ6 := hid (HQ5.out.below hb6)
  have HSw := hid (switchesA_any p' P w6 HQ6.out.reads (by omega))
  clear ha hb6 HR7 HK HA5 HB5 HV5 HQ5
  go_wp2_with fail
  refine HSw.out.mono ?_
  rintro e w7 ⟨ha, hb7⟩
  obtain ⟨s, i, rfl⟩ := ha.form
  have HK := hid ha
  have HA7 := hid (HA6.out.below hb7)
  have HB7 := hid (HB6.out.below hb7)
  have B7 := hid (B6.out.trans (hb7.mono B6.out.size))
  have HV7 := hid (HV6.out.below hb7)
  have HQ7 := hid (HQ6.out.below hb7)
  have HS7 := hid (switches7_any _ P w7 (HP.out.below B7.out) (by omega))
  clear ha hb7 HSw HA6 HB6 HV6 HQ6
  go_wp2_with fail
  refine HS7.out.mono ?_
  rintro e w8 ⟨ha, hb8⟩
  obtain rfl := HK.out.same ha
  have HA8 := hid (HA7.out.below hb8)
  have HB8 := hid (HB7.out.below hb8)
  have B8 := hid (B7.out.trans (hb8.mono B7.out.size))
  have HV8 := hid (HV7.out.below hb8)
  have HQ8 := hid (HQ7.out.below hb8)
  have HSm := hid (same_any va vb A A w8 HA8.out HB8.out (by omega) (by omega))
  clear ha hb8 HS7 HK HA7 HB7 HV7 HQ7
  have q1 : (ea == ea) = true := by simp
  have q2 : (x == x) = true := by simp
  have q3 : (g == g) = true := by simp
  have q4 : (s == s) = true := by simp
  have q5 : (i == i) = true := by simp
  go_wp2_with fail
  refine HSm.out.mono ?_
  rintro e w9 ⟨⟨bb, rfl, hbb⟩, hb9⟩
  obtain rfl : bb = true := by simpa using hbb
  have B9 := hid (B8.out.trans (hb9.mono B8.out.size))
  have HQ9 := hid (HQ8.out.below hb9)
  have HK1 := hid (kept_any v' _ R w9 (HV8.out.below hb9) (HR.out.below B9.out) hl')
  clear hbb hb9 HSm HA8 HB8 HV8 HQ8
  go_wp2_with fail
  refine HK1.out.mono ?_
  rintro e w10 ⟨rfl, hb10⟩
  have B10 := hid (B9.out.trans (hb10.mono B9.out.size))
  have HK2 := hid (kept_any p' _ P w10 (HQ9.out.below hb10) (HP.out.below B10.out) hl2')
  clear hb10 HK1 HQ9
  go_wp2_with fail
  refine HK2.out.mono ?_
  rintro e w11 ⟨rfl, hb11⟩
  have B11 := hid (B10.out.trans (hb11.mono B10.out.size))
  clear hb11 HK2
  go_wp2
  go_ret
  exact ⟨rfl, B11.out⟩
end Go.Proofs.Ytaiccmbhdgecgaa
