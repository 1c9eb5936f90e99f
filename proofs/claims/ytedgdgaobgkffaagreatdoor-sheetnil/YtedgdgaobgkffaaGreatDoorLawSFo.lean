/-
  SheetForm: lives, and the law's own walk.
-/
import Derived.Test.YtedgdgaobgkffaaGreatDoorSva
import Derived.Test.YtedgdgaobgkffaaGreatDoorSkw
import Derived.Test.YtedgdgaobgkffaaGreatDoorSqe
import Derived.Test.YtedgdgaobgkffaaGreatDoorSpf
namespace Go.Proofs.YtedgdgaobgkffaaGreatDoor
open Go.RowKit
set_option maxRecDepth 100000
set_option linter.unusedVariables false
set_option linter.unusedSimpArgs false

theorem rd_ab : rdA [97, 44, 98, 13, 10] = ([[[97], [98]]], 1, 0, 0) := by decide +kernel
theorem rd_anb : rdA [97, 10, 98] = ([], 0, 3, 1) := by decide +kernel
theorem rck_a : rck 1 [[[97]]] 0 = (0, 0, 0) := by decide +kernel
theorem prt_a : prt [[[97]]] = [97, 13, 10] := by decide +kernel
theorem Rw.one {w : World} {v : Value} (h : Rw w v [[[97], [98]]]) : ∃ g off cap g2 off2 cap2, v = .slice (some ⟨g, off, none⟩) 1 cap ∧ 1 ≤ cap ∧ 2 ≤ cap2 ∧ w.cell? ⟨g, off, none⟩ = some (.slice (some ⟨g2, off2, none⟩) 2 cap2) ∧ w.cell? ⟨g2, off2, none⟩ = some (.string ⟨#[97]⟩) ∧ w.cell? ⟨g2, off2 + 1, none⟩ = some (.string ⟨#[98]⟩) := by
  obtain ⟨g, off, cap, u, e1, hc, c0, t⟩ := h.at 0 (by simp)
  have t' : Tx w u [[97], [98]] := t
  obtain ⟨g2, off2, cap2, e2, hc2, d0⟩ := t'.at 0 (by simp)
  obtain ⟨g3, off3, cap3, e3, hc3, d1⟩ := t'.at 1 (by simp)
  have e4 := e2.symm.trans e3
  injection e4 with e5 e6 e7
  injection e5 with e8
  injection e8 with e9 e10 e11
  subst e9 e10 e7
  subst e2
  exact ⟨g, off, cap, g2, off2, cap2, e1, hc, hc2, by simpa using c0, by simpa using d0, by simpa using d1⟩
theorem Rw.built (w : World) : Rw ((w.alloc (.cells #[.string ⟨#[97]⟩] 9)).alloc (.cells #[.slice (some ⟨w.heap.size, 0, none⟩) 1 1] 49)) (.slice (some ⟨w.heap.size + 1, 0, none⟩) 1 1) [[[97]]] := by
  have h0 := heap_alloc_new w (.cells #[.string ⟨#[97]⟩] 9)
  have h1 := heap_alloc_new (w.alloc (.cells #[.string ⟨#[97]⟩] 9)) (.cells #[.slice (some ⟨w.heap.size, 0, none⟩) 1 1] 49)
  have hz : (w.alloc (.cells #[.string ⟨#[97]⟩] 9)).heap.size = w.heap.size + 1 := by simp
  rw [hz] at h1
  have h2 := (Lib.alloc_old (w.alloc (.cells #[.string ⟨#[97]⟩] 9)) (.cells #[.slice (some ⟨w.heap.size, 0, none⟩) 1 1] 49) w.heap.size (by rw [hz]; omega)).trans h0
  refine ⟨_, 1, rfl, by simp, by omega, fun i hi => ?_⟩
  have hi0 : i = 0 := by simpa using hi
  subst hi0
  refine ⟨w.heap.size + 1, 0, .slice (some ⟨w.heap.size, 0, none⟩) 1 1, rfl, by rw [Lib.cell_of_heap h1]; rfl, ⟨_, 1, rfl, by simp, by omega, fun j hj => ?_⟩⟩
  have hj0 : j = 0 := by simpa using hj
  subst hj0
  exact ⟨w.heap.size, 0, rfl, by rw [Lib.cell_of_heap h2]; rfl⟩
set_option maxHeartbeats 4000000 in
theorem lives_is (A : Nat → Addr) (w : World) (hA : Sn A w) (hT : ErT w) :
    Calls Tryz.prog 14 #[] w fun e w' => e = .returned (.bool true) ∧ Below w.heap.size w w' := by
  have HP1 := hid (parse_any A ⟨#[97, 44, 98, 13, 10]⟩ w hA.he)
  have HA := hid hA
  have HT := hid hT
  have s1 : ((⟨#[97]⟩ : ByteArray).toList == (⟨#[97]⟩ : ByteArray).toList) = true := by simp
  have s2 : ((⟨#[98]⟩ : ByteArray).toList == (⟨#[98]⟩ : ByteArray).toList) = true := by simp
  have s3 : ((⟨#[97, 13, 10]⟩ : ByteArray).toList == (⟨#[97, 13, 10]⟩ : ByteArray).toList) = true := by simp
  clear hA hT
  go_enter Tryz.func14, Tryz.ntmps14
  go_wp2_with fail
  refine Calls.mono HP1.out ?_
  rintro e w1 ⟨rv, ev, rfl, hp1, hb1⟩
  have hl1 : (⟨#[97, 44, 98, 13, 10]⟩ : ByteArray).data.toList = [97, 44, 98, 13, 10] := rfl
  have hp1' : PaR A w1 [97, 44, 98, 13, 10] rv ev := hp1
  unfold PaR at hp1'
  rw [rd_ab] at hp1'
  rcases hp1' with ⟨_, rfl, V, ht⟩ | ⟨hne, _⟩
  · have hr : Rw w1 rv [[[97], [98]]] := ht.rw
    have HR := hid hr
    have HB1 := hid hb1
    obtain ⟨ra, rc, hrv⟩ := hr.form
    subst hrv
    obtain ⟨w2, hw2⟩ : ∃ w2, w2 = ((w1.alloc (.cells #[.string ⟨#[97]⟩] 9)).alloc (.cells #[.slice (some ⟨w1.heap.size, 0, none⟩) 1 1] 49)) := ⟨_, rfl⟩
    have b2 : Below w1.heap.size w1 ((w1.alloc (.cells #[.string ⟨#[97]⟩] 9)).alloc (.cells #[.slice (some ⟨w1.heap.size, 0, none⟩) 1 1] 49)) := ((Below.refl _ _).alloc (Nat.le_refl _) _).alloc (by simp) _
    have hbu := Rw.built w1
    rw [← hw2] at b2 hbu
    have HP2 := hid (print_any A _ _ w2 ((HA.out.below hb1).below b2).he ((HT.out.below hb1).below b2) hbu)
    have HB2 := hid (hb1.trans (b2.mono hb1.size))
    have HR2 := hid (hr.below b2)
    have HW2 := hid hw2
    clear hr ht hb1 b2 hp1 hl1 hw2 hbu
    go_wp2_with fail
    rw [← HW2.out]
    refine Calls.mono HP2.out ?_
    rintro e w3 ⟨sv, ev, rfl, hp2, hb3⟩
    have hq : sv = .string ⟨#[97, 13, 10]⟩ ∧ ev = .nilIface := by
      rcases hp2 with ⟨h0, _⟩ | ⟨_, h1, _⟩ | ⟨_, _, h2, h3⟩
      · exact absurd (show (rck 1 [[[97]]] 0).1 = 0 by rw [rck_a]) h0
      · rw [prt_a] at h1
        exact absurd h1 (by decide)
      · rw [prt_a] at h2
        exact ⟨h2, h3⟩
    obtain ⟨rfl, rfl⟩ := hq
    have HB3 := hid (HB2.out.trans (hb3.mono HB2.out.size))
    have HR3 := hid (HR2.out.below hb3)
    have HP3 := hid (parse_any A ⟨#[97, 10, 98]⟩ w3 (HA.out.below HB3.out).he)
    clear hp2 hb3
    go_wp2_with fail
    refine Calls.mono HP3.out ?_
    rintro e w4 ⟨rv2, ev2, rfl, hp3, hb4⟩
    have hp3' : PaR A w4 [97, 10, 98] rv2 ev2 := hp3
    unfold PaR at hp3'
    rw [rd_anb] at hp3'
    rcases hp3' with ⟨h0, _⟩ | ⟨_, _, rfl, hf⟩
    · exact absurd h0 (by decide)
    · rcases hf with ⟨h0, _⟩ | ⟨_, f, rfl, hf⟩
      · exact absurd h0 (by decide)
      · have HB4 := hid (HB3.out.trans (hb4.mono HB3.out.size))
        have HR4 := HR3.out.below hb4
        obtain ⟨g, off, cap, g2, off2, cap2, e1, hc, hc2, c0, c1, c2⟩ := HR4.one
        have e1' : Value.slice ra 1 rc = Value.slice (some ⟨g, off, none⟩) 1 cap := e1
        injection e1' with e2 _ e3
        subst e2 e3
        have hi := is_at A f 3 3 _ _ w4 hf (HA.out.below HB4.out) ⟨by omega, by omega⟩ ⟨by omega, by omega⟩
        rw [decide_eq_true rfl] at hi
        have HI := hid hi
        have e3 := (HA.out.below HB4.out).he.e3
        clear HR4 e1 hi hf hp3 hb4
        go_wp2_with fail
        refine Calls.mono HI.out ?_
        rintro e w5 ⟨rfl, hw⟩
        replace hw := hw.symm
        subst hw
        go_wp2
        go_ret
        exact ⟨rfl, HB4.out⟩
  · exact absurd rfl hne
theorem rck_fine {R : List (List (List UInt8))} (h : okR R) : (rck (R.headD []).length R 0).1 = 0 := (rck_ok (n := (R.headD []).length) (R := R) 0 (.inr (by omega))).2 ⟨by have := h.1; omega, h.2⟩
end Go.Proofs.YtedgdgaobgkffaaGreatDoor
