/-
  Sqd1: Sheets: Close. Laid by mksqd.py.
-/
import Derived.Test.YtmgfdnccmeahjaaGreatDoorYSqd
namespace Go.Proofs.YtmgfdnccmeahjaaGreatDoor
open Go.RowKit
set_option maxRecDepth 100000
set_option linter.unusedVariables false
set_option linter.unusedSimpArgs false

set_option maxHeartbeats 4000000 in
theorem close_beginRow (A : Nat → Addr) (G : Nat → Prop) (b : Nat) (s : Rs) (w : World) (hE : Lea A G w) (h : RX A G w b s) (he : s.er = 0) (hcu : s.cur.length ≤ 4096) (hcl : s.cs.length ≤ 900000) (hrw : s.rw ≤ 1000000) (htd : s.td.length ≤ 1000000) (hm : fnO s.md = 118) :
    Calls Tryz.prog 51 #[.pointer (some ⟨b, 0, none⟩)] w fun e w' => ClA A G b w (s.next none) e w' := by
  have c17 := h.c17
  have c16 := h.c16
  rw [he, erV_zero] at c16
  have HBg := hid (begin_old A G b s w h)
  have HN := next_any A G b s none w hE h hcu hcl hrw htd
  rw [hm] at HN
  have c0 : w.cell? ⟨b, 0, none⟩ = some (.func (.func 118) #[.pointer (some ⟨b, 0, none⟩)] #[]) := by rw [h.parts.2.2.2.2.2.2.2.1]; unfold nxV; rw [hm]
  have HN' : Hid (Calls Tryz.prog 118 #[.pointer (some ⟨b, 0, none⟩), .int .i64 (-1)] w fun e w' => Stp A G w b (s.next none) e w') := HN
  clear hE h he HN hm
  go_enter Tryz.func51, Tryz.ntmps51
  go_wp2_with fail
  refine Calls.mono HBg.out ?_
  rintro e w1 ⟨rfl, hw⟩
  replace hw := hw.symm
  subst hw
  go_wp2_with fail
  refine Calls.mono HN'.out ?_
  rintro e w3 ⟨rfl, hx3, hk3⟩
  have HTl := hid (tell_any A G b (s.next none) w3 hx3)
  clear hx3
  go_wp2_with fail
  refine Calls.mono HTl.out ?_
  rintro e w2 ⟨tv, V, ev, rfl, ht, hft, hr, hk2, hnv⟩
  obtain ⟨a1, c1, rfl⟩ := own_slice ht.own
  have HT := hid ht
  have HFt := hid hft
  have HR := hid hr
  obtain ⟨bp, bv, cv, tv2, V2, hM⟩ := hr
  have HTp := hid hM.top
  have d0 := hM.top.c0
  have f0 := hM.top.fr 0
  have d1 := hM.top.c1
  have f1 := hM.top.fr 1
  have d2 := hM.top.c2
  have f2 := hM.top.fr 2
  have d3 := hM.top.c3
  have f3 := hM.top.fr 3
  have d4 := hM.top.c4
  have f4 := hM.top.fr 4
  have d5 := hM.top.c5
  have f5 := hM.top.fr 5
  have d6 := hM.top.c6
  have f6 := hM.top.fr 6
  have d7 := hM.top.c7
  have f7 := hM.top.fr 7
  have d8 := hM.top.c8
  have f8 := hM.top.fr 8
  have d9 := hM.top.c9
  have f9 := hM.top.fr 9
  have d10 := hM.top.c10
  have f10 := hM.top.fr 10
  have d11 := hM.top.c11
  have f11 := hM.top.fr 11
  have d12 := hM.top.c12
  have f12 := hM.top.fr 12
  have d13 := hM.top.c13
  have f13 := hM.top.fr 13
  have d14 := hM.top.c14
  have f14 := hM.top.fr 14
  have d15 := hM.top.c15
  have f15 := hM.top.fr 15
  have d16 := hM.top.c16
  have f16 := hM.top.fr 16
  have d17 := hM.top.c17
  have f17 := hM.top.fr 17
  have hev : ∃ et ex, ev = .iface et ex ∨ ev = .nilIface := by
    rcases hft with ⟨_, h⟩ | ⟨_, f, h, _⟩
    · exact ⟨0, .nilIface, .inr h⟩
    · exact ⟨_, _, .inl h⟩
  have HNv := hid hnv
  clear hM ht hft hnv
  go_wp2
  go_ret2
  refine ⟨.slice a1 V.length c1, V, ev, rfl, HT.out.but HR.out ?_, HFt.out.but HR.out ?_, hk3.trans (hk2.trans ((Kg.but HR.out ?_).mono fun k hk => .inl hk)), ?dn, ?nv⟩
  case nv => exact HNv.out
  case dn => exact ((((((((((((((((((HTp.out.put0 _).put1 _).put2 _).put3 _).put4 _).put5 _).put6 _).put7 _).put8 _).put9 _).put10 _).put11 _).put12 _).put13 _).put14 _).put15 _).put16 _).put17 _)
  all_goals
    iterate 18 refine Kg.set ?_ (But.not w2 b) _
    exact Kg.refl _ _
set_option maxHeartbeats 4000000 in
theorem close_beginCell (A : Nat → Addr) (G : Nat → Prop) (b : Nat) (s : Rs) (w : World) (hE : Lea A G w) (h : RX A G w b s) (he : s.er = 0) (hcu : s.cur.length ≤ 4096) (hcl : s.cs.length ≤ 900000) (hrw : s.rw ≤ 1000000) (htd : s.td.length ≤ 1000000) (hm : fnO s.md = 155) :
    Calls Tryz.prog 51 #[.pointer (some ⟨b, 0, none⟩)] w fun e w' => ClA A G b w (s.next none) e w' := by
  have c17 := h.c17
  have c16 := h.c16
  rw [he, erV_zero] at c16
  have HBg := hid (begin_old A G b s w h)
  have HN := next_any A G b s none w hE h hcu hcl hrw htd
  rw [hm] at HN
  have c0 : w.cell? ⟨b, 0, none⟩ = some (.func (.func 155) #[.pointer (some ⟨b, 0, none⟩)] #[]) := by rw [h.parts.2.2.2.2.2.2.2.1]; unfold nxV; rw [hm]
  have HN' : Hid (Calls Tryz.prog 155 #[.pointer (some ⟨b, 0, none⟩), .int .i64 (-1)] w fun e w' => Stp A G w b (s.next none) e w') := HN
  clear hE h he HN hm
  go_enter Tryz.func51, Tryz.ntmps51
  go_wp2_with fail
  refine Calls.mono HBg.out ?_
  rintro e w1 ⟨rfl, hw⟩
  replace hw := hw.symm
  subst hw
  go_wp2_with fail
  refine Calls.mono HN'.out ?_
  rintro e w3 ⟨rfl, hx3, hk3⟩
  have HTl := hid (tell_any A G b (s.next none) w3 hx3)
  clear hx3
  go_wp2_with fail
  refine Calls.mono HTl.out ?_
  rintro e w2 ⟨tv, V, ev, rfl, ht, hft, hr, hk2, hnv⟩
  obtain ⟨a1, c1, rfl⟩ := own_slice ht.own
  have HT := hid ht
  have HFt := hid hft
  have HR := hid hr
  obtain ⟨bp, bv, cv, tv2, V2, hM⟩ := hr
  have HTp := hid hM.top
  have d0 := hM.top.c0
  have f0 := hM.top.fr 0
  have d1 := hM.top.c1
  have f1 := hM.top.fr 1
  have d2 := hM.top.c2
  have f2 := hM.top.fr 2
  have d3 := hM.top.c3
  have f3 := hM.top.fr 3
  have d4 := hM.top.c4
  have f4 := hM.top.fr 4
  have d5 := hM.top.c5
  have f5 := hM.top.fr 5
  have d6 := hM.top.c6
  have f6 := hM.top.fr 6
  have d7 := hM.top.c7
  have f7 := hM.top.fr 7
  have d8 := hM.top.c8
  have f8 := hM.top.fr 8
  have d9 := hM.top.c9
  have f9 := hM.top.fr 9
  have d10 := hM.top.c10
  have f10 := hM.top.fr 10
  have d11 := hM.top.c11
  have f11 := hM.top.fr 11
  have d12 := hM.top.c12
  have f12 := hM.top.fr 12
  have d13 := hM.top.c13
  have f13 := hM.top.fr 13
  have d14 := hM.top.c14
  have f14 := hM.top.fr 14
  have d15 := hM.top.c15
  have f15 := hM.top.fr 15
  have d16 := hM.top.c16
  have f16 := hM.top.fr 16
  have d17 := hM.top.c17
  have f17 := hM.top.fr 17
  have hev : ∃ et ex, ev = .iface et ex ∨ ev = .nilIface := by
    rcases hft with ⟨_, h⟩ | ⟨_, f, h, _⟩
    · exact ⟨0, .nilIface, .inr h⟩
    · exact ⟨_, _, .inl h⟩
  have HNv := hid hnv
  clear hM ht hft hnv
  go_wp2
  go_ret2
  refine ⟨.slice a1 V.length c1, V, ev, rfl, HT.out.but HR.out ?_, HFt.out.but HR.out ?_, hk3.trans (hk2.trans ((Kg.but HR.out ?_).mono fun k hk => .inl hk)), ?dn, ?nv⟩
  case nv => exact HNv.out
  case dn => exact ((((((((((((((((((HTp.out.put0 _).put1 _).put2 _).put3 _).put4 _).put5 _).put6 _).put7 _).put8 _).put9 _).put10 _).put11 _).put12 _).put13 _).put14 _).put15 _).put16 _).put17 _)
  all_goals
    iterate 18 refine Kg.set ?_ (But.not w2 b) _
    exact Kg.refl _ _
end Go.Proofs.YtmgfdnccmeahjaaGreatDoor
