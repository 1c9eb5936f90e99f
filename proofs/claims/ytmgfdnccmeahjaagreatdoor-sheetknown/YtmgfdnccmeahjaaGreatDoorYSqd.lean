/-
  Sqd: Sheets: Close. Laid by mksqd.py.
-/
import Derived.Test.YtmgfdnccmeahjaaGreatDoorYSqc
namespace Go.Proofs.YtmgfdnccmeahjaaGreatDoor
open Go.RowKit
set_option maxRecDepth 100000
set_option linter.unusedVariables false
set_option linter.unusedSimpArgs false

/-- only the Reader's block has turned -/
theorem TR.but {A : Nat → Addr} {G : Nat → Prop} {w w' : World} {b : Nat} {s : Rs} {tv : Value} {V : List Value} {T : List (List (List UInt8))} (h : TR w tv V T) (hx : RX A G w b s) (hk : Kg (But w b) w w') : TR w' tv V T := by
  obtain ⟨bp, bv, cv, uv, U, hM⟩ := hx
  refine ⟨own_of h.own fun g hg => hk.block g ⟨(World.ownsRow.lt h.own g hg).2, fun e => own_ne h.own hM.top (by decide) (e ▸ hg)⟩, h.rws.len, fun j hj hv => own_of (h.rws.row j hj hv) fun g hg => hk.block g ⟨(World.ownsRow.lt (h.rws.row j hj hv) g hg).2, fun e => own_ne (h.rws.row j hj hv) hM.top (by decide) (e ▸ hg)⟩⟩
theorem FT.but {A : Nat → Addr} {G : Nat → Prop} {w w' : World} {b : Nat} {s : Rs} {e : Value} {c : Nat} {p : Nat × Nat} (h : FT A w e c p) (hx : RX A G w b s) (hk : Kg (But w b) w w') : FT A w' e c p := by
  obtain ⟨bp, bv, cv, uv, U, hM⟩ := hx
  rcases h with h | ⟨h0, f, he, hf⟩
  · exact .inl h
  · refine .inr ⟨h0, f, he, (hk.block f ⟨(Array.getElem?_eq_some_iff.1 hf).1, ?_⟩).trans hf⟩
    rintro rfl
    have h2 : w.heap[f]? = _ := hM.top
    rw [hf] at h2
    simp at h2
theorem Kg.but {A : Nat → Addr} {G : Nat → Prop} {w w' : World} {b : Nat} {s : Rs} (hx : RX A G w b s) (hk : Kg (But w b) w w') : Kg G w w' := by
  obtain ⟨bp, bv, cv, uv, U, hM⟩ := hx
  exact hM.kg hk
/-- the Reader is done -/
def DnR (w : World) (b : Nat) : Prop := R18 w b .nilFunc (.int .i64 0) (.int .i64 0) (.int .i64 0) (.int .i64 0) (.int .i64 0) (.int .i64 0) (.int .i64 0) (.int .i64 0) (.int .i64 0) (.pointer none) (.slice none 0 0) (.slice none 0 0) (.slice none 0 0) (.int .i64 0) (.int .i64 0) .nilIface (.bool true)
/-- what Close answers -/
def ClA (A : Nat → Addr) (G : Nat → Prop) (b : Nat) (w : World) (s : Rs) (e : Ending) (w' : World) : Prop := ∃ tv V ev, e = .returned (.tuple #[tv, ev]) ∧ TR w' tv V s.td ∧ FT A w' ev s.er s.fp ∧ Kg G w w' ∧ DnR w' b ∧ NvD G tv V
theorem RX.c16 {A : Nat → Addr} {G : Nat → Prop} {w : World} {b : Nat} {s : Rs} (h : RX A G w b s) : w.cell? ⟨b, 16, none⟩ = some (erV A s.er) := by
  obtain ⟨bp, bv, cv, tv, V, hM⟩ := h
  exact hM.top.c16
theorem RX.c17 {A : Nat → Addr} {G : Nat → Prop} {w : World} {b : Nat} {s : Rs} (h : RX A G w b s) : w.cell? ⟨b, 17, none⟩ = some (.bool false) := by
  obtain ⟨bp, bv, cv, tv, V, hM⟩ := h
  exact hM.top.c17
set_option maxHeartbeats 4000000 in
theorem close_er (A : Nat → Addr) (G : Nat → Prop) (b : Nat) (s : Rs) (w : World) (hE : Lea A G w) (h : RX A G w b s) (he : s.er ≠ 0) :
    Calls Tryz.prog 51 #[.pointer (some ⟨b, 0, none⟩)] w fun e w' => ClA A G b w s e w' := by
  have c17 := h.c17
  have c16 := h.c16
  rw [erV_pos A he] at c16
  have HBg := hid (begin_old A G b s w h)
  have HTl := hid (tell_any A G b s w h)
  clear hE h he
  go_enter Tryz.func51, Tryz.ntmps51
  go_wp2_with fail
  refine Calls.mono HBg.out ?_
  rintro e w1 ⟨rfl, hw⟩
  replace hw := hw.symm
  subst hw
  go_wp2_with fail
  refine Calls.mono HTl.out ?_
  rintro e w2 ⟨tv, V, ev, rfl, ht, hft, hr, hk2, hnv⟩
  obtain ⟨a1, c1, rfl⟩ := own_slice ht.own
  have HT := hid ht
  have HFt := hid hft
  have HR := hid hr
  obtain ⟨bp, bv, cv, tv2, V2, hM⟩ := hr
  have HTp := hid hM.top
  have d0 := hM.top.c0
  have f0 := hM.top.fr 0
  have d1 := hM.top.c1
  have f1 := hM.top.fr 1
  have d2 := hM.top.c2
  have f2 := hM.top.fr 2
  have d3 := hM.top.c3
  have f3 := hM.top.fr 3
  have d4 := hM.top.c4
  have f4 := hM.top.fr 4
  have d5 := hM.top.c5
  have f5 := hM.top.fr 5
  have d6 := hM.top.c6
  have f6 := hM.top.fr 6
  have d7 := hM.top.c7
  have f7 := hM.top.fr 7
  have d8 := hM.top.c8
  have f8 := hM.top.fr 8
  have d9 := hM.top.c9
  have f9 := hM.top.fr 9
  have d10 := hM.top.c10
  have f10 := hM.top.fr 10
  have d11 := hM.top.c11
  have f11 := hM.top.fr 11
  have d12 := hM.top.c12
  have f12 := hM.top.fr 12
  have d13 := hM.top.c13
  have f13 := hM.top.fr 13
  have d14 := hM.top.c14
  have f14 := hM.top.fr 14
  have d15 := hM.top.c15
  have f15 := hM.top.fr 15
  have d16 := hM.top.c16
  have f16 := hM.top.fr 16
  have d17 := hM.top.c17
  have f17 := hM.top.fr 17
  have hev : ∃ et ex, ev = .iface et ex ∨ ev = .nilIface := by
    rcases hft with ⟨_, h⟩ | ⟨_, f, h, _⟩
    · exact ⟨0, .nilIface, .inr h⟩
    · exact ⟨_, _, .inl h⟩
  have HNv := hid hnv
  clear hM ht hft hnv
  go_wp2
  go_ret2
  refine ⟨.slice a1 V.length c1, V, ev, rfl, HT.out.but HR.out ?_, HFt.out.but HR.out ?_, hk2.trans ((Kg.but HR.out ?_).mono fun k hk => .inl hk), ?dn, ?nv⟩
  case nv => exact HNv.out
  case dn => exact ((((((((((((((((((HTp.out.put0 _).put1 _).put2 _).put3 _).put4 _).put5 _).put6 _).put7 _).put8 _).put9 _).put10 _).put11 _).put12 _).put13 _).put14 _).put15 _).put16 _).put17 _)
  all_goals
    iterate 18 refine Kg.set ?_ (But.not w2 b) _
    exact Kg.refl _ _
end Go.Proofs.YtmgfdnccmeahjaaGreatDoor
