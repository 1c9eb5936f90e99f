/-
  The document's clock. Laid by mkcl1.py.
-/
import Derived.Test.YtcmllfipaiacfaaGreatDoorPt1
namespace Go.Proofs.YtcmllfipaiacfaaGreatDoor
open Go.RowKit
set_option maxRecDepth 100000
set_option linter.unusedSimpArgs false

def slen : Value → Nat
  | .slice _ n _ => n
  | _ => 0
theorem own_form {w : World} {base : Nat} {v : Value} {L : List Int} (h : w.ownsRow base 3 1 v L.length (iv L)) : ∃ ao c, v = .slice ao L.length c := by
  rcases h.2 with ⟨hv, hn⟩ | ⟨g, cap, cur, rfl, _⟩
  · exact ⟨none, 0, by rw [hv, hn]⟩
  · exact ⟨_, _, rfl⟩
/-- what clock answers -/
def clA (v0 v1 v2 p0 p1 p2 : Nat) : Int × Int × Bool :=
  if 24 < v0 ∨ (v0 = 24 ∧ 0 < v1 + v2) then (0, (p0 : Int), false) else if 59 < v1 then (0, (p1 : Int), false) else if 59 < v2 then (0, (p2 : Int), false) else (3600 * (v0 : Int) + 60 * (v1 : Int) + (v2 : Int), 0, true)
def tupB (x : Int × Int × Bool) : Value := .tuple #[.int .i64 x.1, .int .i64 x.2.1, .bool x.2.2]
set_option maxHeartbeats 4000000 in
theorem clock_ref (t : ByteArray) (ht : t.size ≤ 64) (a : Nat) (ps : List Nat) (hps : ps.length ≤ 3) (hP : PT t.data.toList a ps) (v0 v1 v2 p0 p1 p2 : Nat)
    (hV : (ps.map fun q => (n2 t q : Int)) ++ List.replicate (3 - ps.length) 0 = [(v0 : Int), (v1 : Int), (v2 : Int)]) (hR : (ps.map fun (q : Nat) => (q : Int)) ++ List.replicate (3 - ps.length) (a : Int) = [(p0 : Int), (p1 : Int), (p2 : Int)])
    (b0 : v0 ≤ 99) (b1 : v1 ≤ 99) (b2 : v2 ≤ 99) (w : World) :
    Calls Tryz.prog 26 #[.string t, .int .i64 (a : Int)] w fun e w' => e = .returned (tupB (clA v0 v1 v2 p0 p1 p2)) ∧ Below w.heap.size w w' := by
  have HPt := hid (fun w => parts_any t ht a ps (by omega) hP w)
  have HV := hid hV
  have HR := hid hR
  obtain ⟨A, hA⟩ : ∃ A, clA v0 v1 v2 p0 p1 p2 = A := ⟨_, rfl⟩
  have A1 := hid (show 24 < v0 ∨ (v0 = 24 ∧ 0 < v1 + v2) → A = (0, (p0 : Int), false) from fun h => by rw [← hA]; unfold clA; rw [if_pos h])
  have A2 := hid (show ¬ (24 < v0 ∨ (v0 = 24 ∧ 0 < v1 + v2)) → 59 < v1 → A = (0, (p1 : Int), false) from fun h k => by rw [← hA]; unfold clA; rw [if_neg h, if_pos k])
  have A3 := hid (show ¬ (24 < v0 ∨ (v0 = 24 ∧ 0 < v1 + v2)) → ¬ 59 < v1 → 59 < v2 → A = (0, (p2 : Int), false) from fun h k l => by rw [← hA]; unfold clA; rw [if_neg h, if_neg k, if_pos l])
  have A4 := hid (show ¬ (24 < v0 ∨ (v0 = 24 ∧ 0 < v1 + v2)) → ¬ 59 < v1 → ¬ 59 < v2 → A = (3600 * (v0 : Int) + 60 * (v1 : Int) + (v2 : Int), 0, true) from fun h k l => by rw [← hA]; unfold clA; rw [if_neg h, if_neg k, if_neg l])
  rw [hA]
  unfold tupB
  clear hV hR hP hA
  go_enter Tryz.func26, Tryz.ntmps26
  go_wp2_with fail
  refine (HPt.out _).mono ?_
  rintro e w1 ⟨v, p, rfl, hT, hb⟩
  have HT1 := hid hT
  have HB1 := hid hb
  clear hT hb HPt
  go_wp2_with fail
  go_loopw [7, 8] (fun v p wr => ∃ (V R : List Int), Two w.heap.size wr v p V R ∧ V.length ≤ 3 ∧ R.length = V.length ∧ V ++ List.replicate (3 - V.length) 0 = [(v0 : Int), (v1 : Int), (v2 : Int)] ∧ R ++ List.replicate (3 - V.length) (a : Int) = [(p0 : Int), (p1 : Int), (p2 : Int)] ∧ Below w.heap.size w wr) (fun v _ _ => 3 - slen v)
  case atStart => exact ⟨_, _, HT1.out, by simpa using hps, by simp, by simpa using HV.out, by simpa using HR.out, HB1.out⟩
  case round =>
    clear HT1 HB1 HV HR
    obtain ⟨V, R, hT, hVl, hRl, hV, hR, hb⟩ := hrel
    obtain ⟨ao, cv, rfl⟩ := own_form hT.l
    obtain ⟨bo, cp, rfl⟩ := own_form hT.r
    have HT := hid hT
    have HV := hid hV
    have HR := hid hR
    have HB := hid hb
    have hz := hb.size
    clear hT hV hR hb
    by_cases h3 : V.length < 3
    · have e1 : (V.length : Int) < 3 := by omega
      obtain ⟨W, hW⟩ : ∃ W, wr.alloc (.cells #[.int .i64 0] 3) = W := ⟨_, rfl⟩
      have RW := hid (show W.heap[wr.heap.size]? = some (.cells #[.int .i64 0] 3 (0, 0)) by rw [← hW]; exact heap_alloc_new wr _)
      have bW : Below wr.heap.size wr W := by rw [← hW]; exact alloc_below _ _
      have zW := bW.size
      have TW := hid (HT.out.below bW)
      have BW := hid (HB.out.trans (bW.mono hz))
      have HW := hid hW
      clear bW hW HT HB
      go_wp2_with (at_builtin; refine wpList_two_l rfl (.tmp 18) (.tmp 19) rfl w.heap.size _ _ V R 0 rfl (by first | exact TW.out | (rw [HW.out]; exact TW.out)) wr.heap.size rfl (by first | exact RW.out | (rw [HW.out]; exact RW.out)) (by omega) (by first | omega | (rw [HW.out]; omega)) ?hn1)
      case hn1 =>
      intro v' w3 hT3 hb3
      try rw [HW.out] at hb3
      have HT3 := hid hT3
      have HB3 := hid (BW.out.trans hb3)
      have z3 := HB3.out.size
      have hf3 := own_form hT3.l
      clear hT3 hb3 TW BW RW HW
      obtain ⟨ao2, cv2, rfl⟩ := hf3
      obtain ⟨W5, hW5⟩ : ∃ W5, w3.alloc (.cells #[.int .i64 (a : Int)] 3) = W5 := ⟨_, rfl⟩
      have RW := hid (show W5.heap[w3.heap.size]? = some (.cells #[.int .i64 (a : Int)] 3 (0, 0)) by rw [← hW5]; exact heap_alloc_new w3 _)
      have bW : Below w3.heap.size w3 W5 := by rw [← hW5]; exact alloc_below _ _
      have zW5 := bW.size
      have TW := hid (HT3.out.below bW)
      have BW := hid (HB3.out.trans (bW.mono z3))
      have HW := hid hW5
      clear bW hW5 HT3 HB3
      go_wp2_with (at_builtin; refine wpList_two_r rfl (.tmp 21) (.tmp 23) rfl w.heap.size _ _ (V ++ [0]) R (a : Int) rfl (by first | exact TW.out | (rw [HW.out]; exact TW.out)) w3.heap.size rfl (by first | exact RW.out | (rw [HW.out]; exact RW.out)) (by omega) (by first | omega | (rw [HW.out]; omega)) ?hn2)
      case hn2 =>
      intro p' w4 hT4 hb4
      try rw [HW.out] at hb4
      have HT4 := hid hT4
      have HB4 := hid (BW.out.trans hb4)
      clear hT4 hb4 TW BW RW HW
      go_wp2
      go_roundw
      case rel =>
        have er : ∀ z : Int, z :: List.replicate (3 - (V.length + 1)) z = List.replicate (3 - V.length) z := fun z => by
          rw [show 3 - V.length = (3 - (V.length + 1)) + 1 by omega]
          rfl
        refine ⟨V ++ [0], R ++ [(a : Int)], HT4.out, by simp; omega, by simp; omega, ?_, ?_, HB4.out⟩
        · rw [← HV.out, List.append_assoc, List.length_append]
          exact congrArg (V ++ ·) (er 0)
        · rw [← HR.out, List.append_assoc, List.length_append]
          exact congrArg (R ++ ·) (er (a : Int))
      case measure => simp [slen]; omega
    · have e1 : ¬ (V.length : Int) < 3 := by omega
      have hV3 : V.length = 3 := by omega
      have eV : V = [(v0 : Int), (v1 : Int), (v2 : Int)] := by have := HV.out; rw [hV3] at this; simpa using this
      have eR : R = [(p0 : Int), (p1 : Int), (p2 : Int)] := by have := HR.out; rw [hV3] at this; simpa using this
      subst eV
      subst eR
      obtain ⟨g, c1, hv1, hc1, cell1⟩ := own_cells HT.out.l (by simp)
      obtain ⟨k, c2, hv2, hc2, cell2⟩ := own_cells HT.out.r (by simp)
      cases hv1
      cases hv2
      have C1 := hid (fun (n : Nat) => (show ((wr.drewN n).cell? ⟨g, 0, none⟩ = some (.int .i64 (v0 : Int)) ∧ (wr.drewN n).cell? ⟨g, 1, none⟩ = some (.int .i64 (v1 : Int)) ∧ (wr.drewN n).cell? ⟨g, 2, none⟩ = some (.int .i64 (v2 : Int))) ∧ (wr.drewN n).cell? ⟨k, 0, none⟩ = some (.int .i64 (p0 : Int)) ∧ (wr.drewN n).cell? ⟨k, 1, none⟩ = some (.int .i64 (p1 : Int)) ∧ (wr.drewN n).cell? ⟨k, 2, none⟩ = some (.int .i64 (p2 : Int)) from ⟨⟨cell1 0 (by simp), cell1 1 (by simp), cell1 2 (by simp)⟩, cell2 0 (by simp), cell2 1 (by simp), cell2 2 (by simp)⟩))
      clear HT HV HR cell1 cell2 hz h3 hVl hRl
      have e1' : ¬ (3 : Int) < 3 := by decide
      simp only [List.length_cons, List.length_nil, Nat.zero_add, Nat.reduceAdd] at hc1 hc2 ⊢
      clear e1 hV3
      have x0 := fun n => (C1.out n).1.1
      have x1 := fun n => (C1.out n).1.2.1
      have x2 := fun n => (C1.out n).1.2.2
      have y0 := fun n => (C1.out n).2.1
      have y1 := fun n => (C1.out n).2.2.1
      have y2 := fun n => (C1.out n).2.2.2
      have x0' := (C1.out 0).1.1
      have x1' := (C1.out 0).1.2.1
      have x2' := (C1.out 0).1.2.2
      have y0' := (C1.out 0).2.1
      have y1' := (C1.out 0).2.2.1
      have y2' := (C1.out 0).2.2.2
      simp only [World.drewN_zero] at x0' x1' x2' y0' y1' y2'
      by_cases hA : 24 < v0 ∨ (v0 = 24 ∧ 0 < v1 + v2)
      · have E := hid (A1.out hA)
        by_cases h24 : 24 < v0
        · have q0 : (24 : Int) < (v0 : Int) := by omega
          go_wp2_with fail
          go_quiet (fail)
          obtain ⟨wq, hwq⟩ : ∃ wq, wr.drewN nq = wq := ⟨_, rfl⟩
          have C2 := hid (fun (n : Nat) => (show ((wq.drewN n).cell? ⟨g, 0, none⟩ = some (.int .i64 (v0 : Int)) ∧ (wq.drewN n).cell? ⟨g, 1, none⟩ = some (.int .i64 (v1 : Int)) ∧ (wq.drewN n).cell? ⟨g, 2, none⟩ = some (.int .i64 (v2 : Int))) ∧ (wq.drewN n).cell? ⟨k, 0, none⟩ = some (.int .i64 (p0 : Int)) ∧ (wq.drewN n).cell? ⟨k, 1, none⟩ = some (.int .i64 (p1 : Int)) ∧ (wq.drewN n).cell? ⟨k, 2, none⟩ = some (.int .i64 (p2 : Int)) from by rw [← hwq, World.drewN_drewN]; exact C1.out _))
          have HB2 := hid (show Below w.heap.size w wq by rw [← hwq]; exact HB.out.trans ((below_drewN (Below.refl _ _) nq).mono HB.out.size))
          rw [hwq]
          clear hwq nq C1 HB x0 x1 x2 y0 y1 y2 x0' x1' x2' y0' y1' y2'
          have C1 := hid C2.out
          have HB := hid HB2.out
          clear C2 HB2
          have x0 := fun n => (C1.out n).1.1
          have x1 := fun n => (C1.out n).1.2.1
          have x2 := fun n => (C1.out n).1.2.2
          have y0 := fun n => (C1.out n).2.1
          have y1 := fun n => (C1.out n).2.2.1
          have y2 := fun n => (C1.out n).2.2.2
          have x0' := (C1.out 0).1.1
          have x1' := (C1.out 0).1.2.1
          have x2' := (C1.out 0).1.2.2
          have y0' := (C1.out 0).2.1
          have y1' := (C1.out 0).2.2.1
          have y2' := (C1.out 0).2.2.2
          simp only [World.drewN_zero] at x0' x1' x2' y0' y1' y2'
          go_wp2_with fail
          go_quiet (fail)
          have HB9 := hid (HB.out.trans ((below_drewN (Below.refl _ _) nq).mono HB.out.size))
          go_wp2
          go_ret3
          exact ⟨by rw [E.out]; rfl, HB9.out⟩
        · have q0 : v0 = 24 := by omega
          have q1 : 0 < v1 + v2 := by omega
          have q2 : (0 : Int) < (v1 : Int) + (v2 : Int) := by omega
          subst q0
          go_wp2_with fail
          go_quiet (fail)
          obtain ⟨wq, hwq⟩ : ∃ wq, wr.drewN nq = wq := ⟨_, rfl⟩
          have C2 := hid (fun (n : Nat) => (show ((wq.drewN n).cell? ⟨g, 0, none⟩ = some (.int .i64 ((24 : Nat) : Int)) ∧ (wq.drewN n).cell? ⟨g, 1, none⟩ = some (.int .i64 (v1 : Int)) ∧ (wq.drewN n).cell? ⟨g, 2, none⟩ = some (.int .i64 (v2 : Int))) ∧ (wq.drewN n).cell? ⟨k, 0, none⟩ = some (.int .i64 (p0 : Int)) ∧ (wq.drewN n).cell? ⟨k, 1, none⟩ = some (.int .i64 (p1 : Int)) ∧ (wq.drewN n).cell? ⟨k, 2, none⟩ = some (.int .i64 (p2 : Int)) from by rw [← hwq, World.drewN_drewN]; exact C1.out _))
          have HB2 := hid (show Below w.heap.size w wq by rw [← hwq]; exact HB.out.trans ((below_drewN (Below.refl _ _) nq).mono HB.out.size))
          rw [hwq]
          clear hwq nq C1 HB x0 x1 x2 y0 y1 y2 x0' x1' x2' y0' y1' y2'
          have C1 := hid C2.out
          have HB := hid HB2.out
          clear C2 HB2
          have x0 := fun n => (C1.out n).1.1
          have x1 := fun n => (C1.out n).1.2.1
          have x2 := fun n => (C1.out n).1.2.2
          have y0 := fun n => (C1.out n).2.1
          have y1 := fun n => (C1.out n).2.2.1
          have y2 := fun n => (C1.out n).2.2.2
          have x0' := (C1.out 0).1.1
          have x1' := (C1.out 0).1.2.1
          have x2' := (C1.out 0).1.2.2
          have y0' := (C1.out 0).2.1
          have y1' := (C1.out 0).2.2.1
          have y2' := (C1.out 0).2.2.2
          simp only [World.drewN_zero] at x0' x1' x2' y0' y1' y2'
          go_wp2_with fail
          go_quiet (fail)
          have HB9 := hid (HB.out.trans ((below_drewN (Below.refl _ _) nq).mono HB.out.size))
          go_wp2
          go_ret3
          exact ⟨by rw [E.out]; rfl, HB9.out⟩
      · by_cases h24 : v0 = 24
        · have q2 : ¬ (0 : Int) < (v1 : Int) + (v2 : Int) := by omega
          subst h24
          obtain rfl : v1 = 0 := by omega
          obtain rfl : v2 = 0 := by omega
          have E := hid (A4.out hA (by omega) (by omega))
          clear q2
          go_wp2_with fail
          go_quiet (fail)
          obtain ⟨wq, hwq⟩ : ∃ wq, wr.drewN nq = wq := ⟨_, rfl⟩
          have C2 := hid (fun (n : Nat) => (show ((wq.drewN n).cell? ⟨g, 0, none⟩ = some (.int .i64 ((24 : Nat) : Int)) ∧ (wq.drewN n).cell? ⟨g, 1, none⟩ = some (.int .i64 ((0 : Nat) : Int)) ∧ (wq.drewN n).cell? ⟨g, 2, none⟩ = some (.int .i64 ((0 : Nat) : Int))) ∧ (wq.drewN n).cell? ⟨k, 0, none⟩ = some (.int .i64 (p0 : Int)) ∧ (wq.drewN n).cell? ⟨k, 1, none⟩ = some (.int .i64 (p1 : Int)) ∧ (wq.drewN n).cell? ⟨k, 2, none⟩ = some (.int .i64 (p2 : Int)) from by rw [← hwq, World.drewN_drewN]; exact C1.out _))
          have HB2 := hid (show Below w.heap.size w wq by rw [← hwq]; exact HB.out.trans ((below_drewN (Below.refl _ _) nq).mono HB.out.size))
          rw [hwq]
          clear hwq nq C1 HB x0 x1 x2 y0 y1 y2 x0' x1' x2' y0' y1' y2'
          have C1 := hid C2.out
          have HB := hid HB2.out
          clear C2 HB2
          have x0 := fun n => (C1.out n).1.1
          have x1 := fun n => (C1.out n).1.2.1
          have x2 := fun n => (C1.out n).1.2.2
          have y0 := fun n => (C1.out n).2.1
          have y1 := fun n => (C1.out n).2.2.1
          have y2 := fun n => (C1.out n).2.2.2
          have x0' := (C1.out 0).1.1
          have x1' := (C1.out 0).1.2.1
          have x2' := (C1.out 0).1.2.2
          have y0' := (C1.out 0).2.1
          have y1' := (C1.out 0).2.2.1
          have y2' := (C1.out 0).2.2.2
          simp only [World.drewN_zero] at x0' x1' x2' y0' y1' y2'
          go_wp2_with fail
          go_quiet (fail)
          have HB9 := hid (HB.out.trans ((below_drewN (Below.refl _ _) nq).mono HB.out.size))
          go_wp2
          go_ret3
          exact ⟨by rw [E.out]; rfl, HB9.out⟩
        · have q0 : ¬ (24 : Int) < (v0 : Int) := by omega
          have q0' : ¬ (v0 : Int) = 24 := by omega
          go_wp2_with fail
          go_quiet (fail)
          obtain ⟨wq, hwq⟩ : ∃ wq, wr.drewN nq = wq := ⟨_, rfl⟩
          have C2 := hid (fun (n : Nat) => (show ((wq.drewN n).cell? ⟨g, 0, none⟩ = some (.int .i64 (v0 : Int)) ∧ (wq.drewN n).cell? ⟨g, 1, none⟩ = some (.int .i64 (v1 : Int)) ∧ (wq.drewN n).cell? ⟨g, 2, none⟩ = some (.int .i64 (v2 : Int))) ∧ (wq.drewN n).cell? ⟨k, 0, none⟩ = some (.int .i64 (p0 : Int)) ∧ (wq.drewN n).cell? ⟨k, 1, none⟩ = some (.int .i64 (p1 : Int)) ∧ (wq.drewN n).cell? ⟨k, 2, none⟩ = some (.int .i64 (p2 : Int)) from by rw [← hwq, World.drewN_drewN]; exact C1.out _))
          have HB2 := hid (show Below w.heap.size w wq by rw [← hwq]; exact HB.out.trans ((below_drewN (Below.refl _ _) nq).mono HB.out.size))
          rw [hwq]
          clear hwq nq C1 HB x0 x1 x2 y0 y1 y2 x0' x1' x2' y0' y1' y2'
          have C1 := hid C2.out
          have HB := hid HB2.out
          clear C2 HB2
          have x0 := fun n => (C1.out n).1.1
          have x1 := fun n => (C1.out n).1.2.1
          have x2 := fun n => (C1.out n).1.2.2
          have y0 := fun n => (C1.out n).2.1
          have y1 := fun n => (C1.out n).2.2.1
          have y2 := fun n => (C1.out n).2.2.2
          have x0' := (C1.out 0).1.1
          have x1' := (C1.out 0).1.2.1
          have x2' := (C1.out 0).1.2.2
          have y0' := (C1.out 0).2.1
          have y1' := (C1.out 0).2.2.1
          have y2' := (C1.out 0).2.2.2
          simp only [World.drewN_zero] at x0' x1' x2' y0' y1' y2'
          by_cases h1 : 59 < v1
          · have E := hid (A2.out hA h1)
            have q1 : (59 : Int) < (v1 : Int) := by omega
            go_wp2_with fail
            go_quiet (fail)
            have HB9 := hid (HB.out.trans ((below_drewN (Below.refl _ _) nq).mono HB.out.size))
            go_wp2
            go_ret3
            exact ⟨by rw [E.out]; rfl, HB9.out⟩
          · have q1 : ¬ (59 : Int) < (v1 : Int) := by omega
            by_cases h2 : 59 < v2
            · have E := hid (A3.out hA h1 h2)
              have q2 : (59 : Int) < (v2 : Int) := by omega
              go_wp2_with fail
              go_quiet (fail)
              have HB9 := hid (HB.out.trans ((below_drewN (Below.refl _ _) nq).mono HB.out.size))
              go_wp2
              go_ret3
              exact ⟨by rw [E.out]; rfl, HB9.out⟩
            · have E := hid (A4.out hA h1 h2)
              have q2 : ¬ (59 : Int) < (v2 : Int) := by omega
              go_wp2_with fail
              go_quiet (fail)
              have HB9 := hid (HB.out.trans ((below_drewN (Below.refl _ _) nq).mono HB.out.size))
              go_wp2
              go_ret3
              have eq : (v0 : Int) * 3600 + (v1 : Int) * 60 + (v2 : Int) = 3600 * (v0 : Int) + 60 * (v1 : Int) + (v2 : Int) := by omega
              exact ⟨by rw [E.out, ← eq]; rfl, HB9.out⟩
end Go.Proofs.YtcmllfipaiacfaaGreatDoor
