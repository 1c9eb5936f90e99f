/-
  codec, the document's reader: begin, end.
-/
import Derived.Test.YtagjjcifpdgniaaDx5
namespace Go.Proofs.Ytagjjcifpdgniaa
open Go.RowKit
set_option maxRecDepth 100000

/-- the state at the beginning -/
def bS (key : UInt8) (l : List UInt8) (most : Nat) : Nat × Nat := if most < l.length then (1, 0) else if l.length = 0 then (3, 0) else if l.getD 0 0 ≠ key then (90, 0) else (0, 1)
/-- what end answers -/
def eE (l : List UInt8) (s : Nat × Nat) : Nat := if s.1 ≠ 0 then s.1 else if s.2 < l.length then 4 else 0
def eP (l : List UInt8) (s : Nat × Nat) : Nat := if s.1 ≠ 0 then s.2 else if s.2 < l.length then s.2 else 0
theorem sQ_no {l : List UInt8} {most : Nat} {s : Nat × Nat} (h : s.1 ≠ 0) : sQ l most s = s := by
  unfold sQ
  rw [sT_no h, sI_no h, sL_no h, sT_no h, sI_no h, sI_no h]
theorem rqs_state (l : List UInt8) : (eE l (sQ l 4096 (bS 81 l 4096)) ≠ 0 → rqs l = (eE l (sQ l 4096 (bS 81 l 4096)), eP l (sQ l 4096 (bS 81 l 4096)), rq0)) ∧ (eE l (sQ l 4096 (bS 81 l 4096)) = 0 → rqs l = (0, 0, (fRq l 4096 (bS 81 l 4096).2).2.2) ∧ eP l (sQ l 4096 (bS 81 l 4096)) = 0 ∧ (sQ l 4096 (bS 81 l 4096)).1 = 0) := by
  unfold rqs
  by_cases h1 : 4096 < l.length
  · have e : bS 81 l 4096 = (1, 0) := if_pos h1
    rw [e, sQ_no (show ((1, 0) : Nat × Nat).1 ≠ 0 by decide), if_pos h1]
    exact ⟨fun _ => rfl, fun e => by cases e⟩
  rw [if_neg h1]
  by_cases h2 : l.length = 0
  · obtain rfl := List.eq_nil_of_length_eq_zero h2
    exact ⟨fun _ => rfl, fun e => by cases e⟩
  have h0 : 0 < l.length := by omega
  have eg : l.getD 0 0 = l[0] := by simp [h0]
  by_cases h3 : l[0] = 81
  case neg =>
    have e : bS 81 l 4096 = (90, 0) := (if_neg h1).trans ((if_neg h2).trans (if_pos (by rw [eg]; exact h3)))
    rw [e, sQ_no (show ((90, 0) : Nat × Nat).1 ≠ 0 by decide), fKq_no h0 h3]
    exact ⟨fun _ => rfl, fun e => by cases e⟩
  have e : bS 81 l 4096 = (0, 1) := (if_neg h1).trans ((if_neg h2).trans (if_neg (by rw [eg]; exact fun e => e h3)))
  have eK : fKq 81 l 4096 = fRq l 4096 1 := fKq_ok h0 h3
  rw [e, ← fRq_state l 4096 (0, 1) rfl, eK]
  show _ ∧ _
  by_cases h4 : (fRq l 4096 1).1 = 0
  · rw [if_neg (fun e => e h4)]
    have e5 : eE l ((fRq l 4096 (0, 1).2).1, (fRq l 4096 (0, 1).2).2.1) = if (fRq l 4096 1).2.1 < l.length then 4 else 0 := if_neg (fun e => e h4)
    have e6 : eP l ((fRq l 4096 (0, 1).2).1, (fRq l 4096 (0, 1).2).2.1) = if (fRq l 4096 1).2.1 < l.length then (fRq l 4096 1).2.1 else 0 := if_neg (fun e => e h4)
    rw [e5, e6]
    by_cases h5 : (fRq l 4096 1).2.1 < l.length
    · rw [if_pos h5, if_pos h5, if_pos h5]
      exact ⟨fun _ => rfl, fun e => by cases e⟩
    · rw [if_neg h5, if_neg h5, if_neg h5]
      exact ⟨fun e => (e rfl).elim, fun _ => ⟨rfl, rfl, h4⟩⟩
  · rw [if_pos h4]
    have e5 : eE l ((fRq l 4096 (0, 1).2).1, (fRq l 4096 (0, 1).2).2.1) = (fRq l 4096 1).1 := if_pos h4
    have e6 : eP l ((fRq l 4096 (0, 1).2).1, (fRq l 4096 (0, 1).2).2.1) = (fRq l 4096 1).2.1 := if_pos h4
    rw [e5, e6]
    exact ⟨fun _ => rfl, fun e => (h4 e).elim⟩
set_option maxHeartbeats 1000000 in
theorem xend_any (w : World) {rb most : Nat} {v : Value} {l : List UInt8} {s : Nat × Nat} (h : XS w rb v l most s) :
    Calls Try.prog 66 #[.pointer (some ⟨rb, 0, none⟩)] w fun e w' => e = .returned (.tuple #[.int .i64 (eE l s : Nat), .int .i64 (eP l s : Nat)]) ∧ Tb rb rb w w' := by
  rcases h with ⟨h0, b, off, cap, rfl, hr, hx, hi⟩ | ⟨h0, i, hr⟩
  · obtain ⟨c0, c1, c2, c3, c4⟩ := hr.c
    have HR := hid hr
    rw [show eE l s = if s.2 < l.length then 4 else 0 from if_neg (fun e => e h0), show eP l s = if s.2 < l.length then s.2 else 0 from if_neg (fun e => e h0)]
    obtain ⟨s1, p⟩ := s
    simp only at *
    subst h0
    unfold bv at c0
    clear hr hx
    by_cases hp : p < l.length
    · rw [if_pos hp, if_pos hp]
      have hI : (p : Int) < (l.length : Int) := by omega
      go_enter Try.func66, Try.ntmps66
      go_wp2_with fail
      go_quiet (fail)
      have HF := hid (fail_new 4 p (w.drewN nq) (HR.out.drewN nq))
      have c1' : (w.drewN nq).cell? ⟨rb, 1, none⟩ = some (.int .i64 (p : Int)) := c1
      clear c1
      go_wp2_with fail
      refine Calls.mono HF.out ?_
      rintro e w3 ⟨rfl, rfl⟩
      obtain ⟨W, hW⟩ : ∃ W, ((w.drewN nq).setCell ⟨rb, 3, none⟩ (.int .i64 ((4 : Nat) : Int))).setCell ⟨rb, 4, none⟩ (.int .i64 (p : Int)) = W := ⟨_, rfl⟩
      have k := (HR.out.drewN nq).stop 4 p
      rw [hW] at k
      have TW := hid (show Tb rb rb w W by rw [← hW]; exact ((Tb.drewN rb rb w nq).trans (Tb.set _ ⟨rb, 3, none⟩ _ (.inl rfl))).trans (Tb.set _ ⟨rb, 4, none⟩ _ (.inl rfl)))
      obtain ⟨k0, k1, k2, k3, k4⟩ := k.c
      rw [hW]
      clear hW k HF c0 c2 c3 c4 c1'
      go_wp2_with fail
      go_quiet (fail)
      go_wp2_with fail
      go_ret2
      exact ⟨rfl, TW.out.trans (Tb.drewN rb rb W _)⟩
    · rw [if_neg hp, if_neg hp]
      have hI : ¬ (p : Int) < (l.length : Int) := by omega
      go_enter Try.func66, Try.ntmps66
      go_wp2_with fail
      go_quiet (fail)
      obtain ⟨W, hW⟩ : ∃ W, w.drewN nq = W := ⟨_, rfl⟩
      have k := HR.out.drewN nq
      rw [hW] at k
      have TW := hid (show Tb rb rb w W by rw [← hW]; exact Tb.drewN rb rb w nq)
      obtain ⟨k0, k1, k2, k3, k4⟩ := k.c
      rw [hW]
      clear hW k c0 c1 c2 c3 c4
      go_wp2_with fail
      go_quiet (fail)
      go_wp2_with fail
      go_ret2
      exact ⟨rfl, TW.out.trans (Tb.drewN rb rb W _)⟩
  · obtain ⟨c0, c1, c2, c3, c4⟩ := hr.c
    have HR := hid hr
    unfold eE eP
    rw [if_pos h0, if_pos h0]
    obtain ⟨er, p⟩ := s
    simp only at *
    have hb : ((er : Int) == 0) = false := by simp; omega
    clear hr h0
    go_enter Try.func66, Try.ntmps66
    go_wp2_with fail
    go_quiet (fail)
    obtain ⟨W, hW⟩ : ∃ W, w.drewN nq = W := ⟨_, rfl⟩
    have k := HR.out.drewN nq
    rw [hW] at k
    have TW := hid (show Tb rb rb w W by rw [← hW]; exact Tb.drewN rb rb w nq)
    obtain ⟨k0, k1, k2, k3, k4⟩ := k.c
    rw [hW]
    clear hW k c0 c1 c2 c3 c4
    go_wp2_with fail
    go_quiet (fail)
    go_wp2_with fail
    go_ret2
    exact ⟨rfl, TW.out.trans (Tb.drewN rb rb W _)⟩
end Go.Proofs.Ytagjjcifpdgniaa
