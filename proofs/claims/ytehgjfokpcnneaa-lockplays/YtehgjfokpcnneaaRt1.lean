/-
  The document's table: has, Served, turn, Leave, Ticket, Seq, Waiting, Stripes.
-/
import Derived.Test.YtehgjfokpcnneaaTb4
namespace Go.Proofs.Ytehgjfokpcnneaa
open Go.RowKit
set_option maxRecDepth 100000

abbrev TQ (w : World) (base d hb : Nat) (S : List Hd) : Prop := TB 66 68 w base d hb S
theorem rhas_in (i : Nat) (w : World) {base d hb : Nat} {S : List Hd} (H : TQ w base d hb S) (hi : i < S.length) :
    Calls Try.prog 37 #[.pointer (some ⟨d, 0, none⟩), .int .i64 (i : Int)] w fun e w' => e = .returned (.bool true) ∧ w' = w := by
  have c0 := H.cell0
  have h1 : (i : Int) < (S.length : Int) := by omega
  clear H
  go_enter Try.func37, Try.ntmps37
  go_wp2
  go_ret
  exact ⟨rfl, rfl⟩
theorem rhas_out (s : Int) (w : World) {base d hb : Nat} {S : List Hd} (H : TQ w base d hb S) (hi : ¬ (0 ≤ s ∧ s < (S.length : Int))) :
    Calls Try.prog 37 #[.pointer (some ⟨d, 0, none⟩), .int .i64 s] w fun e w' => e = .returned (.bool false) ∧ w' = w := by
  have c0 := H.cell0
  clear H
  go_enter Try.func37, Try.ntmps37
  by_cases h0 : 0 ≤ s
  · have h1 : ¬ s < (S.length : Int) := by omega
    clear hi
    go_wp2
    go_ret
    exact ⟨rfl, rfl⟩
  · clear hi
    go_wp2
    go_ret
    exact ⟨rfl, rfl⟩
theorem rhas_nil (s : Int) (w : World) : Calls Try.prog 37 #[.pointer none, .int .i64 s] w fun e w' => e = .returned (.bool false) ∧ w' = w := by
  go_enter Try.func37, Try.ntmps37
  go_wp2
  go_ret
  exact ⟨rfl, rfl⟩
set_option maxHeartbeats 1000000 in
theorem rserved_in (i : Nat) (t : Int) (w : World) {base d hb : Nat} {S : List Hd} (H : TQ w base d hb S) (hi : i < S.length) :
    Calls Try.prog 26 #[.pointer (some ⟨d, 0, none⟩), .int .i64 (i : Int), .int .i64 t] w fun e w' => e = .returned (.bool (svd S[i] t)) ∧ Below w.heap.size w w' := by
  have HA := hid (rhas_in i w H hi)
  have c0 := H.cell0
  have h1 : (i : Int) < (S.length : Int) := by omega
  obtain ⟨a1, a2, _, _⟩ := H.at i hi
  clear H
  generalize S[i] = x at a1 a2
  obtain ⟨a, b, q⟩ := x
  simp only at a1 a2
  go_enter Try.func26, Try.ntmps26
  by_cases h2 : b < a
  · have hd : decide (b < a) = true := decide_eq_true h2
    by_cases h3 : t = b
    · have hbb : (t == b) = true := by simp [h3]
      have HN := hid (show svd (a, b, q) t = true by unfold svd; exact decide_eq_true ⟨h3, h2⟩)
      clear h2 h3
      go_wp2_with (go_at_call 37; refine HA.out.mono ?_; rintro e w3 ⟨rfl, rfl⟩)
      go_quiet (fail)
      go_wp2
      go_ret
      exact ⟨by rw [HN.out]; rfl, below_drewN (Below.refl _ _) nq⟩
    · have hbb : (t == b) = false := by simp [h3]
      have HN := hid (show svd (a, b, q) t = false by unfold svd; exact decide_eq_false (fun e => h3 e.1))
      clear h2 h3
      go_wp2_with (go_at_call 37; refine HA.out.mono ?_; rintro e w3 ⟨rfl, rfl⟩)
      go_quiet (fail)
      go_wp2
      go_ret
      exact ⟨by rw [HN.out]; rfl, below_drewN (Below.refl _ _) nq⟩
  · have hd : decide (b < a) = false := decide_eq_false h2
    have HN := hid (show svd (a, b, q) t = false by unfold svd; exact decide_eq_false (fun e => h2 e.2))
    clear h2
    go_wp2_with (go_at_call 37; refine HA.out.mono ?_; rintro e w3 ⟨rfl, rfl⟩)
    go_quiet (fail)
    go_wp2
    go_ret
    exact ⟨by rw [HN.out]; rfl, below_drewN (Below.refl _ _) nq⟩
theorem rserved_out (s t : Int) (w : World) {base d hb : Nat} {S : List Hd} (H : TQ w base d hb S) (hi : ¬ (0 ≤ s ∧ s < (S.length : Int))) :
    Calls Try.prog 26 #[.pointer (some ⟨d, 0, none⟩), .int .i64 s, .int .i64 t] w fun e w' => e = .returned (.bool false) ∧ Below w.heap.size w w' := by
  have HA := hid (rhas_out s w H hi)
  clear H hi
  go_enter Try.func26, Try.ntmps26
  go_wp2_with (go_at_call 37; refine HA.out.mono ?_; rintro e w3 ⟨rfl, rfl⟩)
  go_quiet (fail)
  go_wp2
  go_ret
  exact ⟨rfl, below_drewN (Below.refl _ _) nq⟩
theorem rseq_out (s : Int) (w : World) {base d hb : Nat} {S : List Hd} (H : TQ w base d hb S) (hi : ¬ (0 ≤ s ∧ s < (S.length : Int))) :
    Calls Try.prog 30 #[.pointer (some ⟨d, 0, none⟩), .int .i64 s] w fun e w' => e = .returned (.int .i64 0) ∧ w' = w := by
  have HA := hid (rhas_out s w H hi)
  clear H hi
  go_enter Try.func30, Try.ntmps30
  go_wp2_with (go_at_call 37; refine HA.out.mono ?_; rintro e w3 ⟨rfl, rfl⟩)
  go_ret
  exact ⟨rfl, rfl⟩
theorem rwaiting_out (s : Int) (w : World) {base d hb : Nat} {S : List Hd} (H : TQ w base d hb S) (hi : ¬ (0 ≤ s ∧ s < (S.length : Int))) :
    Calls Try.prog 31 #[.pointer (some ⟨d, 0, none⟩), .int .i64 s] w fun e w' => e = .returned (.int .i64 0) ∧ w' = w := by
  have HA := hid (rhas_out s w H hi)
  clear H hi
  go_enter Try.func31, Try.ntmps31
  go_wp2_with (go_at_call 37; refine HA.out.mono ?_; rintro e w3 ⟨rfl, rfl⟩)
  go_ret
  exact ⟨rfl, rfl⟩
theorem rserved_nil (s t : Int) (w : World) :
    Calls Try.prog 26 #[.pointer none, .int .i64 s, .int .i64 t] w fun e w' => e = .returned (.bool false) ∧ Below w.heap.size w w' := by
  have HA := hid (rhas_nil s w)
  go_enter Try.func26, Try.ntmps26
  go_wp2_with (go_at_call 37; refine HA.out.mono ?_; rintro e w3 ⟨rfl, rfl⟩)
  go_quiet (fail)
  go_wp2
  go_ret
  exact ⟨rfl, below_drewN (Below.refl _ _) nq⟩
theorem rseq_nil (s : Int) (w : World) :
    Calls Try.prog 30 #[.pointer none, .int .i64 s] w fun e w' => e = .returned (.int .i64 0) ∧ w' = w := by
  have HA := hid (rhas_nil s w)
  go_enter Try.func30, Try.ntmps30
  go_wp2_with (go_at_call 37; refine HA.out.mono ?_; rintro e w3 ⟨rfl, rfl⟩)
  go_ret
  exact ⟨rfl, rfl⟩
theorem rwaiting_nil (s : Int) (w : World) :
    Calls Try.prog 31 #[.pointer none, .int .i64 s] w fun e w' => e = .returned (.int .i64 0) ∧ w' = w := by
  have HA := hid (rhas_nil s w)
  go_enter Try.func31, Try.ntmps31
  go_wp2_with (go_at_call 37; refine HA.out.mono ?_; rintro e w3 ⟨rfl, rfl⟩)
  go_ret
  exact ⟨rfl, rfl⟩
theorem rleave_out (s t : Int) (w : World) {base d hb : Nat} {S : List Hd} (H : TQ w base d hb S) (hi : ¬ (0 ≤ s ∧ s < (S.length : Int))) :
    Calls Try.prog 27 #[.pointer (some ⟨d, 0, none⟩), .int .i64 s, .int .i64 t] w fun e w' => e = .returned (.int .i64 80) ∧ w' = w := by
  have HA := hid (rhas_out s w H hi)
  clear H hi
  go_enter Try.func27, Try.ntmps27
  go_wp2_with (go_at_call 37; refine HA.out.mono ?_; rintro e w3 ⟨rfl, rfl⟩)
  go_ret
  exact ⟨rfl, rfl⟩
theorem rleave_nil (s t : Int) (w : World) :
    Calls Try.prog 27 #[.pointer none, .int .i64 s, .int .i64 t] w fun e w' => e = .returned (.int .i64 0) ∧ w' = w := by
  go_enter Try.func27, Try.ntmps27
  go_wp2
  go_ret
  exact ⟨rfl, rfl⟩
theorem rturn_out (s t f : Int) (w : World) {base d hb : Nat} {S : List Hd} (H : TQ w base d hb S) (hi : ¬ (0 ≤ s ∧ s < (S.length : Int))) :
    Calls Try.prog 38 #[.pointer (some ⟨d, 0, none⟩), .int .i64 s, .int .i64 t, .int .i64 f] w fun e w' => e = .returned (.int .i64 80) ∧ w' = w := by
  have HA := hid (rhas_out s w H hi)
  clear H hi
  go_enter Try.func38, Try.ntmps38
  go_wp2_with (go_at_call 37; refine HA.out.mono ?_; rintro e w3 ⟨rfl, rfl⟩)
  go_ret
  exact ⟨rfl, rfl⟩
theorem rturn_nil (s t f : Int) (w : World) :
    Calls Try.prog 38 #[.pointer none, .int .i64 s, .int .i64 t, .int .i64 f] w fun e w' => e = .returned (.int .i64 0) ∧ w' = w := by
  go_enter Try.func38, Try.ntmps38
  go_wp2
  go_ret
  exact ⟨rfl, rfl⟩
theorem rticket_out (s : Int) (w : World) {base d hb : Nat} {S : List Hd} (H : TQ w base d hb S) (hi : ¬ (0 ≤ s ∧ s < (S.length : Int))) :
    Calls Try.prog 25 #[.pointer (some ⟨d, 0, none⟩), .int .i64 s] w fun e w' => e = .returned (.tuple #[.int .i64 0, .int .i64 80]) ∧ w' = w := by
  have HA := hid (rhas_out s w H hi)
  clear H hi
  go_enter Try.func25, Try.ntmps25
  go_wp2_with (go_at_call 37; refine HA.out.mono ?_; rintro e w3 ⟨rfl, rfl⟩)
  go_ret2
  exact ⟨rfl, rfl⟩
theorem rticket_nil (s : Int) (w : World) :
    Calls Try.prog 25 #[.pointer none, .int .i64 s] w fun e w' => e = .returned (.tuple #[.int .i64 0, .int .i64 0]) ∧ w' = w := by
  go_enter Try.func25, Try.ntmps25
  go_wp2
  go_ret2
  exact ⟨rfl, rfl⟩
theorem rseq_in (i : Nat) (w : World) {base d hb : Nat} {S : List Hd} (H : TQ w base d hb S) (hi : i < S.length) :
    Calls Try.prog 30 #[.pointer (some ⟨d, 0, none⟩), .int .i64 (i : Int)] w fun e w' => e = .returned (.int .i64 S[i].2.2) ∧ w' = w := by
  have HA := hid (rhas_in i w H hi)
  have c0 := H.cell0
  have h1 : (i : Int) < (S.length : Int) := by omega
  obtain ⟨_, _, a3, _⟩ := H.at i hi
  clear H
  go_enter Try.func30, Try.ntmps30
  go_wp2_with (go_at_call 37; refine HA.out.mono ?_; rintro e w3 ⟨rfl, rfl⟩)
  go_ret
  exact ⟨rfl, rfl⟩
theorem rwaiting_in (i : Nat) (w : World) {base d hb : Nat} {S : List Hd} (H : TQ w base d hb S) (hi : i < S.length) :
    Calls Try.prog 31 #[.pointer (some ⟨d, 0, none⟩), .int .i64 (i : Int)] w fun e w' => e = .returned (.int .i64 (S[i].1 - S[i].2.1)) ∧ Below w.heap.size w w' := by
  have HA := hid (rhas_in i w H hi)
  have c0 := H.cell0
  have h1 : (i : Int) < (S.length : Int) := by omega
  obtain ⟨a1, a2, _, _⟩ := H.at i hi
  obtain ⟨o1, o2, o3, o4⟩ := H.ok i hi
  clear H o4
  generalize S[i].1 = q1 at a1 o2 o3
  generalize S[i].2.1 = q2 at a2 o1 o2
  go_enter Try.func31, Try.ntmps31
  go_wp2_with (go_at_call 37; refine HA.out.mono ?_; rintro e w3 ⟨rfl, rfl⟩)
  go_quiet (fail)
  go_wp2
  go_ret
  exact ⟨rfl, below_drewN (Below.refl _ _) nq⟩
theorem rstripes_any (w : World) {base d hb : Nat} {S : List Hd} (H : TQ w base d hb S) :
    Calls Try.prog 24 #[.pointer (some ⟨d, 0, none⟩)] w fun e w' => e = .returned (.int .i64 (S.length : Int)) ∧ w' = w := by
  have c0 := H.cell0
  clear H
  go_enter Try.func24, Try.ntmps24
  go_wp2
  go_ret
  exact ⟨rfl, rfl⟩
theorem rstripes_nil (w : World) : Calls Try.prog 24 #[.pointer none] w fun e w' => e = .returned (.int .i64 0) ∧ w' = w := by
  go_enter Try.func24, Try.ntmps24
  go_wp2
  go_ret
  exact ⟨rfl, rfl⟩
end Go.Proofs.Ytehgjfokpcnneaa
