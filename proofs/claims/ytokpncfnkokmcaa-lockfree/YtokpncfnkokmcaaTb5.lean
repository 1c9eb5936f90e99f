/-
  works, within; LockNil.
-/
import Derived.Test.YtokpncfnkokmcaaTb4
namespace Go.Proofs.Ytokpncfnkokmcaa
open Go.RowKit
set_option maxRecDepth 100000

set_option maxHeartbeats 2000000 in
theorem works_any (w : World) : Calls Try.prog 4 #[] w fun e w' => e = .returned (.bool true) ∧ Below w.heap.size w w' := by
  have HN := hid (new_in 1 w (by omega) (by omega))
  go_enter Try.func4, Try.ntmps4
  go_wp2_with fail
  refine Calls.mono HN.out ?_
  rintro e w1 ⟨⟨d, hb, rfl, hT⟩, hB⟩
  have hT1 : TP w1 w.heap.size d hb [(0, 0, 0)] := hT
  have hP : ∀ k, k = hb → w.heap.size ≤ k := fun k e => e ▸ hT.gh
  have K1 := hid (show Below w.heap.size w w1 from hB)
  have T1 := hid hT1
  have step : ∀ a b : World, Below w.heap.size w a → Kw (fun k => k = hb) a b → Below w.heap.size w b := fun _ _ h k => Kw.since h h.size k hP
  have SP := hid step
  clear HN hT hT1 hB hP step
  go_wp2_with fail
  refine Calls.mono (tick 0 0 (0, 0, 0) 0 0 [(1, 0, 0)] rfl rfl (by decide) (by decide) (by decide) T1.out) ?_
  rintro e w2 ⟨rfl, hT, hK⟩
  have T2 := hid hT
  have K2 := hid (SP.out _ _ K1.out hK)
  clear T1 K1 hT hK
  go_wp2_with fail
  refine Calls.mono (tick 0 0 (1, 0, 0) 1 0 [(2, 0, 0)] rfl rfl (by decide) (by decide) (by decide) T2.out) ?_
  rintro e w3 ⟨rfl, hT, hK⟩
  have T3 := hid hT
  have K3 := hid (SP.out _ _ K2.out hK)
  clear T2 K2 hT hK
  go_wp2_with fail
  refine Calls.mono (srv 0 0 0 (2, 0, 0) true rfl rfl (by decide) T3.out) ?_
  rintro e w4 ⟨rfl, hT, hK⟩
  have T4 := hid hT
  have K4 := hid (K3.out.trans (hK.mono K3.out.size))
  clear T3 K3 hT hK
  go_wp2_with fail
  refine Calls.mono (srv 0 1 0 (2, 0, 0) false rfl rfl (by decide) T4.out) ?_
  rintro e w5 ⟨rfl, hT, hK⟩
  have T5 := hid hT
  have K5 := hid (K4.out.trans (hK.mono K4.out.size))
  clear T4 K4 hT hK
  go_wp2_with fail
  refine Calls.mono (lve 0 1 0 (2, 0, 0) 81 [(2, 0, 0)] rfl rfl (by decide) (by decide) T5.out) ?_
  rintro e w6 ⟨rfl, hT, hK⟩
  have T6 := hid hT
  have K6 := hid (SP.out _ _ K5.out hK)
  clear T5 K5 hT hK
  go_wp2_with fail
  refine Calls.mono (oddc 0 0 0 (2, 0, 0) 0 [(2, 0, 1)] rfl rfl (by decide) (by decide) (by decide) T6.out) ?_
  rintro e w7 ⟨rfl, hT, hK⟩
  have T7 := hid hT
  have K7 := hid (SP.out _ _ K6.out hK)
  clear T6 K6 hT hK
  go_wp2_with fail
  refine Calls.mono (sqc 0 0 (2, 0, 1) 1 rfl rfl (by decide) T7.out) ?_
  rintro e w8 ⟨rfl, rfl⟩
  go_wp2_with fail
  refine Calls.mono (lve 0 0 0 (2, 0, 1) 82 [(2, 0, 1)] rfl rfl (by decide) (by decide) T7.out) ?_
  rintro e w8 ⟨rfl, hT, hK⟩
  have T8 := hid hT
  have K8 := hid (SP.out _ _ K7.out hK)
  clear T7 K7 hT hK
  go_wp2_with fail
  refine Calls.mono (evenc 0 0 0 (2, 0, 1) 0 [(2, 0, 2)] rfl rfl (by decide) (by decide) (by decide) T8.out) ?_
  rintro e w9 ⟨rfl, hT, hK⟩
  have T9 := hid hT
  have K9 := hid (SP.out _ _ K8.out hK)
  clear T8 K8 hT hK
  go_wp2_with fail
  refine Calls.mono (lve 0 0 0 (2, 0, 2) 0 [(2, 1, 2)] rfl rfl (by decide) (by decide) T9.out) ?_
  rintro e w10 ⟨rfl, hT, hK⟩
  have T10 := hid hT
  have K10 := hid (SP.out _ _ K9.out hK)
  clear T9 K9 hT hK
  go_wp2_with fail
  refine Calls.mono (srv 0 1 0 (2, 1, 2) true rfl rfl (by decide) T10.out) ?_
  rintro e w11 ⟨rfl, hT, hK⟩
  have T11 := hid hT
  have K11 := hid (K10.out.trans (hK.mono K10.out.size))
  clear T10 K10 hT hK
  go_wp2_with fail
  refine Calls.mono (wtg 0 0 (2, 1, 2) 1 rfl rfl (by decide) T11.out) ?_
  rintro e w12 ⟨rfl, hT, hK⟩
  have T12 := hid hT
  have K12 := hid (K11.out.trans (hK.mono K11.out.size))
  clear T11 K11 hT hK
  go_wp2
  go_ret
  exact ⟨rfl, K12.out⟩

/-- n brought into 0 to m -/
def wth (n m : Int) : Int := n % (m + 1)
theorem wth_in (n m : Int) (hm : 0 ≤ m) : 0 ≤ wth n m ∧ wth n m ≤ m := by
  unfold wth
  have h1 := Int.emod_nonneg n (show m + 1 ≠ 0 by omega)
  have h2 := Int.emod_lt_of_pos n (show 0 < m + 1 by omega)
  omega
theorem wth_eq (n m : Int) (hm : 0 ≤ m) : (n.tmod (m + 1) < 0 ∧ n.tmod (m + 1) + m + 1 = wth n m) ∨ (0 ≤ n.tmod (m + 1) ∧ n.tmod (m + 1) = wth n m) := by
  have h := Int.tmod_eq_emod (a := n) (b := m + 1)
  have h3 := wth_in n m hm
  unfold wth at h3 ⊢
  split at h <;> omega
theorem within_any (n m : Int) (w : World) (hm : 0 ≤ m) (hm2 : m < 1000000000) :
    Calls Try.prog 5 #[.int .i64 n, .int .i64 m] w fun e w' => e = .returned (.int .i64 (wth n m)) ∧ w' = w := by
  have h3 := wth_in n m hm
  rcases wth_eq n m hm with ⟨h1, h2⟩ | ⟨h1, h2⟩
  · have HE := hid h2
    have hlo : -1000000000 ≤ n.tmod (m + 1) := by omega
    clear h2
    generalize wth n m = z at h3 HE
    generalize hr : n.tmod (m + 1) = r at h1 hlo HE
    go_enter Try.func5, Try.ntmps5
    go_wp2
    go_ret
    rw [← HE.out]
    exact ⟨rfl, rfl⟩
  · have HE := hid h2
    have hlo : n.tmod (m + 1) ≤ 1000000000 := by omega
    clear h2
    generalize wth n m = z at h3 HE
    generalize hr : n.tmod (m + 1) = r at h1 hlo HE
    go_enter Try.func5, Try.ntmps5
    go_wp2
    go_ret
    rw [← HE.out]
    exact ⟨rfl, rfl⟩
end Go.Proofs.Ytokpncfnkokmcaa
