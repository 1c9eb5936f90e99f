/-
  SchedKnown: the law's walk.
-/
import Derived.Test.YtogbmldplgondacRk1
import Derived.Test.YtogbmldplgondacBd7
import Derived.Test.YtogbmldplgondacBd9
import Derived.Test.YtogbmldplgondacSd
import Derived.Test.YtogbmldplgondacLeP
namespace Go.Proofs.Ytogbmldplgondac
open Go.RowKit
set_option maxRecDepth 100000

theorem Kb.toBelow {w w' : World} {base d hb mb N : Nat} {S : List Hd} {p : Int} {M : Int → Value} {L : Int → List Int} (k : Kb d hb mb M w w') (h : BD w base d hb mb N S p M L) : Below base w w' := by
  have hs : base ≤ w.heap.size := by
    have := h.lt d (.inl rfl)
    omega
  exact ⟨k.os, k.tape, k.output, k.size, fun j hj => k.block j (by omega) (fun ho => by have := h.lt j ho; omega)⟩
theorem fair_known : FaA [0, 1, 0, 0, 1] 2 2 false 2 := by
  refine .inr (.inl ⟨?_, 3, by decide, ?_, ?_, rfl, rfl⟩)
  · exact ⟨by decide, by decide, by decide, by decide⟩
  · unfold badF
    decide
  · intro j hj
    match j, hj with
    | 0, _ => unfold badF; decide
    | 1, _ => unfold badF; decide
    | 2, _ => unfold badF; decide
def Pk : List Pr := [(0, 1), (0, 2)]
theorem least_known : leE [2, 1, 0] Pk = 0 ∧ leL [2, 1, 0] Pk = [0, 2, 1] := by decide
theorem pl_known (w : World) : PL (w.alloc (.cells (pc Pk).toArray 39)) (.slice (some ⟨w.heap.size, 0, none⟩) 2 2) Pk := by
  refine ⟨_, 2, rfl, by decide, fun e => (by cases e), fun j hj => ?_⟩
  have e := pc_at Pk j hj
  have h := heap_alloc_new w (.cells (pc Pk).toArray 39)
  refine ⟨?_, w.heap.size, 0, rfl, ?_, ?_⟩
  · match j, hj with
    | 0, _ => simp [Pk]
    | 1, _ => simp [Pk]
  · rw [Nat.zero_add, cell_of_row _ _ _ _ _ _ h, List.getElem?_toArray]; exact e.1
  · rw [Nat.zero_add, cell_of_row _ _ _ _ _ _ h, List.getElem?_toArray]; exact e.2
theorem sw_known : (sSt P010 P010.length).1 = 1 := by decide
theorem cnt_known : cN N21 N21.length = 3 := by decide
set_option maxHeartbeats 4000000 in
theorem known_any (w : World) : Calls Try.prog 4 #[] w fun e w' => e = .returned (.bool true) ∧ Below w.heap.size w w' := by
  have HNw := hid (show Calls Try.prog 18 #[.int .i64 2] w fun e w' => (∃ d hb mb, e = .returned (.tuple #[.pointer (some ⟨d, 0, none⟩), .int .i64 0]) ∧ BD w' w.heap.size d hb mb 0 [(0, 0, 0), (0, 0, 0)] 0 (fun _ => .slice none 0 0) (fun _ => [])) ∧ Below w.heap.size w w' from new_any 2 w (by omega) (by omega))
  go_enter Try.func4, Try.ntmps4
  go_wp2_with fail
  refine Calls.mono HNw.out ?_
  rintro e w1 ⟨⟨d, hb, mb, rfl, hbd⟩, hb1⟩
  have HD1 := hid hbd
  have B1 := hid hb1
  have HSt := hid (show Calls Try.prog 19 #[.pointer (some ⟨d, 0, none⟩), .int .i64 0] w1 fun e w' => e = .returned (.int .i64 0) ∧ BD w' w.heap.size d hb mb 0 [(1, 0, 0), (0, 0, 0)] 0 (fun _ => .slice none 0 0) (fun _ => []) ∧ Kb d hb mb (fun _ => .slice none 0 0) w1 w' from start_any 0 w1 hbd)
  clear hbd hb1 HNw
  go_wp2_with fail
  refine Calls.mono HSt.out ?_
  rintro e w2 ⟨rfl, hbd, hk⟩
  have HD2 := hid hbd
  have B2 := hid (B1.out.trans (hk.toBelow HD1.out))
  have HSt := hid (show Calls Try.prog 19 #[.pointer (some ⟨d, 0, none⟩), .int .i64 0] w2 fun e w' => e = .returned (.int .i64 9) ∧ BD w' w.heap.size d hb mb 0 [(1, 0, 0), (0, 0, 0)] 0 (fun _ => .slice none 0 0) (fun _ => []) ∧ Kb d hb mb (fun _ => .slice none 0 0) w2 w' from start_any 0 w2 hbd)
  clear hbd hk HD1 B1
  go_wp2_with fail
  refine Calls.mono HSt.out ?_
  rintro e w3 ⟨rfl, hbd, hk⟩
  have HD3 := hid hbd
  have B3 := hid (B2.out.trans (hk.toBelow HD2.out))
  have HBl := hid (block_yes 0 5 w3 hbd (by decide) (by decide) (by unfold i64; omega) (by unfold maxLen; omega) (by simp))
  clear hbd hk HD2 B2 HSt
  go_wp2_with fail
  refine Calls.mono HBl.out ?_
  rintro e w4 ⟨rfl, v', hbd, hk, g, hvg, _⟩
  have HD4 := hid (show BD w4 w.heap.size d hb mb 1 [(2, 5, 0), (0, 0, 0)] 0 (upd (fun _ => .slice none 0 0) 5 v') (updL (fun _ => []) 5 [0]) from hbd)
  have B4 := hid (B3.out.trans (hk.toBelow HD3.out))
  clear hbd hk HD3 B3 HBl
  have HFi := hid (show Calls Try.prog 21 #[.pointer (some ⟨d, 0, none⟩), .int .i64 0] w4 fun e w' => e = .returned (.int .i64 72) ∧ w' = w4 from finish_no 0 w4 HD4.out (by decide))
  go_wp2_with fail
  refine Calls.mono HFi.out ?_
  rintro e w5 ⟨rfl, rfl⟩
  have hu : upd (fun _ => .slice none 0 0) 5 v' 5 = v' := by simp [upd]
  have hL : updL (fun _ => []) 5 [0] 5 = ([0] : List Int) := by simp [updL]
  have HWk := hid (wake_any 5 w5 HD4.out (by unfold i64; omega) (by rw [hL]; decide) (by rw [hL]; intro x hx; simp at hx; subst hx; decide))
  rw [hu, hL] at HWk
  clear HFi
  go_wp2_with fail
  refine Calls.mono HWk.out ?_
  rintro e w6 ⟨rfl, hri, _, hk⟩
  have B6 := hid (B4.out.trans (hk.toBelow HD4.out))
  obtain ⟨W, hW⟩ : ∃ W, w6.alloc (.cells #[.int .i64 0] 3) = W := ⟨_, rfl⟩
  have BW := hid (show Below w.heap.size w W by rw [← hW]; exact B6.out.alloc B6.out.size _)
  have HSm := hid (show Calls Try.prog 16 #[v', .slice (some ⟨w6.heap.size, 0, none⟩) 1 1] W fun e w' => (∃ b, e = .returned (.bool b) ∧ (b = true ↔ ([0] : List Int) = [0])) ∧ Below W.heap.size W w' by
    rw [← hW]
    exact same_any _ _ _ _ _ (hri.alloc _) (ri_lit w6 [0]) (by decide) (by decide))
  clear hri hk HWk HD4 B4 hu hL hvg
  go_wp2_with fail
  try rw [hW]
  refine Calls.mono HSm.out ?_
  rintro e w7 ⟨⟨bb, rfl, hbb⟩, hb7⟩
  obtain rfl : bb = true := by simpa using hbb
  have B7 := hid (BW.out.trans (hb7.mono BW.out.size))
  clear hbb hb7 HSm hW BW B6
  obtain ⟨W8, hW8⟩ : ∃ W8, w7.alloc (.cells #[.int .i64 2, .int .i64 1] 3) = W8 := ⟨_, rfl⟩
  have BW8 := hid (show Below w.heap.size w W8 by rw [← hW8]; exact B7.out.alloc B7.out.size _)
  have HN := hid (nth_lives (.slice (some ⟨w7.heap.size, 0, none⟩) 2 2) W8 (by rw [← hW8]; exact ri_lit w7 [2, 1]))
  go_wp2_with fail
  try rw [hW8]
  refine Calls.mono HN.out ?_
  rintro e w9 ⟨⟨vn, rfl, hon⟩, hb9⟩
  have HON := hid hon
  have B9 := hid (BW8.out.trans (hb9.mono BW8.out.size))
  clear hon hb9 HN hW8 BW8 B7
  obtain ⟨W10, hW10⟩ : ∃ W10, w9.alloc (.cells #[.int .i64 2, .int .i64 1] 3) = W10 := ⟨_, rfl⟩
  have BWX := hid (show Below w9.heap.size w9 W10 by rw [← hW10]; exact (Below.refl _ _).alloc (Nat.le_refl _) _)
  have BW10 := hid (B9.out.trans (BWX.out.mono B9.out.size))
  have HON10 := hid (HON.out.below BWX.out)
  have HCo := hid (show Calls Try.prog 23 #[.slice (some ⟨w9.heap.size, 0, none⟩) 2 2] W10 fun e w' => e = .returned (.tuple #[.int .i64 3, .int .i64 0]) ∧ w' = W10 from countOf_any _ N21 W10 (by rw [← hW10]; exact ri_lit w9 [2, 1]) (by decide) (by decide) (by decide))
  clear HON B9 BWX
  go_wp2_with fail
  try rw [hW10]
  refine Calls.mono HCo.out ?_
  rintro e w11 ⟨rfl, rfl⟩
  clear HCo hW10
  obtain ⟨W12, hW12⟩ : ∃ W12, w11.alloc (.cells #[.int .i64 0, .int .i64 1, .int .i64 0] 3) = W12 := ⟨_, rfl⟩
  have BWX := hid (show Below w11.heap.size w11 W12 by rw [← hW12]; exact (Below.refl _ _).alloc (Nat.le_refl _) _)
  have BW12 := hid (BW10.out.trans (BWX.out.mono BW10.out.size))
  have HON12 := hid (HON10.out.below BWX.out)
  have HRk := hid (rank_known (.slice (some ⟨w11.heap.size, 0, none⟩) 3 3) W12 (by rw [← hW12]; exact ri_lit w11 [0, 1, 0]))
  clear HON10 BWX BW10
  go_wp2_with fail
  try rw [hW12]
  refine Calls.mono HRk.out ?_
  rintro e w13 ⟨rfl, hb13⟩
  have B13 := hid (BW12.out.trans (hb13.mono BW12.out.size))
  have HON13 := hid (HON12.out.below hb13)
  clear HRk hW12 hb13 BW12 HON12
  obtain ⟨W14, hW14⟩ : ∃ W14, w13.alloc (.cells #[.int .i64 0, .int .i64 1, .int .i64 0] 3) = W14 := ⟨_, rfl⟩
  have BW14 := hid (show Below w.heap.size w W14 by rw [← hW14]; exact B13.out.alloc B13.out.size _)
  have HSm := hid (show Calls Try.prog 16 #[vn, .slice (some ⟨w13.heap.size, 0, none⟩) 3 3] W14 fun e w' => (∃ b, e = .returned (.bool b) ∧ (b = true ↔ ([0, 1, 0] : List Int) = [0, 1, 0])) ∧ Below W14.heap.size W14 w' by
    rw [← hW14]
    exact same_any _ _ _ _ _ (HON13.out.reads.alloc _) (ri_lit w13 [0, 1, 0]) (by decide) (by decide))
  clear HON13 B13
  go_wp2_with fail
  try rw [hW14]
  refine Calls.mono HSm.out ?_
  rintro e w15 ⟨⟨bb, rfl, hbb⟩, hb15⟩
  obtain rfl : bb = true := by simpa using hbb
  have B15 := hid (BW14.out.trans (hb15.mono BW14.out.size))
  clear hbb hb15 HSm hW14 BW14
  obtain ⟨V1, hV1⟩ : ∃ V1, w15.alloc (.cells #[.int .i64 2, .int .i64 1, .int .i64 0] 3) = V1 := ⟨_, rfl⟩
  obtain ⟨V2, hV2⟩ : ∃ V2, V1.alloc (.cells #[.int .i64 0, .int .i64 1, .int .i64 0, .int .i64 2] 39) = V2 := ⟨_, rfl⟩
  have hVs : V1.heap.size = w15.heap.size + 1 := by rw [← hV1, World.size_alloc]
  have BX1 := hid (show Below w.heap.size w V1 by rw [← hV1]; exact B15.out.alloc B15.out.size _)
  have BX2 := hid (show Below w.heap.size w V2 by rw [← hV2]; exact BX1.out.alloc BX1.out.size _)
  have HLe := hid (least_any (.slice (some ⟨w15.heap.size, 0, none⟩) 3 3) (.slice (some ⟨w15.heap.size + 1, 0, none⟩) 2 2) [2, 1, 0] Pk V2 (by rw [← hV2, ← hV1]; exact (ri_lit w15 [2, 1, 0]).alloc _) (by rw [← hV2, ← hVs]; exact pl_known V1) (by decide) (by decide))
  rw [least_known.1, least_known.2] at HLe
  clear B15 BX1
  go_wp2_with fail
  try rw [hV2]
  refine Calls.mono HLe.out ?_
  rintro e w16 ⟨⟨vl, rfl, hol⟩, hb16⟩
  have HOL := hid hol
  have B16 := hid (BX2.out.trans (hb16.mono BX2.out.size))
  clear hol hb16 HLe hV1 hV2 hVs BX2
  obtain ⟨W17, hW17⟩ : ∃ W17, w16.alloc (.cells #[.int .i64 0, .int .i64 1, .int .i64 0] 3) = W17 := ⟨_, rfl⟩
  have BWX := hid (show Below w16.heap.size w16 W17 by rw [← hW17]; exact (Below.refl _ _).alloc (Nat.le_refl _) _)
  have B17 := hid (B16.out.trans (BWX.out.mono B16.out.size))
  have HOL17 := hid (HOL.out.below BWX.out)
  have HSw := hid (show Calls Try.prog 14 #[.slice (some ⟨w16.heap.size, 0, none⟩) 3 3] W17 fun e w' => e = .returned (.tuple #[.int .i64 1, .int .i64 0]) ∧ Below W17.heap.size W17 w' from switches_any _ P010 W17 (by rw [← hW17]; exact ri_lit w16 [0, 1, 0]) p010_in (by decide))
  clear HOL BWX B16
  go_wp2_with fail
  try rw [hW17]
  refine Calls.mono HSw.out ?_
  rintro e w18 ⟨rfl, hb18⟩
  have B18 := hid (B17.out.trans (hb18.mono B17.out.size))
  have HOL18 := hid (HOL17.out.below hb18)
  clear HSw hW17 hb18 B17 HOL17
  obtain ⟨W19, hW19⟩ : ∃ W19, w18.alloc (.cells #[.int .i64 0, .int .i64 1, .int .i64 0, .int .i64 0, .int .i64 1] 3) = W19 := ⟨_, rfl⟩
  have BWX := hid (show Below w18.heap.size w18 W19 by rw [← hW19]; exact (Below.refl _ _).alloc (Nat.le_refl _) _)
  have B19 := hid (B18.out.trans (BWX.out.mono B18.out.size))
  have HOL19 := hid (HOL18.out.below BWX.out)
  have HFa := hid (fair_any (.slice (some ⟨w18.heap.size, 0, none⟩) 5 5) [0, 1, 0, 0, 1] 2 2 W19 (by rw [← hW19]; exact ri_lit w18 [0, 1, 0, 0, 1]) (by decide) (by decide) (by decide))
  clear HOL18 BWX B18
  go_wp2_with fail
  try rw [hW19]
  refine Calls.mono HFa.out ?_
  rintro e w20 ⟨⟨b, p, rfl, hfa⟩, hb20⟩
  obtain ⟨rfl, rfl⟩ := fair_known.same hfa
  have B20 := hid (B19.out.trans (hb20.mono B19.out.size))
  have HOL20 := hid (HOL19.out.below hb20)
  clear hfa hb20 HFa hW19 B19 HOL19
  obtain ⟨W21, hW21⟩ : ∃ W21, w20.alloc (.cells #[.int .i64 0, .int .i64 2, .int .i64 1] 3) = W21 := ⟨_, rfl⟩
  have B21 := hid (show Below w.heap.size w W21 by rw [← hW21]; exact B20.out.alloc B20.out.size _)
  have HSm := hid (show Calls Try.prog 16 #[vl, .slice (some ⟨w20.heap.size, 0, none⟩) 3 3] W21 fun e w' => (∃ b, e = .returned (.bool b) ∧ (b = true ↔ ([0, 2, 1] : List Int) = [0, 2, 1])) ∧ Below W21.heap.size W21 w' by
    rw [← hW21]
    exact same_any _ _ _ _ _ (HOL20.out.reads.alloc _) (ri_lit w20 [0, 2, 1]) (by decide) (by decide))
  clear HOL20 B20
  go_wp2_with fail
  try rw [hW21]
  refine Calls.mono HSm.out ?_
  rintro e w22 ⟨⟨bb, rfl, hbb⟩, hb22⟩
  obtain rfl : bb = true := by simpa using hbb
  have B22 := hid (B21.out.trans (hb22.mono B21.out.size))
  clear hbb hb22 HSm hW21 B21
  go_wp2
  go_ret
  exact ⟨rfl, B22.out⟩
end Go.Proofs.Ytogbmldplgondac
