/-
  A board: makeReady, New, Start, Finish.
-/
import Derived.Test.YtogbmldplgondacBd2
namespace Go.Proofs.Ytogbmldplgondac
open Go.RowKit Go.Maps
set_option maxRecDepth 100000
attribute [local go_sem ↓] mkh_op

/-- handler i's three cells written -/
def putH (w : World) (hb i : Nat) (x : Hd) : World := ((w.setCell ⟨hb, i * 3, none⟩ (.int .i64 x.1)).setCell ⟨hb, i * 3 + 1, none⟩ (.int .i64 x.2.1)).setCell ⟨hb, i * 3 + 2, none⟩ (.int .i64 x.2.2)
theorem BD.turn {w : World} {base d hb mb N : Nat} {S : List Hd} {p : Int} {M : Int → Value} {L : Int → List Int} (h : BD w base d hb mb N S p M L) (i : Nat) (hi : i < S.length) (x : Hd) : BD (putH w hb i x) base d hb mb N (S.set i x) p M L ∧ Kb d hb mb M w (putH w hb i x) := by
  obtain ⟨n1, n2, n3, n4⟩ := h.ne
  have hk : ∀ k, k ≠ hb → (putH w hb i x).heap[k]? = w.heap[k]? := fun k hk => by
    unfold putH
    rw [heap_setCell_other _ _ _ _ hk, heap_setCell_other _ _ _ _ hk, heap_setCell_other _ _ _ _ hk]
  have hr : (putH w hb i x).heap[hb]? = some (.cells (hc (S.set i x)).toArray 94 (0, 0)) := by
    unfold putH
    have e1 := heap_setCell_same w hb (i * 3) _ _ (.int .i64 x.1) h.row
    have e2 := heap_setCell_same _ hb (i * 3 + 1) _ _ (.int .i64 x.2.1) e1
    have e3 := heap_setCell_same _ hb (i * 3 + 2) _ _ (.int .i64 x.2.2) e2
    rw [e3]
    simp only [List.setIfInBounds_toArray]
    rw [hc_set S x i hi]
  refine ⟨⟨h.gd, h.gh, h.gm, by rw [hk d n1, List.length_set]; exact h.top, hr, by rw [List.length_set]; exact h.many, ?_, fun k => (h.lists k).kept fun g hg => hk g (n4 k g hg).2.1, h.apart⟩, ?_⟩
  · exact h.map.kept (row := some hb) ⟨rfl, rfl, rfl, by simp [putH], fun k _ hk' => hk k (fun e => hk' (by rw [e]))⟩ (by simpa using Ne.symm n3)
  · exact ((Kb.set w ⟨hb, i * 3, none⟩ _ (.inr (.inl rfl))).trans (Kb.set _ ⟨hb, i * 3 + 1, none⟩ _ (.inr (.inl rfl)))).trans (Kb.set _ ⟨hb, i * 3 + 2, none⟩ _ (.inr (.inl rfl)))

theorem BD.drew {w : World} {base d hb mb N : Nat} {S : List Hd} {p : Int} {M : Int → Value} {L : Int → List Int} (h : BD w base d hb mb N S p M L) : BD w.drew base d hb mb N S p M L := by
  obtain ⟨D, hD, hM⟩ := h.map
  exact ⟨h.gd, h.gh, h.gm, h.top, h.row, h.many, ⟨D, hD.drew, hM⟩, fun k => h.lists k, h.apart⟩
set_option maxHeartbeats 1000000 in
theorem makeReady_any (i : Nat) (w : World) {base d hb mb N : Nat} {S : List Hd} {p : Int} {M : Int → Value} {L : Int → List Int} (H : BD w base d hb mb N S p M L) (hi : i < S.length) :
    Calls Try.prog 54 #[.pointer (some ⟨d, 0, none⟩), .int .i64 (i : Int)] w fun e w' => (∃ v, e = .returned v) ∧ BD w' base d hb mb N (S.set i (1, 0, p)) p M L ∧ Kb d hb mb M w w' := by
  obtain ⟨c0, _, c2, _⟩ := H.cells
  obtain ⟨a1, a2, a3, a4⟩ := H.hand i hi
  have f1 := a4 (i * 3)
  have f2 := a4 (i * 3 + 1)
  have f3 := a4 (i * 3 + 2)
  have HP := hid (H.turn i hi (1, 0, p))
  have hI : (i : Int) < (S.length : Int) := by omega
  generalize S[i].1 = x1 at a1
  generalize S[i].2.1 = x2 at a2
  generalize S[i].2.2 = x3 at a3
  clear H a4
  go_enter Try.func54, Try.ntmps54
  go_wp2
  go_region
  go_end0
  exact ⟨⟨_, rfl⟩, HP.out.1.drew, HP.out.2.trans (Kb.drew _ _ _ _ _)⟩

/-- the error of Start -/
def stE (S : List Hd) (h : Int) : Int := if inH h S.length then (if (S.getD h.toNat (0, 0, 0)).1 = 0 then 0 else 9) else 70
/-- the handlers behind Start -/
def stS (S : List Hd) (h p : Int) : List Hd := if stE S h = 0 then S.set h.toNat (1, 0, p) else S
theorem stS_yes {S : List Hd} {h p : Int} (e : stE S h = 0) : stS S h p = S.set h.toNat (1, 0, p) := by unfold stS; rw [if_pos e]
theorem stS_no {S : List Hd} {h p : Int} (e : stE S h ≠ 0) : stS S h p = S := by unfold stS; rw [if_neg e]
set_option maxHeartbeats 1000000 in
theorem start_any (h : Int) (w : World) {base d hb mb N : Nat} {S : List Hd} {p : Int} {M : Int → Value} {L : Int → List Int} (H : BD w base d hb mb N S p M L) :
    Calls Try.prog 19 #[.pointer (some ⟨d, 0, none⟩), .int .i64 h] w fun e w' => e = .returned (.int .i64 (stE S h)) ∧ BD w' base d hb mb N (stS S h p) p M L ∧ Kb d hb mb M w w' := by
  have HH := hid (has_any h w H)
  obtain ⟨c0, _, _, _⟩ := H.cells
  have HB := hid H
  by_cases hin : 0 ≤ h ∧ h < (S.length : Int)
  · obtain ⟨i, rfl⟩ : ∃ i : Nat, h = (i : Int) := ⟨h.toNat, by omega⟩
    have hi : i < S.length := by omega
    obtain ⟨c1, _, _, _⟩ := H.hand i hi
    have hy := (inH_iff (i : Int) S.length).2 hin
    have HR := hid (show stE S (i : Int) = if S[i].1 = 0 then 0 else 9 by unfold stE; rw [if_pos hy, Int.toNat_natCast, getD_at S i hi])
    have HM := hid (makeReady_any i w H hi)
    rw [hy] at HH
    generalize S[i].1 = st at c1 HR
    clear H hy hin
    go_enter Try.func19, Try.ntmps19
    by_cases h0 : st = 0
    · have hb0 : (st == 0) = true := by simp [h0]
      have HE := hid (show stE S (i : Int) = 0 by rw [HR.out, if_pos h0])
      clear h0
      go_wp2_with (go_at_call 53; refine HH.out.mono ?_; rintro e w3 ⟨rfl, rfl⟩)
      refine HM.out.mono ?_
      rintro e w4 ⟨⟨v, rfl⟩, hb4, hk4⟩
      have B4 := hid hb4
      have K4 := hid hk4
      clear hb4 hk4
      go_wp2
      go_ret
      rw [stS_yes HE.out, HE.out, Int.toNat_natCast]
      exact ⟨rfl, B4.out, K4.out⟩
    · have hb0 : (st == 0) = false := by simp [h0]
      have HE := hid (show stE S (i : Int) = 9 by rw [HR.out, if_neg h0])
      clear h0
      go_wp2_with (go_at_call 53; refine HH.out.mono ?_; rintro e w3 ⟨rfl, rfl⟩)
      go_ret
      rw [stS_no (by rw [HE.out]; omega), HE.out]
      exact ⟨rfl, HB.out, Kb.refl _ _ _ _ _⟩
  · have HE := hid (show stE S h = 70 by unfold stE; rw [inH_no hin]; simp)
    rw [inH_no hin] at HH
    clear H hin
    go_enter Try.func19, Try.ntmps19
    go_wp2_with (go_at_call 53; refine HH.out.mono ?_; rintro e w3 ⟨rfl, rfl⟩)
    go_ret
    rw [stS_no (by rw [HE.out]; omega), HE.out]
    exact ⟨rfl, HB.out, Kb.refl _ _ _ _ _⟩

set_option maxHeartbeats 1000000 in
theorem new_any (n : Nat) (w : World) (hn : 1 ≤ n) (hn2 : n ≤ 16) :
    Calls Try.prog 18 #[.int .i64 (n : Int)] w fun e w' => (∃ d hb mb, e = .returned (.tuple #[.pointer (some ⟨d, 0, none⟩), .int .i64 0]) ∧ BD w' w.heap.size d hb mb 0 (List.replicate n (0, 0, 0)) 0 (fun _ => .slice none 0 0) (fun _ => [])) ∧ Below w.heap.size w w' := by
  have hmm := @run_makeMap Try.prog
  have HI := hid (isCount_any (n : Int))
  rw [(okN_iff (n : Int)).2 ⟨by omega, by omega⟩] at HI
  have hm := run_mkH n (by omega)
  obtain ⟨V, hV⟩ : ∃ V, ((w.alloc (.cells (hc (List.replicate n (0, 0, 0))).toArray 94)).alloc (.map #[] 0)).alloc (.cells #[.slice (some ⟨w.heap.size, 0, none⟩) n n, .map (some (w.heap.size + 1)), .int .i64 0] 92) = V := ⟨_, rfl⟩
  have z1 : (w.alloc (.cells (hc (List.replicate n (0, 0, 0))).toArray 94)).heap.size = w.heap.size + 1 := by simp
  have BV := hid (show Below w.heap.size w V by rw [← hV]; exact (((Below.refl _ _).alloc (Nat.le_refl _) _).alloc (by simp) _).alloc (by simp; omega) _)
  have HBD := hid (show BD V w.heap.size (w.heap.size + 2) w.heap.size (w.heap.size + 1) 0 (List.replicate n (0, 0, 0)) 0 (fun _ => .slice none 0 0) (fun _ => []) by
    refine ⟨by omega, Nat.le_refl _, by omega, ?_, ?_, by simp; omega, ?_, fun k => .inl ⟨rfl, rfl⟩, fun k k' g hg => by simp [Value.ownBlock] at hg⟩
    · rw [← hV, List.length_replicate]
      have h := heap_alloc_new ((w.alloc (.cells (hc (List.replicate n (0, 0, 0))).toArray 94)).alloc (.map #[] 0)) (.cells #[.slice (some ⟨w.heap.size, 0, none⟩) n n, .map (some (w.heap.size + 1)), .int .i64 0] 92)
      rw [World.size_alloc, z1] at h
      exact h
    · rw [← hV]
      have a1 := (Below.refl (w.heap.size + 1) (w.alloc (.cells (hc (List.replicate n (0, 0, 0))).toArray 94))).alloc (by simp) (.map #[] 0)
      have a2 := a1.alloc (by simp) (.cells #[.slice (some ⟨w.heap.size, 0, none⟩) n n, .map (some (w.heap.size + 1)), .int .i64 0] 92)
      rw [a2.block w.heap.size (by omega)]
      exact heap_alloc_new w _
    · rw [← hV]
      have h := MP.made (w.alloc (.cells (hc (List.replicate n (0, 0, 0))).toArray 94))
      rw [z1] at h
      exact h.later ((Below.refl _ _).alloc (Nat.le_refl _) _))
  go_enter Try.func18, Try.ntmps18
  go_wp2_with (go_at_call 52; refine (HI.out _).mono ?_; rintro e w3 ⟨rfl, rfl⟩)
  go_ret2
  exact ⟨⟨_, _, _, rfl, HBD.out⟩, BV.out⟩
end Go.Proofs.Ytogbmldplgondac
