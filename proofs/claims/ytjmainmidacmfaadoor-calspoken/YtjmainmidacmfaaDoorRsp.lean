/-
  A span's text read: digitsAhead, Atoi of some digits or of none.
-/
import Derived.Test.YtjmainmidacmfaaDoorSpn
import Derived.Test.YtjmainmidacmfaaDoorRefused
import Derived.Test.YtjmainmidacmfaaDoorShelf2
import Derived.Stop.LaidErr
namespace Go.Proofs.YtjmainmidacmfaaDoor
open Go.RowKit
set_option maxRecDepth 100000

/-- strconv.ErrSyntax holds some error -/
def HasES (w : World) : Prop := ∃ ev, w.cell? ⟨2, 0, none⟩ = some ev ∧ (ev = .nilIface ∨ ∃ te pe, ev = .iface te pe)
theorem HasES.below {w w' : World} (h : HasES w) (hb : Below w.heap.size w w') : HasES w' := by
  obtain ⟨ev, h1, h2⟩ := h
  exact ⟨ev, cell_old h1 hb, h2⟩
theorem HasES.lt {w : World} (h : HasES w) : 2 < w.heap.size := by
  obtain ⟨ev, h1, h2⟩ := h
  exact World.block_lt_of_cell? _ _ h1
theorem HasES.belowAt {B : Nat} {w w' : World} (h : HasES w) (hb : Below B w w') (hB : 2 < B) : HasES w' := by
  obtain ⟨ev, h1, h2⟩ := h
  exact ⟨ev, (hb.cell (p := ⟨2, 0, none⟩) hB).trans h1, h2⟩

theorem run_from (t : ByteArray) (i : Nat) (hi : i ≤ t.size) (w : World) :
    (Instr.slice 9 (.string t) (some (.int .i64 (i : Int))) none none).run Tryd.prog w = .ok (.string (t.extract i t.size)) w := by
  simp [Instr.slice, Instr.sliceBounds, Instr.sliceBound, asIntOf, run_underlying Tryd.underlying9, go_sem, hi]

theorem atoi_any (t : ByteArray) (a k : Nat) (hk : k ≤ 9) (h : a + k ≤ t.size) (hd : ∀ c ∈ sub t.data.toList a k, isDB c = true) (w : World) (hE : HasES w) :
    Calls Tryd.prog 42 #[.string (t.extract a (a + k))] w fun e w' => (∃ er, e = .returned (.tuple #[.int .i64 (nm (sub t.data.toList a k) : Nat), er])) ∧ Below w.heap.size w w' := by
  have hx : (t.extract a (a + k)).data.toList = sub t.data.toList a k := sub_extract t a k
  have lt : t.data.toList.length = t.size := Array.length_toList
  have hs : (t.extract a (a + k)).size ≤ 18 := by rw [ByteArray.size_extract]; omega
  by_cases h0 : k = 0
  · subst h0
    obtain ⟨ev, hv, hev⟩ := hE
    have e0 : sub t.data.toList a 0 = [] := by unfold sub; simp
    refine (Tryd.strconv_Atoi_err _ hs (by rw [hx, e0]; rfl) ev w hv hev).mono ?_
    rintro e w' ⟨N, rfl, _, _, hb⟩
    rw [e0]
    exact ⟨⟨_, rfl⟩, hb⟩
  · have hl := sub_len t.data.toList a k (by rw [lt]; exact h)
    refine (Tryd.strconv_Atoi _ _ hs (by rw [hx]; exact atoi_digits _ (fun e => by rw [e] at hl; simp at hl; omega) hd) w).mono ?_
    rintro e w' ⟨rfl, ta, rfl⟩
    exact ⟨⟨_, rfl⟩, Go.Joins.below_bytesWorld _ _ _ _ (Nat.le_refl _)⟩

set_option maxHeartbeats 1000000 in
theorem digits_any (t : ByteArray) (ht : t.size ≤ 1000) (w : World) :
    Calls Tryd.prog 41 #[.string t] w fun e w' => e = .returned (.int .i64 (dga t.data.toList 9 : Nat)) ∧ ∃ n, w' = w.drewN n := by
  have lt : t.data.toList.length = t.size := Array.length_toList
  have HD := hid (fun c w => isDigit_any c w)
  have LT := hid lt
  clear lt
  go_enter Tryd.func41, Tryd.ntmps41
  go_wp2_with fail
  go_loopw [3] (fun n wr => ∃ k : Nat, n = .int .i64 (k : Int) ∧ k ≤ t.size ∧ k ≤ 9 ∧ (∀ j (_ : j < k) (h : j < t.data.toList.length), isDB (t.data.toList[j]) = true) ∧ ∃ q, wr = w.drewN q) (fun n _ => 9 - (intOf n).toNat)
  case atStart => exact ⟨0, rfl, by omega, by omega, fun j hj => by omega, 0, rfl⟩
  case round =>
    obtain ⟨k, rfl, hkt, hk9, hall, hdr⟩ := hrel
    have HA := hid hall
    have HDR := hid hdr
    have HDN : Hid (∀ m, ∃ n, wr.drewN m = w.drewN n) := fun m => by obtain ⟨q, hq⟩ := HDR.out; exact ⟨q + m, by rw [hq, World.drewN_drewN]⟩
    clear hall hdr
    by_cases h1 : k < t.size
    · by_cases h9 : k < 9
      · have i1 : (k : Int) < (t.size : Int) := by omega
        have bt := byte_at t k h1
        have HG := hid (HD.out t[k])
        by_cases hg : isDB t[k] = true
        · rw [hg] at HG
          have HOK := hid (show isDB (t.data.toList[k]'(by rw [LT.out]; exact h1)) = true by rw [bt]; exact hg)
          clear hg bt
          go_wp2_with fail
          refine (HG.out _).mono ?_
          rintro e w' ⟨rfl, rfl⟩
          go_wp2
          go_roundw
          case rel =>
            refine ⟨k + 1, by go_num, by omega, by omega, fun j hj h => ?_, HDR.out⟩
            by_cases e : j = k
            · subst e; exact HOK.out
            · exact HA.out j (by omega) h
          case measure => simp [intOf]; omega
        · have hg' : isDB t[k] = false := by simpa using hg
          rw [hg'] at HG
          have HV := hid (show dga t.data.toList 9 = k from dga_at _ _ _ (by omega) (by rw [LT.out]; omega) HA.out (.inr (.inr ⟨by rw [LT.out]; exact h1, by rw [bt]; exact hg'⟩)))
          clear hg hg' bt
          go_wp2_with fail
          refine (HG.out _).mono ?_
          rintro e w' ⟨rfl, rfl⟩
          go_wp2
          go_ret
          rw [HV.out]
          exact ⟨rfl, HDR.out⟩
      · have HV := hid (show dga t.data.toList 9 = k from dga_at _ _ _ (by omega) (by rw [LT.out]; omega) HA.out (.inl (by omega)))
        go_wp2
        go_ret
        rw [HV.out]
        exact ⟨rfl, HDR.out⟩
    · have HV := hid (show dga t.data.toList 9 = k from dga_at _ _ _ (by omega) (by rw [LT.out]; omega) HA.out (.inr (.inl (by rw [LT.out]; omega))))
      go_wp2
      go_ret
      rw [HV.out]
      exact ⟨rfl, HDR.out⟩
end Go.Proofs.YtjmainmidacmfaaDoor
