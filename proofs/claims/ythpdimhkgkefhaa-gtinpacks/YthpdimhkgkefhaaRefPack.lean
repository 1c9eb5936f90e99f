/-
  Pack, the document's.
-/
import Derived.Test.YthpdimhkgkefhaaPacks
import Derived.Test.YthpdimhkgkefhaaRefNormal
namespace Go.Proofs.Ythpdimhkgkefhaa
open Go.RowKit
set_option maxRecDepth 100000

set_option maxHeartbeats 800000 in
theorem refPack_any (s : ByteArray) (v : Int) (w : World) :
    Calls Try.prog 12 #[.string s, .int .i64 v] w fun e w' => e = .returned (.tuple #[.string ⟨(pckT s.data.toList v).toArray⟩, .int .i64 (pckE s.data.toList v)]) ∧ Below w.heap.size w w' := by
  have HN : Hid (_) := refNormal_any s w
  by_cases h1 : nrmE s.data.toList = 0
  · have ht := nrmE_zero.1 h1
    have e2 : nrmT s.data.toList = nrm s.data.toList := by unfold nrmT; rw [if_pos h1]
    rw [h1, e2] at HN
    by_cases h2 : v < 1 ∨ 9 < v
    · have p1 : pckE s.data.toList v = 2 := by unfold pckE; rw [if_neg (by simpa using h1), if_pos h2]
      have p2 : pckT s.data.toList v = [] := by unfold pckT; rw [p1]; rfl
      rw [p1, p2]
      clear p1 p2 h1 e2 ht
      by_cases hv : v < 1
      all_goals
        go_enter Try.func12, Try.ntmps12
        go_wp2_with fail
        refine Calls.mono HN.out ?_
        rintro e w1 ⟨rfl, rfl⟩
        clear HN
      · go_wp2
        go_ret2
        exact ⟨rfl, Below.refl _ _⟩
      · have h9 : 9 < v := by omega
        go_wp2
        go_ret2
        exact ⟨rfl, Below.refl _ _⟩
    · have p1 : pckE s.data.toList v = 0 := by unfold pckE; rw [if_neg (by simpa using h1), if_neg h2]
      have p2 : pckT s.data.toList v = lv (nrm s.data.toList) (lvC v) := by unfold pckT; rw [if_pos p1]
      rw [p1, p2]
      have hlen := nrm_len ht.2
      have hsz : (⟨(nrm s.data.toList).toArray⟩ : ByteArray).size = 14 := by rw [← len_list]; simpa using hlen
      have hv0 : ¬ v < 1 := by omega
      have hv9 : ¬ 9 < v := by omega
      have hcn := lvC_toNat (v := v) (by omega) (by omega)
      have HL : Hid (_) := leveled_any ⟨(nrm s.data.toList).toArray⟩ (48 + v) (lvC v) w hsz hcn (nrm_allD ht.1.1) (by unfold IsD; omega)
      clear p1 p2 h1 e2 ht h2 hlen hcn hsz
      go_enter Try.func12, Try.ntmps12
      go_wp2_with fail
      refine Calls.mono HN.out ?_
      rintro e w1 ⟨rfl, rfl⟩
      clear HN
      go_wp2_with fail
      refine Calls.mono HL.out ?_
      rintro e w2 ⟨rfl, hb2⟩
      clear HL
      go_wp2
      go_ret2
      exact ⟨rfl, hb2⟩
  · have p1 : pckE s.data.toList v = nrmE s.data.toList := by unfold pckE; rw [if_pos h1]
    have p2 : pckT s.data.toList v = [] := by unfold pckT; rw [p1, if_neg h1]
    have e2 : nrmT s.data.toList = [] := by unfold nrmT; rw [if_neg h1]
    rw [p1, p2]
    rw [e2] at HN
    generalize nrmE s.data.toList = q at HN h1
    have h1b : (q != 0) = true := by simp [h1]
    clear p1 p2 e2
    go_enter Try.func12, Try.ntmps12
    go_wp2_with fail
    refine Calls.mono HN.out ?_
    rintro e w1 ⟨rfl, rfl⟩
    go_wp2
    go_ret2
    exact ⟨rfl, Below.refl _ _⟩
end Go.Proofs.Ythpdimhkgkefhaa
