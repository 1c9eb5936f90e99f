/-
  Pack, the program's.
-/
import Derived.Test.YtcenlpfanikdnaaDoorLevels
namespace Go.Proofs.YtcenlpfanikdnaaDoor
open Go.RowKit
set_option maxRecDepth 100000

/-- what Pack answers: the error, the text -/
def pckE (l : List UInt8) (v : Int) : Int := if nrmE l ≠ 0 then nrmE l else if v < 1 ∨ 9 < v then 2 else 0
def lvC (v : Int) : UInt8 := UInt8.ofNat (48 + v.toNat)
def pckT (l : List UInt8) (v : Int) : List UInt8 := if pckE l v = 0 then lv (nrm l) (lvC v) else []

theorem lvC_toNat {v : Int} (h0 : 0 ≤ v) (h9 : v ≤ 9) : 48 + v = ((lvC v).toNat : Int) := by
  unfold lvC
  rw [UInt8.toNat_ofNat']
  omega



set_option maxHeartbeats 800000 in
theorem pack_any (s : ByteArray) (v : Int) (w : World) (hs : s.size ≤ 9223372036854775807) :
    Calls Tryd.prog 8 #[.string s, .int .i64 v] w fun e w' => e = .returned (.tuple #[.string ⟨(pckT s.data.toList v).toArray⟩, .int .i64 (pckE s.data.toList v)]) ∧ Below w.heap.size w w' := by
  have HN : Hid (_) := normal_any s w hs
  clear hs
  by_cases h1 : nrmE s.data.toList = 0
  · have ht := nrmE_zero.1 h1
    have e2 : nrmT s.data.toList = nrm s.data.toList := by unfold nrmT; rw [if_pos h1]
    rw [h1, e2] at HN
    by_cases h2 : v < 1 ∨ 9 < v
    · have p1 : pckE s.data.toList v = 2 := by unfold pckE; rw [if_neg (by simpa using h1), if_pos h2]
      have p2 : pckT s.data.toList v = [] := by unfold pckT; rw [p1]; rfl
      rw [p1, p2]
      clear p1 p2 h1 e2 ht
      by_cases hv : v < 1
      all_goals
        go_enter Tryd.func8, Tryd.ntmps8
        go_wp2_with fail
        refine Calls.mono HN.out ?_
        rintro e w1 ⟨rfl, hb⟩
        clear HN
      · go_wp2
        go_ret2
        exact ⟨rfl, hb⟩
      · have h9 : 9 < v := by omega
        go_wp2
        go_ret2
        exact ⟨rfl, hb⟩
    · have p1 : pckE s.data.toList v = 0 := by unfold pckE; rw [if_neg (by simpa using h1), if_neg h2]
      have p2 : pckT s.data.toList v = lv (nrm s.data.toList) (lvC v) := by unfold pckT; rw [if_pos p1]
      rw [p1, p2]
      have hlen := nrm_len ht.2
      have hsz : (⟨(nrm s.data.toList).toArray⟩ : ByteArray).size = 14 := by rw [← len_list]; simpa using hlen
      have hv0 : ¬ v < 1 := by omega
      have hv9 : ¬ 9 < v := by omega
      clear p1 p2 h1 e2 ht h2 hlen
      go_enter Tryd.func8, Tryd.ntmps8
      go_wp2_with fail
      refine Calls.mono HN.out ?_
      rintro e w1 ⟨rfl, hb⟩
      clear HN
      have hz := hb.size
      have HL : Hid (_) := atLevel_any ⟨(nrm s.data.toList).toArray⟩ v (lvC v) w1 hsz (by omega) (by omega) (lvC_toNat (by omega) (by omega))
      clear hsz
      go_wp2_with fail
      refine Calls.mono HL.out ?_
      rintro e w2 ⟨rfl, hb2⟩
      clear HL
      go_wp2
      go_ret2
      exact ⟨rfl, hb.trans (hb2.mono hz)⟩
  · have p1 : pckE s.data.toList v = nrmE s.data.toList := by unfold pckE; rw [if_pos h1]
    have p2 : pckT s.data.toList v = [] := by unfold pckT; rw [p1, if_neg h1]
    have e2 : nrmT s.data.toList = [] := by unfold nrmT; rw [if_neg h1]
    rw [p1, p2]
    rw [e2] at HN
    generalize nrmE s.data.toList = q at HN h1
    have h1b : (q != 0) = true := by simp [h1]
    clear p1 p2 e2
    go_enter Tryd.func8, Tryd.ntmps8
    go_wp2_with fail
    refine Calls.mono HN.out ?_
    rintro e w1 ⟨rfl, hb⟩
    go_wp2
    go_ret2
    exact ⟨rfl, hb⟩

end Go.Proofs.YtcenlpfanikdnaaDoor
