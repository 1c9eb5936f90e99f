/-
  Units: the contracts of both sides.
-/
import Derived.Test.YtcenlpfanikdnaaDoorShort
namespace Go.Proofs.YtcenlpfanikdnaaDoor
open Go.RowKit
set_option maxRecDepth 100000

/-- what Unit answers -/
def unE (l : List UInt8) : Int := if nrmE l = 0 then nrmE (lv (nrm l) 48) else nrmE l
def unT (l : List UInt8) : List UInt8 := if nrmE l = 0 then shT (lv (nrm l) 48) else []

theorem lv_code {n : List UInt8} (hn : n.length = 14) (ha : AllD n) (c : UInt8) (hc : IsD c) : Code1 (lv n c) ∧ (lv n c).length = 14 := by
  have hB := lvB_len hn c
  have hlen : (lv n c).length = 14 := by unfold lv; rw [List.length_append, hB]; rfl
  refine ⟨⟨?_, ?_, sm_ck_self _⟩, hlen⟩
  · intro x hx
    rcases List.mem_append.1 hx with hx | hx
    · rcases List.mem_cons.1 hx with rfl | hx
      · exact hc
      · exact ha x (List.mem_of_mem_drop (List.mem_of_mem_take hx))
    · rw [List.mem_singleton.1 hx]; exact ck_digit _
  · rw [hlen]; exact .inr (.inr (.inr (.inl rfl)))

theorem digit48 : IsD 48 := ⟨by decide, by decide⟩

set_option maxHeartbeats 800000 in
theorem unit_any (s : ByteArray) (w : World) (hs : s.size ≤ 9223372036854775807) :
    Calls Tryd.prog 11 #[.string s] w fun e w' => e = .returned (.tuple #[.string ⟨(unT s.data.toList).toArray⟩, .int .i64 (unE s.data.toList)]) ∧ Below w.heap.size w w' := by
  have HN : Hid (_) := normal_any s w hs
  clear hs
  by_cases h1 : nrmE s.data.toList = 0
  · have ht := nrmE_zero.1 h1
    have e2 : nrmT s.data.toList = nrm s.data.toList := by unfold nrmT; rw [if_pos h1]
    have e3 : unT s.data.toList = shT (lv (nrm s.data.toList) 48) := by unfold unT; rw [if_pos h1]
    have e4 : unE s.data.toList = nrmE (lv (nrm s.data.toList) 48) := by unfold unE; rw [if_pos h1]
    rw [h1, e2] at HN
    rw [e3, e4]
    have hlen := nrm_len ht.2
    generalize nrm s.data.toList = n at HN hlen
    clear e2 e3 e4 h1 ht
    have hsz : (⟨n.toArray⟩ : ByteArray).size = 14 := by rw [← len_list]; simpa using hlen
    have HL : Hid (∀ w, Calls Tryd.prog 19 #[.string ⟨n.toArray⟩, .int .i64 0] w fun e w' => e = .returned (.string ⟨(lv n 48).toArray⟩) ∧ Below w.heap.size w w') := fun w => atLevel_any ⟨n.toArray⟩ 0 48 w hsz (by omega) (by omega) rfl
    have hB := lvB_len hlen 48
    have hlv : (⟨(lv n 48).toArray⟩ : ByteArray).size ≤ 9223372036854775807 := by
      rw [← len_list]
      unfold lv
      simp [hB]
    have HS : Hid (∀ w, Calls Tryd.prog 12 #[.string ⟨(lv n 48).toArray⟩] w fun e w' => e = .returned (.tuple #[.string ⟨(shT (lv n 48)).toArray⟩, .int .i64 (nrmE (lv n 48))]) ∧ Below w.heap.size w w') := fun w => short_any ⟨(lv n 48).toArray⟩ w hlv
    clear hlv hB hsz hlen
    generalize shT (lv n 48) = sT at HS
    generalize nrmE (lv n 48) = sE at HS
    go_enter Tryd.func11, Tryd.ntmps11
    go_wp2_with fail
    refine Calls.mono HN.out ?_
    rintro e w1 ⟨rfl, hb1⟩
    have hz1 := hb1.size
    go_wp2_with fail
    refine (HL.out w1).mono ?_
    rintro e w2 ⟨rfl, hb2⟩
    have hz2 := hb2.size
    go_wp2_with fail
    refine (HS.out w2).mono ?_
    rintro e w3 ⟨rfl, hb3⟩
    go_wp2
    go_ret2
    exact ⟨rfl, (hb1.trans (hb2.mono hz1)).trans (hb3.mono (by omega))⟩
  · have e2 : nrmT s.data.toList = [] := by unfold nrmT; rw [if_neg h1]
    have e3 : unT s.data.toList = [] := by unfold unT; rw [if_neg h1]
    have e4 : unE s.data.toList = nrmE s.data.toList := by unfold unE; rw [if_neg h1]
    rw [e3, e4]
    rw [e2] at HN
    generalize nrmE s.data.toList = q at HN h1
    have h1b : (q != 0) = true := by simp [h1]
    clear e2 e3 e4
    go_enter Tryd.func11, Tryd.ntmps11
    go_wp2_with fail
    refine Calls.mono HN.out ?_
    rintro e w1 ⟨rfl, hb⟩
    go_wp2
    go_ret2
    exact ⟨rfl, hb⟩

end Go.Proofs.YtcenlpfanikdnaaDoor
