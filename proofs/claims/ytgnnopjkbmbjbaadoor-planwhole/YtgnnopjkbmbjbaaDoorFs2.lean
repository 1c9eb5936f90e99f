/-
  plan: checked, spread, Stats; the document's history, Stats.
-/
import Derived.Test.YtgnnopjkbmbjbaaDoorFs1
import Derived.Test.YtgnnopjkbmbjbaaDoorPq0
import Derived.Laws.Externs
namespace Go.Proofs.YtgnnopjkbmbjbaaDoor
open Go.RowKit
set_option maxRecDepth 100000
set_option linter.unusedSimpArgs false

def wiB (n l : Int) : Bool := decide (l ≤ n) && decide (n ≤ 1099511627776)
theorem within_any (n l : Int) (w : World) : Calls Tryd.prog 11 #[.int .i64 n, .int .i64 l] w fun e w' => e = .returned (.bool (wiB n l)) ∧ w' = w := by
  unfold wiB
  by_cases h : l ≤ n
  all_goals
    go_enter Tryd.func11, Tryd.ntmps11
    go_wp2
    go_ret
    refine ⟨?_, rfl⟩
    first | rfl | (simp; omega)
/-- why a list is no history -/
def hE (L : List Int) : Int := if 4096 < L.length then 1 else if (L.all fun x => wiB x 0) = true then 0 else 172
theorem hE_long {L : List Int} (h : 4096 < L.length) : hE L = 1 := if_pos h
theorem hE_ok {L : List Int} (h : ¬ 4096 < L.length) (ha : ∀ i (hi : i < L.length), wiB L[i] 0 = true) : hE L = 0 := by
  unfold hE
  rw [if_neg h, if_pos]
  rw [List.all_eq_true]
  intro x hx
  obtain ⟨i, hi, rfl⟩ := List.mem_iff_getElem.1 hx
  exact ha i hi
theorem hE_no {L : List Int} (h : ¬ 4096 < L.length) {i : Nat} (hi : i < L.length) (hw : wiB L[i] 0 = false) : hE L = 172 := by
  unfold hE
  rw [if_neg h, if_neg]
  intro ha
  rw [List.all_eq_true.1 ha _ (List.getElem_mem hi)] at hw
  cases hw
theorem hE_zero {L : List Int} (h : hE L = 0) : L.length ≤ 4096 ∧ HOk L := by
  unfold hE at h
  split at h
  · cases h
  · rename_i hl
    split at h
    · rename_i ha
      refine ⟨by omega, fun x hx => ?_⟩
      have := List.all_eq_true.1 ha x hx
      unfold wiB at this
      simpa using this
    · cases h
theorem int_at {w : World} {v : Value} {L : List Int} (h : RL eI 1 w v L) (i : Nat) (hi : i < L.length) : ∃ g off c, v = .slice (some ⟨g, off, none⟩) L.length c ∧ L.length ≤ c ∧ w.cell? ⟨g, off + i, none⟩ = some (.int .i64 L[i]) := by
  obtain ⟨g, off, c, hv, hc, hr⟩ := h.form (by omega)
  exact ⟨g, off, c, hv, hc, by have := hr i hi 0 _ rfl; rw [Nat.mul_one] at this; exact this⟩
set_option maxHeartbeats 1000000 in
theorem checked_any (v : Value) (L : List Int) (w : World) (h : RL eI 1 w v L) (hl : (L.length : Int) ≤ 9223372036854775807) : Calls Tryd.prog 7 #[v] w fun e w' => e = .returned (.int .i64 (hE L)) ∧ w' = w := by
  have H := hid h
  obtain ⟨ao, cp, rfl⟩ := h.len0
  clear h
  by_cases hL : 4096 < L.length
  · have hI : (4096 : Int) < (L.length : Int) := by omega
    rw [hE_long hL]
    go_enter Tryd.func7, Tryd.ntmps7
    go_wp2
    go_ret
    exact ⟨rfl, rfl⟩
  · have hI : ¬ (4096 : Int) < (L.length : Int) := by omega
    have HL := hid hL
    clear hL
    go_enter Tryd.func7, Tryd.ntmps7
    go_wp2_with fail
    go_loop [10] (fun i => ∃ k : Nat, k ≤ L.length ∧ i = .int .i64 (k : Int) ∧ ∀ i (hi : i < L.length), i < k → wiB L[i] 0 = true) (fun i => L.length - (intOf i).toNat)
    case atStart => exact ⟨0, by omega, rfl, fun i _ h => by omega⟩
    case round =>
      obtain ⟨k, hk, rfl, hok⟩ := hrel
      have HO := hid hok
      clear hok
      by_cases hlt : k < L.length
      · have hIk : (k : Int) < (L.length : Int) := by omega
        obtain ⟨g, off, c, e1, hc, c0⟩ := int_at H.out k hlt
        cases e1
        have HW := hid (fun wx => within_any (L[k]'hlt) 0 wx)
        have HN := hid (fun h => hE_no HL.out hlt h)
        have HY := hid (fun (q : wiB (L[k]'hlt) 0 = true) => show ∀ i (hi : i < L.length), i < k + 1 → wiB L[i] 0 = true from fun i hi h2 => by
          by_cases e : i = k
          · subst e; exact q
          · exact HO.out i hi (by omega))
        generalize L[k]'hlt = x at *
        cases q : wiB x 0
        · have HN2 := hid (HN.out q)
          go_wp2_with fail
          refine Calls.mono (HW.out _) ?_
          rintro e w1 ⟨rfl, rfl⟩
          rw [q]
          go_wp2
          go_ret
          exact ⟨by rw [HN2.out]; rfl, rfl⟩
        · have HY2 := hid (HY.out q)
          go_wp2_with fail
          refine Calls.mono (HW.out _) ?_
          rintro e w1 ⟨rfl, rfl⟩
          rw [q]
          go_wp2_with fail
          go_round
          case rel => exact ⟨k + 1, by omega, by go_num, HY2.out⟩
          case measure => simp [intOf]; omega
      · obtain rfl : k = L.length := by omega
        have HE := hid (hE_ok HL.out (fun i hi => HO.out i hi hi))
        go_wp2
        go_ret
        exact ⟨by rw [HE.out]; rfl, rfl⟩
end Go.Proofs.YtgnnopjkbmbjbaaDoor
