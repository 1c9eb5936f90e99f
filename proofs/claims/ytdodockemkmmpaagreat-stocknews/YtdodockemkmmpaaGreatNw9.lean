/-
  stock: what New answers (pure); a state kept whole.
-/
import Derived.Test.YtdodockemkmmpaaGreatNw4
import Derived.Test.YtdodockemkmmpaaGreatNw1
import Derived.Deep.WholeRow
namespace Go.Proofs.YtdodockemkmmpaaGreat
open Go.RowKit
set_option maxRecDepth 100000

/-- the levels of a new ledger -/
def lvl (C : List ByteArray) : List Lv := C.map fun c => (c, 0, 0)
theorem lvl_len (C : List ByteArray) : (lvl C).length = C.length := by simp [lvl]
/-- do texts rise? -/
def rsT : List ByteArray → Bool
  | a :: b :: t => !leB b a && rsT (b :: t)
  | _ => true
theorem rsT_iff : ∀ C : List ByteArray, rsT C = true ↔ ∀ i (h : i + 1 < C.length), leB C[i + 1] (C[i]'(by omega)) = false
  | [] => by simp [rsT]
  | [a] => by simp [rsT]
  | a :: b :: t => by
    have ih := rsT_iff (b :: t)
    unfold rsT
    rw [Bool.and_eq_true, Bool.not_eq_true', ih]
    constructor
    · rintro ⟨h1, h2⟩ i hi
      cases i with
      | zero => exact h1
      | succ i => exact h2 i (by simpa using hi)
    · intro h
      exact ⟨h 0 (by simp), fun i hi => h (i + 1) (by simpa using hi)⟩
theorem rsL_iff (C : List ByteArray) : RsL (lvl C) ↔ rsT C = true := by
  rw [rsT_iff]
  unfold RsL
  constructor
  · intro h i hi
    have := h i (by rw [lvl_len]; exact hi)
    simpa [lvl] using this
  · intro h i hi
    rw [lvl_len] at hi
    have := h i hi
    simpa [lvl] using this
/-- what New answers: its error -/
def nE (C : List ByteArray) (room : Int) : Int :=
  if C.length = 0 ∨ room < 0 ∨ 131072 < room then 2 else if 512 < C.length then 1 else if C.all (tx · 40) = false then 123 else if rsT C = false then 145 else if room < ((64 + xv (lvl C) : Nat) : Int) then 5 else 0
theorem nE_ok {C : List ByteArray} {room : Int} (h : nE C room = 0) : LOk (lvl C) ∧ (0 ≤ room ∧ room ≤ 131072) ∧ ((64 + xv (lvl C) : Nat) : Int) ≤ room := by
  unfold nE at h
  by_cases h1 : C.length = 0 ∨ room < 0 ∨ 131072 < room
  · rw [if_pos h1] at h; omega
  rw [if_neg h1] at h
  by_cases h2 : 512 < C.length
  · rw [if_pos h2] at h; omega
  rw [if_neg h2] at h
  by_cases h3 : C.all (tx · 40) = false
  · rw [if_pos h3] at h; omega
  rw [if_neg h3] at h
  by_cases h4 : rsT C = false
  · rw [if_pos h4] at h; omega
  rw [if_neg h4] at h
  by_cases h5 : room < ((64 + xv (lvl C) : Nat) : Int)
  · rw [if_pos h5] at h; omega
  have h3' : C.all (tx · 40) = true := by simpa using h3
  have h4' : rsT C = true := by simpa using h4
  refine ⟨⟨by rw [lvl_len]; omega, by rw [lvl_len]; omega, fun x hx => ?_, (rsL_iff C).2 h4'⟩, by omega, by omega⟩
  obtain ⟨c, hc, rfl⟩ := List.mem_map.1 hx
  exact ⟨List.all_eq_true.1 h3' c hc, rfl, rfl⟩
/-- a state, kept whole -/
def stLd (a : Addr) : Sem Value := loadVar 32 a
theorem stLd_op (a : Addr) : loadVar 32 a = stLd a := rfl
def stSt (a : Addr) (v : Value) : Sem Unit := storeVar 32 a v
theorem stSt_op (a : Addr) (v : Value) : storeVar 32 a v = stSt a v := rfl
theorem stsize : (Tryz.prog.info? 32).map (·.size) = some 6 := by kernel_rfl
def stC (room : Int) (v : Value) : Array Value := #[.int .i64 room, .int .i64 0, .int .i64 0, v, .slice none 0 0, .slice none 0 0]
theorem run_stLd {w : World} {b : Nat} {room : Int} {v : Value} (h : w.heap[b]? = some (.cells (stC room v) 32 (0, 0))) : (stLd ⟨b, 0, none⟩).run Tryz.prog w = .ok (s0V room v) w :=
  run_loadVar_row _ _ _ _ (stC room v) (0, 0) _ h Tryz.underlying32 rfl stsize
theorem run_stSt {w : World} {b : Nat} {room : Int} {v : Value} (h : w.heap[b]? = some (.cells (stC room v) 32 (0, 0))) (room' : Int) (v' : Value) (hv : v'.oneCell' = true) :
    ∃ W, (stSt ⟨b, 0, none⟩ (s0V room' v')).run Tryz.prog w = .ok () W ∧ W.heap[b]? = some (.cells (stC room' v') 32 (0, 0)) ∧ w.grownBy W (some b) ∧ W.heap.size = w.heap.size := by
  refine ⟨w.setRow b (stC room' v'), run_storeVar_row w b _ _ (stC room v) (stC room' v') h stsize rfl (by simp [stC, hv]; simp [Value.oneCell']), ?_, ⟨rfl, rfl, rfl, by simp [World.setRow], fun k _ hk => ?_⟩, by simp [World.setRow]⟩
  · simp [World.setRow, Array.getElem?_modify, h]
  · have : b ≠ k := fun e => hk (by rw [e])
    simp [World.setRow, Array.getElem?_modify, this]
end Go.Proofs.YtdodockemkmmpaaGreat
