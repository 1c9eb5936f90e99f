/-
  LockPlays: the making of both tables.
-/
import Derived.Test.YtehgjfokpcnneaaCallsIn
namespace Go.Proofs.Ytehgjfokpcnneaa
open Go.RowKit
set_option maxRecDepth 100000

/-- what New makes -/
def nwO (n : Int) : OS := if 1 ≤ n ∧ n ≤ 64 then some (List.replicate n.toNat (0, 0, 0)) else none
def nwE (n : Int) : Int := if 1 ≤ n ∧ n ≤ 64 then 0 else 2
theorem nwO_in (n : Nat) (h : 1 ≤ n) (h2 : n ≤ 64) : nwO (n : Int) = some (List.replicate n (0, 0, 0)) := by unfold nwO; rw [if_pos ⟨by omega, by omega⟩, Int.toNat_natCast]
theorem nwO_ln (n : Int) : lnO (nwO n) ≤ 64 := by
  unfold nwO
  split
  · simp [lnO]; omega
  · simp [lnO]
theorem nwO_bd (n : Int) : bdO (nwO n) 0 := by
  intro s x h
  unfold nwO at h
  split at h
  · unfold atO at h
    simp only at h
    split at h
    · rename_i hs
      simp only [List.length_replicate] at hs
      rw [List.getD_eq_getElem?_getD, List.getElem?_replicate, if_pos (by omega)] at h
      simp at h
      subst h
      decide
    · cases h
  · simp [atO] at h
theorem pnew_un (n : Int) (w : World) : Calls Try.prog 10 #[.int .i64 n] w fun e w' => ∃ p d hb, e = .returned (.tuple #[p, .int .i64 (nwE n)]) ∧ TN T1 R1 w' w.heap.size d hb p (nwO n) ∧ Below w.heap.size w w' := by
  by_cases h : 1 ≤ n ∧ n ≤ 64
  · obtain ⟨i, rfl⟩ : ∃ i : Nat, n = (i : Int) := ⟨n.toNat, by omega⟩
    refine (new_in i w (by omega) (by omega)).mono ?_
    rintro e w' ⟨⟨d, hb, rfl, hT⟩, hB⟩
    refine ⟨_, d, hb, by unfold nwE; rw [if_pos h], ?_, hB⟩
    rw [nwO_in i (by omega) (by omega)]
    exact ⟨rfl, hT⟩
  · refine (new_out n w h).mono ?_
    rintro e w' ⟨rfl, rfl⟩
    refine ⟨_, 0, 0, by unfold nwE; rw [if_neg h], ?_, Below.refl _ _⟩
    unfold nwO
    rw [if_neg h]
    rfl
theorem rnew_un (n : Int) (w : World) : Calls Try.prog 23 #[.int .i64 n] w fun e w' => ∃ p d hb, e = .returned (.tuple #[p, .int .i64 (nwE n)]) ∧ TN T2 R2 w' w.heap.size d hb p (nwO n) ∧ Below w.heap.size w w' := by
  by_cases h : 1 ≤ n ∧ n ≤ 64
  · obtain ⟨i, rfl⟩ : ∃ i : Nat, n = (i : Int) := ⟨n.toNat, by omega⟩
    refine (rnew_in i w (by omega) (by omega)).mono ?_
    rintro e w' ⟨⟨d, hb, rfl, hT⟩, hB⟩
    refine ⟨_, d, hb, by unfold nwE; rw [if_pos h], ?_, hB⟩
    rw [nwO_in i (by omega) (by omega)]
    exact ⟨rfl, hT⟩
  · refine (rnew_out n w h).mono ?_
    rintro e w' ⟨rfl, rfl⟩
    refine ⟨_, 0, 0, by unfold nwE; rw [if_neg h], ?_, Below.refl _ _⟩
    unfold nwO
    rw [if_neg h]
    rfl
theorem TN.base {tt rt : TypeId} {w : World} {base b0 d hb : Nat} {p : Value} {o : OS} (h : TN tt rt w base d hb p o) (hb0 : b0 ≤ base) : TN tt rt w b0 d hb p o := by
  cases o with
  | none => exact h
  | some S => exact ⟨h.1, Nat.le_trans hb0 h.2.gd, Nat.le_trans hb0 h.2.gh, h.2.top, h.2.row, h.2.ne, h.2.many, h.2.ok⟩
/-- is it nil? -/
theorem TN.nil1 {w : World} {base d hb : Nat} {p : Value} {o : OS} (h : TN T1 R1 w base d hb p o) : ∀ w' : World, (binOp .eql 25 p (.pointer none)).run Try.prog w' = .ok (.bool o.isNone) w' := by
  cases o with
  | none => obtain rfl : p = .pointer none := h; intro w'; kernel_rfl
  | some S => obtain ⟨rfl, _⟩ := h; intro w'; simp [go_sem]
theorem TN.nil2 {w : World} {base d hb : Nat} {p : Value} {o : OS} (h : TN T2 R2 w base d hb p o) : ∀ w' : World, (binOp .eql 48 p (.pointer none)).run Try.prog w' = .ok (.bool o.isNone) w' := by
  cases o with
  | none => obtain rfl : p = .pointer none := h; intro w'; kernel_rfl
  | some S => obtain ⟨rfl, _⟩ := h; intro w'; simp [go_sem]
theorem TN.not2 {w : World} {base d hb : Nat} {p : Value} {o : OS} (h : TN T2 R2 w base d hb p o) : ∀ w' : World, (binOp .neq 48 p (.pointer none)).run Try.prog w' = .ok (.bool o.isSome) w' := by
  cases o with
  | none => obtain rfl : p = .pointer none := h; intro w'; kernel_rfl
  | some S => obtain ⟨rfl, _⟩ := h; intro w'; simp [go_sem]
theorem TN.ptr {tt rt : TypeId} {w : World} {base d hb : Nat} {p : Value} {o : OS} (h : TN tt rt w base d hb p o) : ∃ a, p = .pointer a := by
  cases o with
  | none => exact ⟨none, h⟩
  | some S => exact ⟨_, h.1⟩
theorem TN.guard {tt rt : TypeId} {w : World} {base d hb : Nat} {p : Value} {o : OS} (h : TN tt rt w base d hb p o) : ∀ (b : BinOp) (t : TypeId) (x y : Operand) (w' : World), (eqGuard b t x y p (.pointer none)).run Try.prog w' = .ok () w' := by
  obtain ⟨a, rfl⟩ := h.ptr
  intro b t x y w'
  cases b <;> rfl
end Go.Proofs.Ytehgjfokpcnneaa
