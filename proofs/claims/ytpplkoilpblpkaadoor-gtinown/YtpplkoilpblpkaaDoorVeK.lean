/-
  A Value's end and its fault as a whole, for any kind.
-/
import Derived.Test.YtpplkoilpblpkaaDoorVeC
import Derived.Test.YtpplkoilpblpkaaDoorDay
import Derived.Test.YtpplkoilpblpkaaDoorFormFault
import Derived.Shelf.Abstract
namespace Go.Proofs.YtpplkoilpblpkaaDoor
open Go.RowKit
set_option maxRecDepth 100000

theorem badAt_drop (T : List UInt8) (fr j : Nat) : badAt T (fr + j) = badAt (T.drop fr) j := by
  unfold badAt
  rw [List.getElem?_drop]
theorem badAt_zero (c : UInt8) (t : List UInt8) : badAt (c :: t) 0 = !(isDB c) := by simp [badAt]
theorem badAt_succ (c : UInt8) (t : List UInt8) (j : Nat) : badAt (c :: t) (j + 1) = badAt t j := by simp [badAt]
theorem vp_find (r : Nat) : ∀ (l : List UInt8) (n : Nat), vp r l n = match (List.range r).find? (fun j => badAt l j) with
    | none => .inr (n + r)
    | some j => if j = l.length then .inl (3, n + j) else .inl (20, n + j) := by
  induction r with
  | zero => intro l n; rfl
  | succ r ih =>
    intro l n
    cases l with
    | nil =>
      rw [List.range_succ_eq_map, List.find?_cons_of_pos (by rfl)]
      simp [vp]
    | cons c t =>
      rw [List.range_succ_eq_map]
      cases hd : isDB c with
      | false =>
        rw [List.find?_cons_of_pos (by rw [badAt_zero, hd]; rfl)]
        simp [vp, hd]
      | true =>
        rw [List.find?_cons_of_neg (by rw [badAt_zero, hd]; simp), List.find?_map]
        have e : ((fun j => badAt (c :: t) j) ∘ Nat.succ) = fun j => badAt t j := funext fun j => badAt_succ c t j
        rw [e, vp, if_pos hd, ih]
        cases (List.range r).find? (fun j => badAt t j) with
        | none => simp; omega
        | some j =>
          simp only [Option.map_some, List.length_cons, Nat.succ_eq_add_one, Nat.add_right_cancel_iff]
          split
          · simp; omega
          · simp; omega
theorem peV_is (T : List UInt8) (fr hi : Nat) (h : fr ≤ T.length) : peV T fr hi = veV fr (vp hi (T.drop fr) 0) := by
  unfold peV
  rw [vp_find]
  have e : (fun j => badAt T (fr + j)) = fun j => badAt (T.drop fr) j := funext fun j => badAt_drop T fr j
  rw [e]
  cases (List.range hi).find? (fun j => badAt (T.drop fr) j) with
  | none => simp [veV]
  | some j =>
    simp only [List.length_drop, Nat.zero_add]
    by_cases hj : fr + j = T.length
    · rw [if_pos hj, if_pos (by omega)]
      simp [veV]
      omega
    · rw [if_neg hj, if_neg (by omega)]
      simp [veV]

def fK (k : Int) : Nat := if k ≤ 8 then 47 else 58
def gK (k : Int) : Nat := if k ≤ 2 then 44 else if k = 3 then 45 else 46
theorem frmOf_is (k : Int) (h0 : 0 ≤ k) (h1 : k ≤ 12) : frmOf k = frm (loK k) (hiK k) (plK k) (fK k) (gK k) := by
  have hk : k = 0 ∨ k = 1 ∨ k = 2 ∨ k = 3 ∨ k = 4 ∨ k = 5 ∨ k = 6 ∨ k = 7 ∨ k = 8 ∨ k = 9 ∨ k = 10 ∨ k = 11 ∨ k = 12 := by omega
  rcases hk with rfl | rfl | rfl | rfl | rfl | rfl | rfl | rfl | rfl | rfl | rfl | rfl | rfl <;> rfl
theorem eg_of {f : Nat} {fn : Func} {c : Code} (hf : Tryd.prog.funcs[f]? = some fn) (hn : (fn.name == "runtime.NumGoroutine") = false) (hb : fn.body = some c) : ∀ args w, (callFunc f args).run Tryd.prog w = .ok (.enter f args) w := Go.Proofs.enters_of hf hn hb
theorem gK_enters (k : Int) : ∀ args w, (callFunc (gK k) args).run Tryd.prog w = .ok (.enter (gK k) args) w := by
  unfold gK
  split
  · exact eg_of Tryd.func44 rfl rfl
  · split
    · exact eg_of Tryd.func45 rfl rfl
    · exact eg_of Tryd.func46 rfl rfl
theorem whole_any (k : Int) (v : ByteArray) (w : World) (hv : v.size ≤ 90) (h3 : k = 3 → v.size = 6) :
    Calls Tryd.prog (gK k) #[.string v] w fun e w' => e = .returned (.tuple #[.int .i64 (whK k v.data.toList).1, .int .i64 (whK k v.data.toList).2]) ∧ Below w.heap.size w w' := by
  unfold gK whK
  by_cases h2 : k ≤ 2
  · rw [if_pos h2, if_pos h2]
    exact below_of_same (codeFault_any v w (by omega))
  · rw [if_neg h2, if_neg h2]
    by_cases hd : k = 3
    · rw [if_pos hd, if_pos hd]
      exact dayFault_any v w (h3 hd)
    · rw [if_neg hd, if_neg hd]
      exact below_of_same (noFault_any v w)
theorem loK_le (k : Int) : loK k ≤ 90 := by unfold loK; repeat' split <;> try omega
theorem valueEnd_any (b : Nat) (s : ByteArray) (fr : Nat) (k : Int) (w : World) (h0 : 0 ≤ k) (h1 : k ≤ 12) (hs : s.size ≤ 1000000) (hf : fr ≤ s.size) (c0 : w.cell? ⟨b, 0, none⟩ = some (.string s)) :
    Calls Tryd.prog 35 #[.pointer (some ⟨b, 0, none⟩), frmOf k, .int .i64 (fr : Int)] w fun e w' => e = .returned (veV fr (vend k (s.data.toList.drop fr))) ∧ Below w.heap.size w w' := by
  have hl := len_list s
  have hh := hiK_le k
  have hlo := loK_le k
  rw [frmOf_is k h0 h1]
  unfold vend fK byK
  cases hp : plK k with
  | true =>
    have h8 : k ≤ 8 := by unfold plK at hp; simp at hp; omega
    rw [if_pos h8, if_pos rfl, ← peV_is _ _ _ (by omega)]
    exact valueEnd_D b s fr (loK k) (hiK k) (gK k) w hs hf (by omega) c0
  | false =>
    rw [if_neg (show ¬ (false = true) by simp)]
    by_cases h8 : k ≤ 8
    · rw [if_pos h8, if_pos h8]
      exact valueEnd_Dg b s fr (loK k) (hiK k) (gK k) w hs hf (by omega) (by omega) c0
    · rw [if_neg h8, if_neg h8]
      exact valueEnd_Ch b s fr (loK k) (hiK k) (gK k) w hs hf (by omega) (by omega) c0
end Go.Proofs.YtpplkoilpblpkaaDoor
