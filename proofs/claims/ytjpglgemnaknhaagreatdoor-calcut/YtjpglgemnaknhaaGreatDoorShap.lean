/-
  The six shapes of a date, and what a text that has one of them holds where.
-/
import Derived.Test.YtjpglgemnaknhaaGreatDoorFit
namespace Go.Proofs.YtjpglgemnaknhaaGreatDoor
open Go.RowKit
set_option maxRecDepth 100000

/-- where the digits stand -/
def skB : List Bool → Nat
  | [] => 0
  | b :: r => if b then 0 else skB r + 1
theorem skA_mask : ∀ l : List UInt8, skA l = skB (l.map isDB)
  | [] => rfl
  | c :: r => by
    show (if isDB c then 0 else skA r + 1) = (if isDB c then 0 else skB (r.map isDB) + 1)
    rw [skA_mask r]
theorem sk_mask (t : List UInt8) (a : Nat) : sk t a = a + skB ((t.map isDB).drop a) := by
  unfold sk; rw [skA_mask, List.map_drop]
theorem dig_mask (t : List UInt8) (a k : Nat) (h : (((t.map isDB).drop a).take k).all id = true) : ∀ c ∈ sub t a k, isDB c = true := by
  intro c hc
  unfold sub at hc
  rw [List.all_eq_true] at h
  have : isDB c ∈ ((t.map isDB).drop a).take k := by
    rw [← List.map_drop, ← List.map_take]
    exact List.mem_map_of_mem hc
  exact h _ this
theorem mask_of : ∀ (t s : List UInt8), rl t s = t.length → rl t s = s.length → (s.all fun x => x == 100 || !isDB x) = true → t.map isDB = s.map (fun x => x == 100)
  | [], [], _, _, _ => rfl
  | [], x :: s, _, h, _ => by unfold rl at h; simp at h
  | c :: t, [], h, _, _ => by unfold rl at h; simp at h
  | c :: t, x :: s, h1, h2, hs => by
    unfold rl at h1 h2
    rw [List.all_cons, Bool.and_eq_true] at hs
    by_cases hf : fitB c x = true
    · rw [if_pos hf] at h1 h2
      rw [List.map_cons, List.map_cons, mask_of t s (by simpa using h1) (by simpa using h2) hs.2]
      congr 1
      unfold fitB at hf
      by_cases hx : x = 100
      · rw [if_pos hx] at hf; rw [hf, hx]; rfl
      · rw [if_neg hx] at hf
        have hcx : c = x := by simpa using hf
        have hb : (x == 100) = false := by rw [beq_eq_false_iff_ne]; exact hx
        have := hs.1
        rw [hb, Bool.false_or] at this
        rw [hcx, hb]
        simpa using this
    · rw [if_neg hf] at h1; simp at h1

/-- the shapes -/
abbrev S0 : ByteArray := ⟨#[100, 100, 100, 100, 45, 100, 100, 45, 100, 100]⟩
abbrev S1 : ByteArray := ⟨#[100, 100, 100, 100, 100, 100, 100, 100]⟩
abbrev S2 : ByteArray := ⟨#[100, 100, 100, 100, 45, 100, 100, 100]⟩
abbrev S3 : ByteArray := ⟨#[100, 100, 100, 100, 100, 100, 100]⟩
abbrev S4 : ByteArray := ⟨#[100, 100, 100, 100, 45, 87, 100, 100, 45, 100]⟩
abbrev S5 : ByteArray := ⟨#[100, 100, 100, 100, 87, 100, 100, 100]⟩
def DS : List ByteArray := [S0, S1, S2, S3, S4, S5]
abbrev dsO : Obj := .cells #[.string S0, .string S1, .string S2, .string S3, .string S4, .string S5] 9

theorem ShB.ds {w : World} {b : Nat} (h : w.heap[b]? = some dsO) : ShB w b DS := by
  intro j hj
  match j, hj with
  | 0, _ => rw [Lib.cell_of_heap h]; rfl
  | 1, _ => rw [Lib.cell_of_heap h]; rfl
  | 2, _ => rw [Lib.cell_of_heap h]; rfl
  | 3, _ => rw [Lib.cell_of_heap h]; rfl
  | 4, _ => rw [Lib.cell_of_heap h]; rfl
  | 5, _ => rw [Lib.cell_of_heap h]; rfl
theorem DS_small : ∀ s ∈ DS, s.size ≤ 64 := by
  intro s hs
  unfold DS at hs
  simp at hs
  rcases hs with rfl | rfl | rfl | rfl | rfl | rfl <;> decide

/-- the text's digits stand where the shape k has them -/
def MK (t : ByteArray) (k : Nat) : Prop := t.data.toList.map isDB = ((SS DS).getD k []).map (fun x => x == 100)

theorem ds_cases (t : List UInt8) : (∃ p, fitL t (SS DS) 0 0 = (-1, p)) ∨ ∃ k : Nat, k < 6 ∧ fitL t (SS DS) 0 0 = ((k : Int), 0) ∧ t.map isDB = ((SS DS).getD k []).map (fun x => x == 100) := by
  rcases fitL_hit t (SS DS) 0 0 with h | ⟨k, hk, h, h1, h2⟩
  · exact .inl ⟨_, Prod.ext h rfl⟩
  · refine .inr ⟨k, hk, by rw [h]; simp, ?_⟩
    have e : (SS DS).getD k [] = (SS DS)[k] := by rw [List.getD_eq_getElem?_getD, List.getElem?_eq_getElem hk]; rfl
    rw [e]
    refine mask_of _ _ h1 h2 ?_
    have all : ∀ k : Fin (SS DS).length, (((SS DS)[k.val]'k.isLt).all fun x => x == 100 || !isDB x) = true := by decide +kernel
    exact all ⟨k, hk⟩

theorem mk_size (t : ByteArray) (k n : Nat) (h : MK t k) (hn : (((SS DS).getD k []).map (fun x => x == 100)).length = n) : t.size = n := by
  have lt : t.data.toList.length = t.size := Array.length_toList
  unfold MK at h
  rw [← h, List.length_map, lt] at hn
  exact hn
theorem mk_sk (t : ByteArray) (k a p : Nat) (h : MK t k) (hp : a + skB ((((SS DS).getD k []).map (fun x => x == 100)).drop a) = p) : sk t.data.toList a = p := by
  rw [sk_mask, h]; exact hp
theorem mk_dig (t : ByteArray) (k a n : Nat) (h : MK t k) (hd : (((((SS DS).getD k []).map (fun x => x == 100)).drop a).take n).all id = true) : ∀ c ∈ sub t.data.toList a n, isDB c = true :=
  dig_mask _ _ _ (by rw [h]; exact hd)
end Go.Proofs.YtjpglgemnaknhaaGreatDoor
