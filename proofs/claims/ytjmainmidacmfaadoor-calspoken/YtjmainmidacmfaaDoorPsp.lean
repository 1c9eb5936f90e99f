/-
  A span's text read: ParseSpan.
-/
import Derived.Test.YtjmainmidacmfaaDoorRsp2
namespace Go.Proofs.YtjmainmidacmfaaDoor
open Go.RowKit
set_option maxRecDepth 100000

/-- a span as a value -/
def lV (s : List Int) : Value := .agg (s.map (Value.int .i64)).toArray

theorem spF_len (t : List UInt8) : ∀ (f a nx en : Nat) (s : List Int), a ≤ t.length → (spF t f a nx en s).2 ≤ t.length ∧ a ≤ (spF t f a nx en s).2 ∧ (spF t f a nx en s).1.length = s.length
  | 0, a, nx, en, s, h => ⟨h, Nat.le_refl _, rfl⟩
  | f + 1, a, nx, en, s, h => by
    have hd := dga_le (t.drop a) 9
    rw [List.length_drop] at hd
    by_cases h1 : a < t.length
    · by_cases h2 : bt t a = 84 ∧ en = 4
      · rw [spF_T h1 h2]
        have := spF_len t f (a + 1) 4 7 s (by omega)
        exact ⟨this.1, by omega, this.2.2⟩
      · by_cases h3 : nx = en
        · rw [spF_full h1 h2 h3]; exact ⟨h, Nat.le_refl _, rfl⟩
        · by_cases h4 : dga (t.drop a) 9 = 0 ∨ a + dga (t.drop a) 9 = t.length
          · rw [spF_num h1 h2 h3 h4]
            refine ⟨?_, ?_, rfl⟩
            · show a + dga (t.drop a) 9 ≤ t.length; omega
            · show a ≤ a + dga (t.drop a) 9; omega
          · by_cases h5 : slt nx en (bt t (a + dga (t.drop a) 9)) < 0
            · rw [spF_bad h1 h2 h3 h4 h5]
              refine ⟨?_, ?_, rfl⟩
              · show a + dga (t.drop a) 9 ≤ t.length; omega
              · show a ≤ a + dga (t.drop a) 9; omega
            · rw [spF_go h1 h2 h3 h4 h5]
              have := spF_len t f (a + dga (t.drop a) 9 + 1) (if bt t (a + dga (t.drop a) 9) = 87 then 7 else nx + (slt nx en (bt t (a + dga (t.drop a) 9))).toNat + 1) (if bt t (a + dga (t.drop a) 9) = 87 then 7 else en)
                (s.set (fld (nx + (slt nx en (bt t (a + dga (t.drop a) 9))).toNat)) (nm (sub t a (dga (t.drop a) 9)) : Int)) (by omega)
              refine ⟨this.1, by omega, ?_⟩
              rw [this.2.2, List.length_set]
    · rw [spF_end h1]; exact ⟨h, Nat.le_refl _, rfl⟩

theorem spR_len (t : List UInt8) : (spR t).2 ≤ t.length ∧ (spR t).1.length = 7 := by
  unfold spR
  split
  · have := spF_len t 64 1 0 4 zs7 (by omega)
    exact ⟨this.1, this.2.2⟩
  · exact ⟨by simp, rfl⟩

set_option maxHeartbeats 1000000 in
theorem readSpan_no (t : ByteArray) (h : ¬ (0 < t.size ∧ bt t.data.toList 0 = 80)) (w : World) :
    Calls Tryd.prog 25 #[.string t] w fun e w' => e = .returned (.tuple #[lV zs7, .int .i64 0]) ∧ Below w.heap.size w w' := by
  have HP : Hid (∀ w, Calls Tryd.prog 40 #[.string t, .string ⟨#[80]⟩] w fun e w' => e = .returned (.bool false) ∧ w' = w) := fun w => by
    refine (Tryd.strings_HasPrefix t ⟨#[80]⟩ w).mono ?_
    rintro e w' ⟨rfl, rfl⟩
    refine ⟨?_, rfl⟩
    have lt : t.data.toList.length = t.size := Array.length_toList
    match hq : t.data.toList with
    | [] => rfl
    | c :: r =>
      have hc : c ≠ 80 := fun e => h ⟨by rw [← lt, hq]; simp, by rw [hq]; exact e⟩
      have hb : (80 == c) = false := by rw [beq_eq_false_iff_ne]; exact fun e => hc e.symm
      show Ending.returned (.bool ((80 == c) && List.isPrefixOf [] r)) = _
      rw [hb]
      rfl
  have hB := alloc_belowS w (.cells #[.int .i64 0, .int .i64 0, .int .i64 0, .int .i64 0, .int .i64 0, .int .i64 0, .int .i64 0] 23)
  clear h
  go_enter Tryd.func25, Tryd.ntmps25
  go_wp2_with fail
  refine (HP.out _).mono ?_
  rintro e w1 ⟨rfl, rfl⟩
  go_wp2
  refine bodyPost_ret (by simp [results, Tryd.results25, go_sem]; try rfl) rfl ?_
  exact ⟨rfl, hB⟩

theorem readSpan_any (t : ByteArray) (ht : t.size ≤ 64) (w : World) (hE : HasES w) :
    Calls Tryd.prog 25 #[.string t] w fun e w' => e = .returned (.tuple #[lV (spR t.data.toList).1, .int .i64 ((spR t.data.toList).2 : Nat)]) ∧ Below w.heap.size w w' := by
  have lt : t.data.toList.length = t.size := Array.length_toList
  by_cases h : 0 < t.size ∧ bt t.data.toList 0 = 80
  · have e : spR t.data.toList = spF t.data.toList 64 1 0 4 zs7 := by unfold spR; rw [if_pos ⟨h.2, by rw [lt]; exact h.1⟩]
    rw [e]
    refine (readSpan_P t ht h.1 (by rw [← bt_at t 0 h.1]; exact h.2) w hE).mono ?_
    rintro x w' ⟨⟨s, _, rfl, rfl⟩, hb⟩
    exact ⟨rfl, hb⟩
  · have e : spR t.data.toList = (zs7, 0) := by unfold spR; rw [if_neg (fun q => h ⟨by rw [← lt]; exact q.2, q.1⟩)]
    rw [e]
    exact readSpan_no t h w

/-- an answer of three -/
def sT (s : List Int) (e p : Int) : Value := .tuple #[lV s, .int .i64 e, .int .i64 p]
/-- the whole answer -/
def spV (t : ByteArray) : Value := if 64 < t.size then sT zs7 1 0 else if spOk t.data.toList = true then sT (spR t.data.toList).1 0 0 else sT zs7 34 ((spR t.data.toList).2 : Nat)

theorem ix_mem (l : List UInt8) (c : UInt8) : (0 ≤ Lib.indexByte l c) ↔ c ∈ l := by
  induction l with
  | nil => simp [Lib.indexByte]
  | cons b l ih =>
    show (0 ≤ (if b == c then (0 : Int) else if Lib.indexByte l c == -1 then -1 else Lib.indexByte l c + 1)) ↔ _
    have hge := Lib.indexByte_ge l c
    by_cases h : b = c
    · subst h; simp
    · have hb : (b == c) = false := by rw [beq_eq_false_iff_ne]; exact h
      rw [hb, if_neg (by simp), List.mem_cons, ← ih]
      by_cases h2 : Lib.indexByte l c = -1
      · rw [h2]; simp; exact fun e => h e.symm
      · have h3 : (Lib.indexByte l c == -1) = false := by rw [beq_eq_false_iff_ne]; exact h2
        rw [h3, if_neg (by simp)]
        constructor
        · intro _; right; omega
        · intro _; omega

theorem last_extract (t : ByteArray) (h : 0 < t.size) : t.extract (t.size - 1) t.size = ⟨#[t[t.size - 1]'(by omega)]⟩ := by
  apply ByteArray.ext
  apply Array.toList_inj.mp
  show (t.extract (t.size - 1) t.size).data.toList = [t[t.size - 1]'(by omega)]
  rw [drop_extract]
  have lt : t.data.toList.length = t.size := Array.length_toList
  rw [List.drop_eq_getElem_cons (by rw [lt]; omega), List.drop_eq_nil_of_le (by rw [lt]; omega), byte_at t (t.size - 1) (by omega)]
end Go.Proofs.YtjmainmidacmfaaDoor
