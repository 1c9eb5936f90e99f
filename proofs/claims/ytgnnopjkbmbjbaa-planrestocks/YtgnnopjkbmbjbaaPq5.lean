/-
  plan: the document's line and Restock; the law's lines.
-/
import Derived.Test.YtgnnopjkbmbjbaaPq3
namespace Go.Proofs.Ytgnnopjkbmbjbaa
open Go.RowKit
set_option maxRecDepth 100000
set_option linter.unusedSimpArgs false

theorem gtB_pos {a b : ByteArray} (h : gtB a b = true) : 1 ≤ a.size := by
  rcases Nat.eq_zero_or_pos a.size with h0 | h0
  · exfalso
    have e : a.toList = [] := by
      rw [ByteArray.toList_eq]
      exact List.eq_nil_of_length_eq_zero (by rw [Array.length_toList]; exact h0)
    unfold gtB at h
    rw [e] at h
    cases hb : b.toList with
    | nil => rw [hb] at h; simp at h
    | cons x t => rw [hb] at h; simp [Op.bytesLess] at h
  · exact h0
theorem gtB_nil {a : ByteArray} (h : 1 ≤ a.size) : gtB a ⟨#[]⟩ = true := by
  have e : (⟨#[]⟩ : ByteArray).toList = [] := by rw [ByteArray.toList_eq]
  unfold gtB
  rw [e]
  cases ha : a.toList with
  | nil => rw [ByteArray.toList_eq] at ha; have h3 : a.data.toList.length = 0 := (by rw [ha]; rfl); rw [Array.length_toList] at h3; have h2 : a.data.size = a.size := rfl; omega
  | cons x t => simp [Op.bytesLess]
/-- may a line stand behind a code? -/
def lnOk (c : ByteArray) (q : Int) (hd : ByteArray) (first : Bool) (least : Int) : Bool := decide (1 ≤ (c.size : Int)) && (decide ((c.size : Int) ≤ 40) && (decide (least ≤ q) && (decide (q ≤ 1099511627776) && (first || gtB c hd))))
set_option maxHeartbeats 2000000 in
theorem rline_any (c : ByteArray) (q : Int) (hd : ByteArray) (first : Bool) (least : Int) (w : World) (hs : (c.size : Int) ≤ 9223372036854775807) :
    Calls Try.prog 23 #[.agg #[.string c, .int .i64 q], .string hd, .bool first, .int .i64 least] w fun e w' => e = .returned (.bool (lnOk c q hd first least)) ∧ Below w.heap.size w w' := by
  have B := hid (alloc_below w)
  unfold lnOk
  by_cases h1 : 1 ≤ (c.size : Int)
  · by_cases h2 : (c.size : Int) ≤ 40
    · by_cases h3 : least ≤ q
      · by_cases h4 : q ≤ 1099511627776
        · rw [decide_eq_true h1, decide_eq_true h2, decide_eq_true h3, decide_eq_true h4]
          simp only [Bool.true_and]
          cases first
          · simp only [Bool.false_or]
            unfold gtB
            go_enter Try.func23, Try.ntmps23
            go_wp2
            go_ret
            exact ⟨(show Ending.returned (.bool (!Op.bytesLess c.toList hd.toList && !(c.toList == hd.toList))) = _ by rw [Bool.not_or]), B.out _⟩
          · simp only [Bool.true_or]
            go_enter Try.func23, Try.ntmps23
            go_wp2
            go_ret
            exact ⟨rfl, B.out _⟩
        · rw [decide_eq_false h4]
          simp only [Bool.false_and, Bool.and_false]
          go_enter Try.func23, Try.ntmps23
          go_wp2
          go_ret
          exact ⟨rfl, B.out _⟩
      · rw [decide_eq_false h3]
        simp only [Bool.false_and, Bool.and_false]
        go_enter Try.func23, Try.ntmps23
        go_wp2
        go_ret
        exact ⟨rfl, B.out _⟩
    · rw [decide_eq_false h2]
      simp only [Bool.false_and, Bool.and_false]
      go_enter Try.func23, Try.ntmps23
      go_wp2
      go_ret
      exact ⟨rfl, B.out _⟩
  · rw [decide_eq_false h1]
    simp only [Bool.false_and, Bool.and_false]
    go_enter Try.func23, Try.ntmps23
    go_wp2
    go_ret
    exact ⟨rfl, B.out _⟩
def okV (f : Nat → Int) (j : Nat) : Bool := (List.range j).all (fun i => wiB (f i) 0)
theorem okV_succ (f : Nat → Int) (j : Nat) : okV f (j + 1) = (okV f j && wiB (f j) 0) := by unfold okV; rw [List.range_succ]; simp
def fv (a b c d : Int) (j : Nat) : Int := match j with | 0 => a | 1 => b | 2 => c | _ => d
theorem itOk_doc (x : It) (L : List It) (k : Nat) : ((lnOk x.code 1 (ahd L k) (decide (k = 0)) 1 && okV (fv x.have_ x.coming x.point x.upto) 4) && wiB x.pack 1) = itOk x (ahd L k) := by
  have e : lnOk x.code 1 (ahd L k) (decide (k = 0)) 1 = flw x.code (ahd L k) := by
    unfold lnOk flw
    rw [decide_eq_true (show (1 : Int) ≤ 1 by omega), decide_eq_true (show (1 : Int) ≤ 1099511627776 by omega)]
    simp only [Bool.true_and]
    by_cases h1 : 1 ≤ (x.code.size : Int)
    · rw [decide_eq_true h1]
      by_cases h0 : k = 0
      · subst h0
        rw [ahd_zero, gtB_nil (by omega)]
        simp
      · rw [decide_eq_false h0]
        simp [Bool.and_comm]
    · rw [decide_eq_false h1]
      cases hg : gtB x.code (ahd L k)
      · simp
      · have := gtB_pos hg; omega
  rw [e]
  unfold itOk okV
  simp [List.range_succ, fv, Bool.and_assoc]
end Go.Proofs.Ytgnnopjkbmbjbaa
