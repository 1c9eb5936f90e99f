/-
  lin: is a reply the zero reply? The program's and the document's.
-/
import Derived.Test.YtgjalfmnnoaemaaLh3
namespace Go.Proofs.Ytgjalfmnnoaemaa
open Go.RowKit
set_option maxRecDepth 100000

/-- is it the zero reply? -/
def zR (r : Ry) : Bool := (r.id.toList == ([] : List UInt8)) && (r.err == 0) && (r.line == 0) && decide (r.levels.length = 0) && (r.now == 0)
theorem equalNil_any (ao : Option Addr) (n cap : Nat) (w : World) :
    Calls Try.prog 29 #[.slice ao n cap, .slice none 0 0] w fun e w' => e = .returned (.bool (decide (n = 0))) ∧ w' = w := by
  rcases Nat.eq_zero_or_pos n with rfl | h
  · go_enter Try.func29, Try.ntmps29
    go_wp2_with fail
    go_rounds 1
    go_ret
    exact ⟨rfl, rfl⟩
  · have h0 : ((n : Int) == 0) = false := by simp; omega
    have h1 : decide (n = 0) = false := by simp; omega
    rw [h1]
    clear h h1
    go_enter Try.func29, Try.ntmps29
    go_wp2
    go_ret
    exact ⟨rfl, rfl⟩
set_option maxHeartbeats 2000000 in
theorem sameZero_any (r : Ry) (v : Value) (w : World) (hv : ∃ ao cap, v = .slice ao r.levels.length cap) :
    Calls Try.prog 18 #[ryA r v, .agg #[.string ⟨#[]⟩, .int .i64 0, .int .i64 0, .slice none 0 0, .int .i64 0]] w fun e w' => e = .returned (.bool (zR r)) ∧ Below w.heap.size w w' := by
  unfold ryA
  obtain ⟨ao, cap, rfl⟩ := hv
  obtain ⟨id, er, ln, lv, nw⟩ := r
  dsimp only
  have HB := hid (show ∀ x y, Below w.heap.size w ((w.alloc x).alloc y) from fun x y => ((Below.refl _ _).alloc (Nat.le_refl _) _).alloc (by simp) _)
  have HE := hid (fun w' => equalNil_any ao lv.length cap w')
  have hz : zR ⟨id, er, ln, lv, nw⟩ = ((id.toList == ([] : List UInt8)) && (er == 0) && (ln == 0) && decide (lv.length = 0) && (nw == 0)) := rfl
  rw [hz]
  clear hz
  generalize decide (lv.length = 0) = q at *
  generalize lv.length = n at *
  cases b0 : (id.toList == ([] : List UInt8))
  · go_enter Try.func18, Try.ntmps18
    go_wp2_with (go_at_call 29; refine (HE.out _).mono ?_; rintro e w' ⟨rfl, rfl⟩)
    go_ret
    exact ⟨rfl, HB.out _ _⟩
  · cases b1 : (er == 0)
    · go_enter Try.func18, Try.ntmps18
      go_wp2_with (go_at_call 29; refine (HE.out _).mono ?_; rintro e w' ⟨rfl, rfl⟩)
      go_ret
      exact ⟨rfl, HB.out _ _⟩
    · cases b2 : (ln == 0)
      · go_enter Try.func18, Try.ntmps18
        go_wp2_with (go_at_call 29; refine (HE.out _).mono ?_; rintro e w' ⟨rfl, rfl⟩)
        go_ret
        exact ⟨rfl, HB.out _ _⟩
      · cases q
        · go_enter Try.func18, Try.ntmps18
          go_wp2_with (go_at_call 29; refine (HE.out _).mono ?_; rintro e w' ⟨rfl, rfl⟩)
          go_ret
          exact ⟨rfl, HB.out _ _⟩
        · cases b3 : (nw == 0)
          · go_enter Try.func18, Try.ntmps18
            go_wp2_with (go_at_call 29; refine (HE.out _).mono ?_; rintro e w' ⟨rfl, rfl⟩)
            go_ret
            exact ⟨rfl, HB.out _ _⟩
          · go_enter Try.func18, Try.ntmps18
            go_wp2_with (go_at_call 29; refine (HE.out _).mono ?_; rintro e w' ⟨rfl, rfl⟩)
            go_ret
            exact ⟨rfl, HB.out _ _⟩
set_option maxHeartbeats 2000000 in
theorem refZero_any (r : Ry) (v : Value) (w : World) (hv : ∃ ao cap, v = .slice ao r.levels.length cap) :
    Calls Try.prog 19 #[ryA r v, .agg #[.string ⟨#[]⟩, .int .i64 0, .int .i64 0, .slice none 0 0, .int .i64 0]] w fun e w' => e = .returned (.bool (zR r)) ∧ Below w.heap.size w w' := by
  unfold ryA
  obtain ⟨ao, cap, rfl⟩ := hv
  obtain ⟨id, er, ln, lv, nw⟩ := r
  dsimp only
  have HB := hid (show ∀ x y, Below w.heap.size w ((w.alloc x).alloc y) from fun x y => ((Below.refl _ _).alloc (Nat.le_refl _) _).alloc (by simp) _)
  have hz : zR ⟨id, er, ln, lv, nw⟩ = ((id.toList == ([] : List UInt8)) && (er == 0) && (ln == 0) && decide (lv.length = 0) && (nw == 0)) := rfl
  rw [hz]
  clear hz
  generalize lv.length = n at *
  cases b0 : (id.toList == ([] : List UInt8))
  · go_enter Try.func19, Try.ntmps19
    go_wp2_with fail
    go_ret
    exact ⟨rfl, HB.out _ _⟩
  · cases b1 : (er == 0)
    · have n1 : ¬ er = 0 := by simpa using b1
      go_enter Try.func19, Try.ntmps19
      go_wp2_with fail
      go_ret
      exact ⟨rfl, HB.out _ _⟩
    · obtain rfl : er = 0 := by simpa using b1
      cases b2 : (ln == 0)
      · have n1 : ¬ ln = 0 := by simpa using b2
        go_enter Try.func19, Try.ntmps19
        go_wp2_with fail
        go_ret
        exact ⟨rfl, HB.out _ _⟩
      · obtain rfl : ln = 0 := by simpa using b2
        cases b3 : (nw == 0)
        · have n1 : ¬ nw = 0 := by simpa using b3
          go_enter Try.func19, Try.ntmps19
          go_wp2_with fail
          go_ret
          exact ⟨by simp, HB.out _ _⟩
        · obtain rfl : nw = 0 := by simpa using b3
          rcases Nat.eq_zero_or_pos n with rfl | hn
          · go_enter Try.func19, Try.ntmps19
            go_wp2_with fail
            go_rounds 1
            go_ret
            exact ⟨rfl, HB.out _ _⟩
          · have h0 : ((n : Int) == 0) = false := by simp; omega
            have h1 : decide (n = 0) = false := by simp; omega
            rw [h1]
            clear hn h1
            have n1 : ¬ (n : Int) = 0 := by simpa using h0
            go_enter Try.func19, Try.ntmps19
            go_wp2_with fail
            go_ret
            exact ⟨by simp, HB.out _ _⟩
end Go.Proofs.Ytgjalfmnnoaemaa
