/-
  The document's own spans: rank, put; how its state goes with the program's.
-/
import Derived.Test.YtflnlmpfniommaaDoorPsp
import Derived.Test.YtflnlmpfniommaaDoorReach2
namespace Go.Proofs.YtflnlmpfniommaaDoor
open Go.RowKit
set_option maxRecDepth 100000

/-- the place of a letter in the order of a span's parts -/
def rkN (c : UInt8) (b : Bool) : Nat := if b then (if c = 72 then 5 else if c = 77 then 6 else if c = 83 then 7 else 0) else (if c = 89 then 1 else if c = 77 then 2 else if c = 68 then 3 else 0)
/-- where put lays a part -/
def pfl (k : Nat) : Nat := if k ≤ 2 then k - 1 else k - (if k = 3 then 0 else 1)

/-- the document's state beside the program's -/
def Rl (la : Nat) (b : Bool) (nx en : Nat) : Prop :=
  (b = false ∧ en = 4 ∧ ((la = 0 ∧ nx = 0) ∨ (la = 1 ∧ nx = 2) ∨ (la = 2 ∧ nx = 3) ∨ (la = 3 ∧ nx = 4))) ∨
  (b = true ∧ en = 7 ∧ ((la ≤ 3 ∧ nx = 4) ∨ (la = 5 ∧ nx = 5) ∨ (la = 6 ∧ nx = 6) ∨ (la = 7 ∧ nx = 7)))

theorem Rl.full {la : Nat} {b : Bool} {nx en : Nat} (h : Rl la b nx en) : nx = en ↔ (la = 7 ∨ (la = 3 ∧ b = false)) := by
  unfold Rl at h
  rcases h with ⟨rfl, rfl, h⟩ | ⟨rfl, rfl, h⟩ <;> simp <;> omega

/-- what the letter says, both ways -/
def same (c : UInt8) (la : Nat) (b : Bool) (nx en : Nat) : Bool :=
  if c = 87 ∧ la = 0 ∧ b = false then decide (slt nx en c = 0 ∧ nx = 0)
  else if rkN c b ≤ la then decide (slt nx en c < 0)
  else decide (0 ≤ slt nx en c ∧ c ≠ 87 ∧ fld (nx + (slt nx en c).toNat) = pfl (rkN c b) ∧ rkN c b ≤ 7 ∧ 1 ≤ rkN c b ∧ rkN c b ≠ 4 ∧
    (if b then en = 7 ∧ nx + (slt nx en c).toNat + 1 = rkN c b ∧ 5 ≤ rkN c b else en = 4 ∧ nx + (slt nx en c).toNat = rkN c b ∧ rkN c b ≤ 3))

theorem same_all : ∀ c : Fin 256, ∀ k : Fin 11, same (UInt8.ofNat c.val) ([0, 1, 2, 3, 0, 1, 2, 3, 5, 6, 7].getD k.val 0) ([false, false, false, false, true, true, true, true, true, true, true].getD k.val false) ([0, 2, 3, 4, 4, 4, 4, 4, 5, 6, 7].getD k.val 0) ([4, 4, 4, 4, 7, 7, 7, 7, 7, 7, 7].getD k.val 0) = true := by decide +kernel

theorem same_of (c : UInt8) {la : Nat} {b : Bool} {nx en : Nat} (h : Rl la b nx en) : same c la b nx en = true := by
  have hc : UInt8.ofNat c.toNat = c := UInt8.ofNat_toNat
  have key := same_all ⟨c.toNat, c.toNat_lt⟩
  simp only [hc] at key
  unfold Rl at h
  rcases h with ⟨rfl, rfl, h⟩ | ⟨rfl, rfl, h⟩
  · rcases h with ⟨rfl, rfl⟩ | ⟨rfl, rfl⟩ | ⟨rfl, rfl⟩ | ⟨rfl, rfl⟩
    · exact key 0
    · exact key 1
    · exact key 2
    · exact key 3
  · rcases h with ⟨h, rfl⟩ | ⟨rfl, rfl⟩ | ⟨rfl, rfl⟩ | ⟨rfl, rfl⟩
    · have : la = 0 ∨ la = 1 ∨ la = 2 ∨ la = 3 := by omega
      rcases this with rfl | rfl | rfl | rfl
      · exact key 4
      · exact key 5
      · exact key 6
      · exact key 7
    · exact key 8
    · exact key 9
    · exact key 10

/-- a week's letter -/
theorem same_W {c : UInt8} {la : Nat} {b : Bool} {nx en : Nat} (h : Rl la b nx en) (hc : c = 87 ∧ la = 0 ∧ b = false) : slt nx en c = 0 ∧ nx = 0 := by
  have := same_of c h
  unfold same at this
  rw [if_pos hc] at this
  simpa using this
/-- a letter that may not come -/
theorem same_no {c : UInt8} {la : Nat} {b : Bool} {nx en : Nat} (h : Rl la b nx en) (hc : ¬ (c = 87 ∧ la = 0 ∧ b = false)) (hr : rkN c b ≤ la) : slt nx en c < 0 := by
  have := same_of c h
  unfold same at this
  rw [if_neg hc, if_pos hr] at this
  simpa using this
/-- a letter that may -/
theorem same_yes {c : UInt8} {la : Nat} {b : Bool} {nx en : Nat} (h : Rl la b nx en) (hc : ¬ (c = 87 ∧ la = 0 ∧ b = false)) (hr : ¬ rkN c b ≤ la) :
    0 ≤ slt nx en c ∧ c ≠ 87 ∧ fld (nx + (slt nx en c).toNat) = pfl (rkN c b) ∧ rkN c b ≤ 7 ∧ 1 ≤ rkN c b ∧ rkN c b ≠ 4 ∧ Rl (rkN c b) b (nx + (slt nx en c).toNat + 1) en := by
  have := same_of c h
  unfold same at this
  rw [if_neg hc, if_neg hr, decide_eq_true_iff] at this
  obtain ⟨h1, h2, h3, h4, h5, h6, h7⟩ := this
  refine ⟨h1, h2, h3, h4, h5, h6, ?_⟩
  unfold Rl
  cases b
  · rw [if_neg (by simp)] at h7
    left
    refine ⟨rfl, h7.1, ?_⟩
    omega
  · rw [if_pos rfl] at h7
    right
    refine ⟨rfl, h7.1, ?_⟩
    omega

theorem rkN_mrk {c : UInt8} {b : Bool} (h : 1 ≤ rkN c b) : c ∈ mrk := by
  unfold rkN at h
  unfold mrk
  cases b
  · simp only [Bool.false_eq_true, if_false] at h
    by_cases h1 : c = 89
    · simp [h1]
    · by_cases h2 : c = 77
      · simp [h2]
      · by_cases h3 : c = 68
        · simp [h3]
        · rw [if_neg h1, if_neg h2, if_neg h3] at h; omega
  · simp only [if_true] at h
    by_cases h1 : c = 72
    · simp [h1]
    · by_cases h2 : c = 77
      · simp [h2]
      · by_cases h3 : c = 83
        · simp [h3]
        · rw [if_neg h1, if_neg h2, if_neg h3] at h; omega

theorem ne_i (c : UInt8) (n : Nat) (hn : n < 256) (h : ¬ c = UInt8.ofNat n) : (((c.toNat : Nat) : Int) == (n : Int)) = false := by
  rw [beq_eq_false_iff_ne]
  intro q
  exact h (UInt8.toNat_inj.mp (by rw [UInt8.toNat_ofNat_of_lt' (by exact hn)]; omega))

theorem rank_any (c : UInt8) (b : Bool) (w : World) :
    Calls Tryd.prog 26 #[.int .u8 (c.toNat : Int), .bool b] w fun e w' => e = .returned (.int .i64 (rkN c b : Nat)) ∧ w' = w := by
  unfold rkN
  cases b
  · simp only [Bool.false_eq_true, if_false]
    by_cases h1 : c = 89
    · subst h1
      go_enter Tryd.func26, Tryd.ntmps26
      go_wp2
      go_ret
      exact ⟨rfl, rfl⟩
    · have q1 := ne_i c 89 (by omega) h1
      rw [if_neg h1]
      by_cases h2 : c = 77
      · subst h2
        go_enter Tryd.func26, Tryd.ntmps26
        go_wp2
        go_ret
        exact ⟨rfl, rfl⟩
      · have q2 := ne_i c 77 (by omega) h2
        rw [if_neg h2]
        by_cases h3 : c = 68
        · subst h3
          go_enter Tryd.func26, Tryd.ntmps26
          go_wp2
          go_ret
          exact ⟨rfl, rfl⟩
        · have q3 := ne_i c 68 (by omega) h3
          rw [if_neg h3]
          clear h1 h2 h3
          go_enter Tryd.func26, Tryd.ntmps26
          go_wp2
          go_ret
          exact ⟨rfl, rfl⟩
  · simp only [if_true]
    by_cases h1 : c = 72
    · subst h1
      go_enter Tryd.func26, Tryd.ntmps26
      go_wp2
      go_ret
      exact ⟨rfl, rfl⟩
    · have q1 := ne_i c 72 (by omega) h1
      rw [if_neg h1]
      by_cases h2 : c = 77
      · subst h2
        go_enter Tryd.func26, Tryd.ntmps26
        go_wp2
        go_ret
        exact ⟨rfl, rfl⟩
      · have q2 := ne_i c 77 (by omega) h2
        rw [if_neg h2]
        by_cases h3 : c = 83
        · subst h3
          go_enter Tryd.func26, Tryd.ntmps26
          go_wp2
          go_ret
          exact ⟨rfl, rfl⟩
        · have q3 := ne_i c 83 (by omega) h3
          rw [if_neg h3]
          clear h1 h2 h3
          go_enter Tryd.func26, Tryd.ntmps26
          go_wp2
          go_ret
          exact ⟨rfl, rfl⟩
end Go.Proofs.YtflnlmpfniommaaDoor
