/-
  plan: items, lines; follows, within, wanted; the document's line.
-/
import Derived.Test.YtgnnopjkbmbjbaaPq0
namespace Go.Proofs.Ytgnnopjkbmbjbaa
open Go.RowKit
set_option maxRecDepth 100000
set_option linter.unusedSimpArgs false

/-- an item -/
structure It where
  code : ByteArray
  have_ : Int
  coming : Int
  point : Int
  upto : Int
  pack : Int
def itC (x : It) : List Value := [.string x.code, .int .i64 x.have_, .int .i64 x.coming, .int .i64 x.point, .int .i64 x.upto, .int .i64 x.pack]
def itV (x : It) : Value := .agg (itC x).toArray
theorem itC_len (x : It) : (itC x).length = 6 := rfl
theorem itC_one (x : It) : ∀ u ∈ itC x, u.oneCell' = true := by simp [itC, Value.oneCell']
/-- a line -/
abbrev Ln := ByteArray × Int
def lnC (x : Ln) : List Value := [.string x.1, .int .i64 x.2]
theorem lnC_len (x : Ln) : (lnC x).length = 2 := rfl
theorem lnC_one (x : Ln) : ∀ u ∈ lnC x, u.oneCell' = true := by simp [lnC, Value.oneCell']
/-- above, as lists of bytes -/
def gtB (a b : ByteArray) : Bool := !(Op.bytesLess a.toList b.toList || a.toList == b.toList)
def flw (a b : ByteArray) : Bool := gtB a b && decide ((a.size : Int) ≤ 40)
def wiB (n l : Int) : Bool := decide (l ≤ n) && decide (n ≤ 1099511627776)
/-- numbers that are ints -/
def I64 (n : Int) : Prop := -9223372036854775808 ≤ n ∧ n ≤ 9223372036854775807
def ItI (x : It) : Prop := I64 x.have_ ∧ I64 x.coming ∧ I64 x.point ∧ I64 x.upto ∧ I64 x.pack
/-- an item that may stand behind a code -/
def itOk (x : It) (ahead : ByteArray) : Bool := flw x.code ahead && (wiB x.have_ 0 && (wiB x.coming 0 && (wiB x.point 0 && (wiB x.upto 0 && wiB x.pack 1))))
/-- how many are wanted of an item -/
def wan (x : It) : Int := if x.point < x.have_ + x.coming ∨ x.upto ≤ x.have_ + x.coming then 0 else (x.upto - (x.have_ + x.coming) + x.pack - 1) / x.pack * x.pack
theorem wan_pos (x : It) (hp : 1 ≤ x.pack) : 0 < wan x ↔ (x.have_ + x.coming ≤ x.point ∧ x.have_ + x.coming < x.upto) := by
  unfold wan
  by_cases h : x.point < x.have_ + x.coming ∨ x.upto ≤ x.have_ + x.coming
  · rw [if_pos h]; omega
  · rw [if_neg h]
    have h1 : 1 ≤ (x.upto - (x.have_ + x.coming) + x.pack - 1) / x.pack := by
      rw [Int.le_ediv_iff_mul_le (by omega)]; omega
    have h2 : 1 * 1 ≤ (x.upto - (x.have_ + x.coming) + x.pack - 1) / x.pack * x.pack := Int.mul_le_mul h1 hp (by omega) (by omega)
    omega
theorem follows_any (a b : ByteArray) (w : World) : Calls Try.prog 30 #[.string a, .string b] w fun e w' => e = .returned (.bool (flw a b)) ∧ w' = w := by
  unfold flw gtB
  cases h : (Op.bytesLess a.toList b.toList || a.toList == b.toList)
  all_goals
    go_enter Try.func30, Try.ntmps30
    go_wp2
    go_ret
    refine ⟨?_, rfl⟩
    first | rfl | simp
theorem within_any (n l : Int) (w : World) : Calls Try.prog 31 #[.int .i64 n, .int .i64 l] w fun e w' => e = .returned (.bool (wiB n l)) ∧ w' = w := by
  unfold wiB
  by_cases h : l ≤ n
  all_goals
    go_enter Try.func31, Try.ntmps31
    go_wp2
    go_ret
    refine ⟨?_, rfl⟩
    first | rfl | (simp; omega)
set_option maxHeartbeats 1000000 in
theorem wanted_any (x : It) (hd : ByteArray) (w : World) (ok : itOk x hd = true) : Calls Try.prog 22 #[itV x] w fun e w' => e = .returned (.int .i64 (wan x)) ∧ Below w.heap.size w w' := by
  have B := hid (alloc_below w)
  obtain ⟨c, a, b, p, u, k⟩ := x
  unfold itOk wiB at ok
  simp only [Bool.and_eq_true, decide_eq_true_eq] at ok
  obtain ⟨_, ⟨a1, a2⟩, ⟨b1, b2⟩, ⟨p1, p2⟩, ⟨u1, u2⟩, k1, k2⟩ := ok
  unfold itV itC
  simp only
  by_cases h1 : p < a + b
  · have e : wan ⟨c, a, b, p, u, k⟩ = 0 := if_pos (.inl h1)
    rw [e]
    go_enter Try.func22, Try.ntmps22
    go_wp2
    go_ret
    exact ⟨rfl, B.out _⟩
  · by_cases h2 : u ≤ a + b
    · have e : wan ⟨c, a, b, p, u, k⟩ = 0 := if_pos (.inr h2)
      rw [e]
      go_enter Try.func22, Try.ntmps22
      go_wp2
      go_ret
      exact ⟨rfl, B.out _⟩
    · have e : wan ⟨c, a, b, p, u, k⟩ = (u - (a + b) + k - 1) / k * k := if_neg (by simp only; omega)
      have q0 : 0 ≤ (u - (a + b) + k - 1) / k := Int.ediv_nonneg (by omega) (by omega)
      have q1 : (u - (a + b) + k - 1) / k * k ≤ u - (a + b) + k - 1 := Int.ediv_mul_le _ (by omega)
      have q2 : (u - (a + b) + k - 1) / k ≤ u - (a + b) + k - 1 := Int.ediv_le_self _ (by omega)
      have q3 : 0 ≤ (u - (a + b) + k - 1) / k * k := Int.mul_nonneg q0 (by omega)
      have qt : (u - (a + b) + k - 1).tdiv k = (u - (a + b) + k - 1) / k := Int.tdiv_eq_ediv_of_nonneg (by omega)
      rw [e]
      generalize (u - (a + b) + k - 1) / k = q at *
      have hk0 : ¬ k = 0 := by omega
      go_enter Try.func22, Try.ntmps22
      go_wp2
      go_ret
      exact ⟨rfl, B.out _⟩

/-- the code ahead of a place -/
def ahd (L : List It) (i : Nat) : ByteArray := if i = 0 then ⟨#[]⟩ else (L[i - 1]?.map It.code).getD ⟨#[]⟩
theorem ahd_zero (L : List It) : ahd L 0 = ⟨#[]⟩ := rfl
theorem ahd_succ (L : List It) (i : Nat) (h : i < L.length) : ahd L (i + 1) = L[i].code := by
  simp [ahd, List.getElem?_eq_getElem h]
/-- all up to a place may be -/
def okTo (L : List It) (n : Nat) : Prop := ∀ i (h : i < L.length), i < n → itOk L[i] (ahd L i) = true
/-- the item at a place in memory -/
theorem item_at {w : World} {v : Value} {L : List It} (h : RL itC 6 w v L) (i : Nat) (hi : i < L.length) :
    ∃ g off c, v = .slice (some ⟨g, off, none⟩) L.length c ∧ L.length ≤ c ∧ w.cell? ⟨g, off + i * 6, none⟩ = some (.string L[i].code) ∧ w.cell? ⟨g, off + i * 6 + 1, none⟩ = some (.int .i64 L[i].have_) ∧ w.cell? ⟨g, off + i * 6 + 2, none⟩ = some (.int .i64 L[i].coming) ∧ w.cell? ⟨g, off + i * 6 + 3, none⟩ = some (.int .i64 L[i].point) ∧ w.cell? ⟨g, off + i * 6 + 4, none⟩ = some (.int .i64 L[i].upto) ∧ w.cell? ⟨g, off + i * 6 + 5, none⟩ = some (.int .i64 L[i].pack) := by
  obtain ⟨g, off, c, hv, hc, hr⟩ := h.form (by omega)
  exact ⟨g, off, c, hv, hc, hr i hi 0 _ rfl, hr i hi 1 _ rfl, hr i hi 2 _ rfl, hr i hi 3 _ rfl, hr i hi 4 _ rfl, hr i hi 5 _ rfl⟩
end Go.Proofs.Ytgnnopjkbmbjbaa
