/-
  lin: twins of lists of ops, marks behind each list; are they kept?
-/
import Derived.Test.YtgjalfmnnoaemaaLh3
namespace Go.Proofs.Ytgjalfmnnoaemaa
open Go.RowKit
set_option maxRecDepth 100000

def markB : ByteArray := ⟨#[109, 97, 114, 107]⟩
/-- lines with a mark behind them -/
def MLn (w : World) (v : Value) (L : List Ln) : Prop :=
  ∃ g cap, v = .slice (some ⟨g, 0, none⟩) L.length cap ∧ (L.length + 1 ≤ cap ∧ cap ≤ 9223372036854775807) ∧ (∀ j (hj : j < L.length), w.cell? ⟨g, j * 2, none⟩ = some (.string L[j].1) ∧ w.cell? ⟨g, j * 2 + 1, none⟩ = some (.int .i64 L[j].2)) ∧ w.cell? ⟨g, L.length * 2, none⟩ = some (.string markB)
/-- levels with a mark behind them -/
def MLv (w : World) (v : Value) (L : List Lv) : Prop :=
  ∃ g cap, v = .slice (some ⟨g, 0, none⟩) L.length cap ∧ (L.length + 1 ≤ cap ∧ cap ≤ 9223372036854775807) ∧ (∀ j (hj : j < L.length), w.cell? ⟨g, j * 3, none⟩ = some (.string L[j].1) ∧ w.cell? ⟨g, j * 3 + 1, none⟩ = some (.int .i64 L[j].2.1) ∧ w.cell? ⟨g, j * 3 + 2, none⟩ = some (.int .i64 L[j].2.2)) ∧ w.cell? ⟨g, L.length * 3, none⟩ = some (.string markB)
theorem MLn.reads {w : World} {v : Value} {L : List Ln} (h : MLn w v L) : RLn w v L := by
  obtain ⟨g, cap, rfl, hc, h1, _⟩ := h
  exact .inr ⟨g, 0, cap, rfl, ⟨by omega, hc.2⟩, fun j hj => by rw [Nat.zero_add]; exact h1 j hj⟩
theorem MLv.reads {w : World} {v : Value} {L : List Lv} (h : MLv w v L) : RLv w v L := by
  obtain ⟨g, cap, rfl, hc, h1, _⟩ := h
  exact .inr ⟨g, 0, cap, rfl, ⟨by omega, hc.2⟩, fun j hj => by rw [Nat.zero_add]; exact h1 j hj⟩
theorem MLn.below {w w' : World} {v : Value} {L : List Ln} (h : MLn w v L) (hb : Below w.heap.size w w') : MLn w' v L := by
  obtain ⟨g, cap, rfl, hc, h1, h2⟩ := h
  exact ⟨g, cap, rfl, hc, fun j hj => ⟨below_cells hb _ _ (h1 j hj).1, below_cells hb _ _ (h1 j hj).2⟩, below_cells hb _ _ h2⟩
theorem MLv.below {w w' : World} {v : Value} {L : List Lv} (h : MLv w v L) (hb : Below w.heap.size w w') : MLv w' v L := by
  obtain ⟨g, cap, rfl, hc, h1, h2⟩ := h
  exact ⟨g, cap, rfl, hc, fun j hj => ⟨below_cells hb _ _ (h1 j hj).1, below_cells hb _ _ (h1 j hj).2.1, below_cells hb _ _ (h1 j hj).2.2⟩, below_cells hb _ _ h2⟩
/-- the twin of a list of ops -/
def TO (w : World) (v : Value) (L : List Opx) : Prop :=
  ∃ b cap, v = .slice (some ⟨b, 0, none⟩) L.length cap ∧ (L.length + 1 ≤ cap ∧ cap ≤ 9223372036854775807) ∧ (∀ j (hj : j < L.length), ∃ v1 v2, Op2 w b (j * 14) L[j] v1 v2 ∧ MLn w v1 L[j].req.lines ∧ MLv w v2 L[j].rep.levels) ∧ w.cell? ⟨b, L.length * 14 + 11, none⟩ = some (.int .i64 (-7))
theorem TO.reads {w : World} {v : Value} {L : List Opx} (h : TO w v L) : RO w v L := by
  obtain ⟨b, cap, rfl, hc, h1, _⟩ := h
  exact .inr ⟨b, 0, cap, rfl, ⟨by omega, hc.2⟩, fun j hj => by obtain ⟨v1, v2, k1, k2, k3⟩ := h1 j hj; exact ⟨v1, v2, by rw [Nat.zero_add]; exact k1, k2.reads, k3.reads⟩⟩
theorem TO.below {w w' : World} {v : Value} {L : List Opx} (h : TO w v L) (hb : Below w.heap.size w w') : TO w' v L := by
  obtain ⟨b, cap, rfl, hc, h1, h2⟩ := h
  exact ⟨b, cap, rfl, hc, fun j hj => by obtain ⟨v1, v2, k1, k2, k3⟩ := h1 j hj; exact ⟨v1, v2, k1.below hb, k2.below hb, k3.below hb⟩, below_cells hb _ _ h2⟩
set_option maxHeartbeats 4000000 in
theorem kept_is (u v : Value) (L : List Opx) (w : World) (h1 : TO w u L) (h2 : RO w v L) :
    Calls Try.prog 11 #[u, v] w fun e w' => e = .returned (.bool true) ∧ Below w.heap.size w w' := by
  have H1 := hid h1
  obtain ⟨b, cap, rfl, hc, hop, hm⟩ := h1
  have HS := hid (sameOps_is _ _ L w H1.out.reads h2 (by omega))
  have HM := hid hm
  have HO := hid hop
  have hcI : ((L.length : Int) + 1) ≤ (cap : Int) := by omega
  have hcJ : (L.length : Int) < (L.length : Int) + 1 := by omega
  have HC := hid hc
  have hw1 : IntKind.i64.wrap ((L.length : Int) + 1) = (L.length : Int) + 1 := by rw [IntKind.wrap_i64]; omega
  clear hop hm H1
  go_enter Try.func11, Try.ntmps11
  go_wp2_with fail
  refine Calls.mono HS.out ?_
  rintro e w1 ⟨rfl, hb1⟩
  have m1 := below_cells hb1 _ _ HM.out
  have B1 := hid hb1
  clear HS hb1
  go_wp2_with fail
  clear m1 hw1 hcI hcJ
  go_loopw [5] (fun i wr => ∃ k : Nat, k ≤ L.length ∧ i = .int .i64 (k : Int) ∧ wr = w1) (fun i _ => L.length - (intOf i).toNat)
  case atStart => exact ⟨0, by omega, rfl, rfl⟩
  case round =>
    obtain ⟨k, hk, rfl, hwr⟩ := hrel
    subst hwr
    by_cases hlt : k < L.length
    · obtain ⟨v1, v2, o1, ⟨g1, p1, rfl, q1, z1, n1⟩, ⟨g2, p2, rfl, q2, z2, n2⟩⟩ := HO.out k hlt
      have c2 := below_cells B1.out _ _ (o1 2 _ rfl)
      have c9 := below_cells B1.out _ _ (o1 9 _ rfl)
      have d1 := below_cells B1.out _ _ n1
      have d2 := below_cells B1.out _ _ n2
      have hI : (k : Int) < (L.length : Int) := by omega
      clear o1 n1 n2 z1 z2
      generalize (L[k]'hlt).req.lines.length = m1 at *
      generalize (L[k]'hlt).rep.levels.length = m2 at *
      have i1 : ((m1 : Int) + 1) ≤ (p1 : Int) := by omega
      have i2 : ((m2 : Int) + 1) ≤ (p2 : Int) := by omega
      have j1 : (m1 : Int) < (m1 : Int) + 1 := by omega
      have j2 : (m2 : Int) < (m2 : Int) + 1 := by omega
      have r1 : IntKind.i64.wrap ((m1 : Int) + 1) = (m1 : Int) + 1 := by rw [IntKind.wrap_i64]; omega
      have r2 : IntKind.i64.wrap ((m2 : Int) + 1) = (m2 : Int) + 1 := by rw [IntKind.wrap_i64]; omega
      unfold markB at d1 d2
      go_wp2
      go_roundw
      case rel => exact ⟨k + 1, by omega, by go_num, trivial⟩
      case measure => simp [intOf]; omega
    · go_wp2
      go_ret
      exact ⟨rfl, B1.out⟩
end Go.Proofs.Ytgjalfmnnoaemaa
