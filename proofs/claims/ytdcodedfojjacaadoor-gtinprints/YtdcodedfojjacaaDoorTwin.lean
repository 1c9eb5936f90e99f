/-
  twin and kept: a copy with marks behind it in its spare room.
-/
import Derived.Test.YtdcodedfojjacaaDoorSame
namespace Go.Proofs.YtdcodedfojjacaaDoor
open Go.RowKit
set_option maxRecDepth 100000

def tMark : ByteArray := ⟨#[109, 97, 114, 107]⟩
def tOne : ByteArray := ⟨#[111, 110, 101]⟩
def tTwo : ByteArray := ⟨#[116, 119, 111]⟩
def marks : List El := [(tMark, tOne), (tMark, tTwo)]

/-- a copy of L, the marks behind it -/
def TW (w : World) (v : Value) (L : List El) : Prop :=
  ∃ g cap, v = .slice (some ⟨g, 0, none⟩) L.length cap ∧ L.length + 2 ≤ cap ∧ cap ≤ maxLen ∧ ∀ j (hj : j < (L ++ marks).length), w.cell? ⟨g, j * 2, none⟩ = some (.string (L ++ marks)[j].1) ∧ w.cell? ⟨g, j * 2 + 1, none⟩ = some (.string (L ++ marks)[j].2)

theorem TW.below {w w' : World} {v : Value} {L : List El} (h : TW w v L) (hb : Below w.heap.size w w') : TW w' v L := by
  obtain ⟨g, cap, hv, hc, hm, hcell⟩ := h
  exact ⟨g, cap, hv, hc, hm, fun j hj => ⟨below_cells hb _ _ (hcell j hj).1, below_cells hb _ _ (hcell j hj).2⟩⟩

theorem TW.reads {w : World} {v : Value} {L : List El} (h : TW w v L) : RE w v L := by
  obtain ⟨g, cap, rfl, hc, _, hcell⟩ := h
  refine .inr ⟨g, 0, cap, rfl, by omega, fun j hj => ?_⟩
  have := hcell j (by rw [List.length_append]; omega)
  rw [List.getElem_append_left hj] at this
  simpa using this

set_option maxHeartbeats 2000000 in
theorem twin_any (v : Value) (L : List El) (w : World) (hr : RE w v L) (hl : L.length * 32 + 64 ≤ 140737488355328) :
    Calls Tryd.prog 21 #[v] w fun e w' => ∃ v', e = .returned v' ∧ TW w' v' L ∧ Below w.heap.size w w' := by
  have hvl : ∃ ao cap, v = .slice ao L.length cap := by
    rcases hr with ⟨rfl, ao, cap, rfl, _⟩ | ⟨b, off, cap, rfl, _⟩
    · exact ⟨ao, cap, rfl⟩
    · exact ⟨_, cap, rfl⟩
  obtain ⟨ao, cap0, rfl⟩ := hvl
  go_enter Tryd.func21, Tryd.ntmps21
  go_wp2_with (at_builtin; refine wpList_appE rfl _ _ rfl w.heap.size _ [] rfl (OE.nil _ _) _ L rfl hr ?hlen (Nat.le_refl _) ?hnext)
  case hlen => simp; omega
  case hnext =>
    intro v1 w1 ho1 hg1
    have hb1 : Below w.heap.size w w1 := (Below.refl _ _).grown hg1 (Nat.le_refl _) (fun k hk => by simp [Value.ownBlock] at hk)
    have hz1 := hb1.size
    clear hr hg1
    go_wp2_with (at_builtin; refine wpList_appE rfl _ _ rfl w.heap.size _ L rfl (ho1.alloc _) _ marks rfl ?hr2 ?hlen2 ?hbase2 ?hnext2)
    case hr2 =>
      refine .inr ⟨w1.heap.size, 0, 2, rfl, Nat.le_refl _, fun j hj => ?_⟩
      have hj2 : j < 2 := hj
      have hv : j = 0 ∨ j = 1 := by omega
      rcases hv with rfl | rfl
      · exact ⟨by simp [marks, tMark], by simp [marks, tOne]⟩
      · exact ⟨by simp [marks, tMark], by simp [marks, tTwo]⟩
    case hlen2 => show (L.length + 2) * 32 ≤ _; omega
    case hbase2 => simp; omega
    case hnext2 =>
      intro v2 w2 ho2 hg2
      have hb2 := (hb1.alloc hz1 (.cells #[.string tMark, .string tOne, .string tMark, .string tTwo] 33)).grown hg2 (by simp; omega) ho1.block_ge
      have hmk : (L ++ marks).length = L.length + 2 := List.length_append
      rcases ho2.2 with ⟨_, h0⟩ | ⟨g, cap, cur, rfl, hge, hgg, hnc, hcm, _⟩
      · rw [hmk] at h0; omega
      · have hcl := fun j u hu => World.ownsRow.cells ho2 (g := g) rfl j u hu
        rw [hmk] at hnc
        have HT : Hid (TW w2 (.slice (some ⟨g, 0, none⟩) L.length cap) L) := by
          refine ⟨g, cap, rfl, hnc, hcm, fun j hj => ?_⟩
          have e := ec_at (L ++ marks) j hj
          have h1 := hcl _ _ e.1
          have h2 := hcl _ _ e.2
          rw [Addr.add_lit] at h1 h2
          simp only [Nat.zero_add] at h1 h2
          exact ⟨h1, h2⟩
        rw [hmk]
        clear hcl ho2 hg2 ho1 hgg
        have hcap : L.length ≤ cap := by omega
        have hcm2 : cap ≤ 9223372036854775807 := by unfold maxLen at hcm; omega
        go_wp2
        go_ret
        exact ⟨_, rfl, HT.out, hb2⟩

set_option maxHeartbeats 4000000 in
theorem kept_any (v1 v2 : Value) (L : List El) (w : World) (h1 : TW w v1 L) (h2 : RE w v2 L) (hl : L.length ≤ 9223372036854775000) :
    Calls Tryd.prog 24 #[v1, v2] w fun e w' => e = .returned (.bool true) ∧ Below w.heap.size w w' := by
  have HS : Hid (_) := same_true v1 v2 L w h1.reads h2 (by omega)
  obtain ⟨g, cap, rfl, hc, hcm, hcell⟩ := h1
  have m0 := hcell L.length (by rw [List.length_append]; show L.length < L.length + 2; omega)
  have m1 := hcell (L.length + 1) (by rw [List.length_append]; show L.length + 1 < L.length + 2; omega)
  rw [List.getElem_append_right (Nat.le_refl _)] at m0
  rw [List.getElem_append_right (by omega)] at m1
  simp only [Nat.sub_self, Nat.add_sub_cancel_left] at m0 m1
  have a0 : w.cell? ⟨g, L.length * 2, none⟩ = some (.string tMark) := m0.1
  have a1 : w.cell? ⟨g, L.length * 2 + 1, none⟩ = some (.string tOne) := m0.2
  have a3 : w.cell? ⟨g, (L.length + 1) * 2 + 1, none⟩ = some (.string tTwo) := m1.2
  have HA : Hid (_) := And.intro a0 (And.intro a1 a3)
  have hcm2 : cap ≤ 9223372036854775807 := by unfold maxLen at hcm; omega
  clear hcell m0 m1 h2 a0 a1 a3 hcm
  have hcI : (L.length : Int) + 2 ≤ (cap : Int) := by omega
  go_enter Tryd.func24, Tryd.ntmps24
  go_wp2_with fail
  refine Calls.mono HS.out ?_
  rintro e w1 ⟨rfl, hb1⟩
  have b0 := below_cells hb1 _ _ HA.out.1
  have b1 := below_cells hb1 _ _ HA.out.2.1
  have b3 := below_cells hb1 _ _ HA.out.2.2
  clear HA HS
  unfold tMark at b0
  unfold tOne at b1
  unfold tTwo at b3
  go_wp2
  go_ret
  exact ⟨rfl, hb1⟩

end Go.Proofs.YtdcodedfojjacaaDoor
