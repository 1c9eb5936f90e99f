/-
  stock: do codes rise? The program's.
-/
import Derived.Test.YtdodockemkmmpaaGreatKb1
import Derived.Deep.RegionHeld3
import Derived.Handy
import Derived.Laws.Cover1
namespace Go.Proofs.YtdodockemkmmpaaGreat
open Go.RowKit
set_option maxRecDepth 100000

theorem bel_step {w w1 w2 : World} (h : Below w.heap.size w w1) (k : Below w1.heap.size w1 w2) : Below w.heap.size w w2 := h.trans (k.mono h.size)
/-- at or below, as lists of bytes -/
def leB (a b : ByteArray) : Bool := Op.bytesLess a.toList b.toList || a.toList == b.toList
/-- do codes rise? -/
def RsL (L : List Lv) : Prop := ∀ i (h : i + 1 < L.length), leB L[i + 1].1 (L[i]'(by omega)).1 = false
/-- what rising answers -/
def RsA (L : List Lv) (e : Ending) : Prop := ∃ b, e = .returned (.bool b) ∧ (b = true ↔ RsL L)
theorem codeOfLevel_any (x : Lv) (w : World) : Calls Tryz.prog 19 #[.agg #[.string x.1, .int .i64 x.2.1, .int .i64 x.2.2]] w fun e w' => e = .returned (.string x.1) ∧ Below w.heap.size w w' := by
  go_enter Tryz.func19, Tryz.ntmps19
  go_wp2_with fail
  go_ret
  exact ⟨rfl, (Below.refl _ _).alloc (Nat.le_refl _) _⟩
set_option maxHeartbeats 800000 in
theorem risingLv_any (v : Value) (L : List Lv) (w : World) (h : RLv w v L) :
    Calls Tryz.prog 18 #[v, .func (.func 19) #[] #[]] w fun e w' => RsA L e ∧ Below w.heap.size w w' := by
  have H := hid h
  have HL := hid h.len
  obtain ⟨ao, cap, rfl⟩ := h.form
  clear h
  go_enter Tryz.func18, Tryz.ntmps18
  go_wp2_with fail
  go_loopw [5] (fun i wr => ∃ k : Nat, k ≤ L.length + 1 ∧ 1 ≤ k ∧ i = .int .i64 (k : Int) ∧ (∀ i (h : i + 1 < L.length), i + 1 < k → leB L[i + 1].1 (L[i]'(by omega)).1 = false) ∧ Below w.heap.size w wr) (fun i _ => L.length + 1 - (intOf i).toNat)
  case atStart => exact ⟨1, by omega, by omega, rfl, fun i _ h => by omega, Below.refl _ _⟩
  case round =>
    obtain ⟨k, hk, hk1, rfl, hall, hbl⟩ := hrel
    have HA := hid hall
    clear hall
    have hl := HL.out
    by_cases hlt : k < L.length
    · have hI : (k : Int) < (L.length : Int) := by omega
      rcases H.out.below hbl with ⟨rfl, _⟩ | ⟨b, off, cp, e1, hcp, hcell⟩
      · simp at hlt
      cases e1
      obtain ⟨j, rfl⟩ : ∃ j, k = j + 1 := ⟨k - 1, by omega⟩
      have hj : j < L.length := by omega
      have c := hcell (j + 1) hlt
      have d := hcell j hj
      have HK := hid (fun wx (h : Below wr.heap.size wr wx) => And.intro (And.intro (below_cells h _ _ c.1) (And.intro (below_cells h _ _ c.2.1) (below_cells h _ _ c.2.2))) (And.intro (below_cells h _ _ d.1) (And.intro (below_cells h _ _ d.2.1) (below_cells h _ _ d.2.2))))
      have CA := hid (fun wx => codeOfLevel_any (L[j + 1]'hlt) wx)
      have CB := hid (fun wx => codeOfLevel_any (L[j]'hj) wx)
      have KN := hid (fun (h : leB (L[j + 1]'hlt).1 (L[j]'hj).1 = false) => show ∀ i (h : i + 1 < L.length), i + 1 < j + 1 + 1 → leB L[i + 1].1 (L[i]'(by omega)).1 = false from fun i hi h2 => by
        by_cases e : i = j
        · subst e; exact h
        · exact HA.out i hi (by omega))
      have KY := hid (fun (h : leB (L[j + 1]'hlt).1 (L[j]'hj).1 = true) => show ¬ RsL L from fun hr => by rw [hr j hlt] at h; cases h)
      clear c d hcell
      generalize L[j + 1]'hlt = x at HK CA KN KY
      generalize L[j]'hj = y at HK CB KN KY
      obtain ⟨x1, x2, x3⟩ := x
      obtain ⟨y1, y2, y3⟩ := y
      dsimp only at HK CA CB KN KY
      have hsub : ((j + 1 : Nat) : Int) - 1 = (j : Int) := by omega
      have i1 : (0 : Int) ≤ (j : Int) + 1 := by omega
      have i2 : (j : Int) + 1 < (L.length : Int) := by omega
      have i3 : (j : Int) < (L.length : Int) := by omega
      have i4 : IntKind.i64.wrap ((j : Int) + 1 - 1) = (j : Int) := by rw [IntKind.wrap_i64]; omega
      have i5 : IntKind.i64.wrap (j : Int) = (j : Int) := by rw [IntKind.wrap_i64]; omega
      have i6 : (0 : Int) ≤ (j : Int) := by omega
      have s00 : Below wr.heap.size wr wr := Below.refl _ _
      have s0 : Below wr.heap.size wr wr.drew := (Below.refl _ _).drew
      have HB := hid hbl
      clear hbl
      by_cases hle : leB x1 y1 = true
      · have hle2 : (Op.bytesLess x1.toList y1.toList || x1.toList == y1.toList) = true := hle
        have HY := hid (KY.out hle)
        clear hle KN KY
        go_wp2_with fail
        go_region_held3 (fun wx => (wx.cell? ⟨b, off + (j + 1) * 3, none⟩ = some (.string x1) ∧ wx.cell? ⟨b, off + (j + 1) * 3 + 1, none⟩ = some (.int .i64 x2) ∧ wx.cell? ⟨b, off + (j + 1) * 3 + 2, none⟩ = some (.int .i64 x3)) ∧ wx.cell? ⟨b, off + j * 3, none⟩ = some (.string y1) ∧ wx.cell? ⟨b, off + j * 3 + 1, none⟩ = some (.int .i64 y2) ∧ wx.cell? ⟨b, off + j * 3 + 2, none⟩ = some (.int .i64 y3)) (exact HK.out _ (by assumption)) (first
          | (go_at_call 19; refine (CA.out _).mono ?_; rintro e w3 ⟨rfl, s3⟩; have s4 := bel_step (by assumption) s3; clear s3)
          | (go_at_call 19; refine (CB.out _).mono ?_; rintro e w5 ⟨rfl, s5⟩; have s6 := bel_step (by assumption) s5; clear s5))
        all_goals
          go_wp2_with fail
          go_ret
          first | exact ⟨⟨_, rfl, by simp [HY.out]⟩, HB.out.trans (s6.mono HB.out.size)⟩ | exact ⟨⟨_, rfl, by simp [HY.out]⟩, HB.out.trans (s4.mono HB.out.size)⟩
      · have hle0 : leB x1 y1 = false := by simpa using hle
        have hle2 : (Op.bytesLess x1.toList y1.toList || x1.toList == y1.toList) = false := hle0
        have HN := hid (KN.out hle0)
        clear hle hle0 KN KY
        go_wp2_with fail
        go_region_held3 (fun wx => (wx.cell? ⟨b, off + (j + 1) * 3, none⟩ = some (.string x1) ∧ wx.cell? ⟨b, off + (j + 1) * 3 + 1, none⟩ = some (.int .i64 x2) ∧ wx.cell? ⟨b, off + (j + 1) * 3 + 2, none⟩ = some (.int .i64 x3)) ∧ wx.cell? ⟨b, off + j * 3, none⟩ = some (.string y1) ∧ wx.cell? ⟨b, off + j * 3 + 1, none⟩ = some (.int .i64 y2) ∧ wx.cell? ⟨b, off + j * 3 + 2, none⟩ = some (.int .i64 y3)) (exact HK.out _ (by assumption)) (first
          | (go_at_call 19; refine (CA.out _).mono ?_; rintro e w3 ⟨rfl, s3⟩; have s4 := bel_step (by assumption) s3; clear s3)
          | (go_at_call 19; refine (CB.out _).mono ?_; rintro e w5 ⟨rfl, s5⟩; have s6 := bel_step (by assumption) s5; clear s5))
        all_goals
          go_wp2_with fail
          go_roundw
          case rel => first | exact ⟨j + 1 + 1, by omega, by omega, by go_num, HN.out, HB.out.trans (s6.mono HB.out.size)⟩ | exact ⟨j + 1 + 1, by omega, by omega, by go_num, HN.out, HB.out.trans (s4.mono HB.out.size)⟩
          case measure => simp [intOf]; omega
    · have HR := hid (show RsL L from fun i hi => HA.out i hi (by omega))
      have hI : ¬ (k : Int) < (L.length : Int) := by omega
      have HB := hid hbl
      clear hbl
      go_wp2_with fail
      go_ret
      exact ⟨⟨_, rfl, by simp [HR.out]⟩, HB.out⟩
end Go.Proofs.YtdodockemkmmpaaGreat
