/-
  CalSpoken: the law's own walk, out of the contracts.
-/
import Derived.Test.YtjmainmidacmfaaDoorSpk2
import Derived.Test.YtjmainmidacmfaaDoorTellsP
import Derived.Test.YtjmainmidacmfaaDoorPsp2
import Derived.Test.YtjmainmidacmfaaDoorES
namespace Go.Proofs.YtjmainmidacmfaaDoor
open Go.RowKit
set_option maxRecDepth 100000

theorem printSpan_bad (y m v d h i s : Int) (hf : ¬ FSx y m v d h i s) (w : World) :
    Calls Tryd.prog 9 #[sV y m v d h i s] w fun e w' => e = .returned (.tuple #[.string ⟨#[]⟩, .int .i64 34]) ∧ Below w.heap.size w w' := by
  have HS := hid (fun w => isSpan_any y m v d h i s w)
  rw [decide_eq_false hf] at HS
  clear hf
  unfold sV at *
  go_enter Tryd.func9, Tryd.ntmps9
  go_wp2_with fail
  refine (HS.out _).mono ?_
  rintro e w1 ⟨rfl, hb1⟩
  go_wp2
  go_ret2
  exact ⟨rfl, ((Below.refl _ _).alloc (Nat.le_refl _) _).trans (hb1.mono (by simp))⟩


/-- a span's own text -/
def tx (x0 x1 x2 x3 x4 x5 x6 : Int) : ByteArray := ⟨(psL (dayL x0 x1 x2 x3) (clkL x4 x5 x6)).toArray⟩
theorem tx_list (x0 x1 x2 x3 x4 x5 x6 : Int) : (tx x0 x1 x2 x3 x4 x5 x6).data.toList = psL (dayL x0 x1 x2 x3) (clkL x4 x5 x6) := List.toList_toArray

theorem print_any (x0 x1 x2 x3 x4 x5 x6 : Int) : ∃ (t : ByteArray) (e : Int), ((e = 0 ∧ FSx x0 x1 x2 x3 x4 x5 x6 ∧ t = tx x0 x1 x2 x3 x4 x5 x6) ∨ (e = 34 ∧ ¬ FSx x0 x1 x2 x3 x4 x5 x6)) ∧ ∀ w, HasPw w → Calls Tryd.prog 9 #[.agg #[.int .i64 x0, .int .i64 x1, .int .i64 x2, .int .i64 x3, .int .i64 x4, .int .i64 x5, .int .i64 x6]] w fun q w' => q = .returned (.tuple #[.string t, .int .i64 e]) ∧ Below w.heap.size w w' := by
  by_cases hf : FSx x0 x1 x2 x3 x4 x5 x6
  · refine ⟨tx x0 x1 x2 x3 x4 x5 x6, 0, .inl ⟨rfl, hf, rfl⟩, fun w hT => ?_⟩
    refine (printSpan_good x0 x1 x2 x3 x4 x5 x6 hf w hT).mono ?_
    rintro e w' ⟨⟨t, rfl, ht⟩, hb⟩
    have : t = tx x0 x1 x2 x3 x4 x5 x6 := ba_ext (by rw [ht, tx_list])
    rw [this]
    exact ⟨rfl, hb⟩
  · exact ⟨_, 34, .inr ⟨rfl, hf⟩, fun w _ => printSpan_bad x0 x1 x2 x3 x4 x5 x6 hf w⟩

theorem tx_V (x0 x1 x2 x3 x4 x5 x6 : Int) (hf : FSx x0 x1 x2 x3 x4 x5 x6) : spV (tx x0 x1 x2 x3 x4 x5 x6) = sT [x0, x1, x2, x3, x4, x5, x6] 0 0 := by
  obtain ⟨h1, h2, h3, h4⟩ := spk x0 x1 x2 x3 x4 x5 x6 hf _ rfl
  have lt : (tx x0 x1 x2 x3 x4 x5 x6).data.toList.length = (tx x0 x1 x2 x3 x4 x5 x6).size := Array.length_toList
  rw [tx_list] at lt
  unfold spV
  rw [if_neg (by omega), tx_list, if_pos (by unfold spOk; rw [h1, decide_eq_true ⟨rfl, h4⟩, decide_eq_true h2]; rfl), h1]

theorem tx_inj (x0 x1 x2 x3 x4 x5 x6 y0 y1 y2 y3 y4 y5 y6 : Int) (hx : FSx x0 x1 x2 x3 x4 x5 x6) (hy : FSx y0 y1 y2 y3 y4 y5 y6) (h : tx x0 x1 x2 x3 x4 x5 x6 = tx y0 y1 y2 y3 y4 y5 y6) : [x0, x1, x2, x3, x4, x5, x6] = [y0, y1, y2, y3, y4, y5, y6] := by
  have a := (spk x0 x1 x2 x3 x4 x5 x6 hx _ rfl).1
  have b := (spk y0 y1 y2 y3 y4 y5 y6 hy _ rfl).1
  rw [← tx_list, h, tx_list] at a
  rw [a] at b
  exact (Prod.mk.inj b).1

abbrev kText : ByteArray := ⟨#[80, 49, 89, 50, 77, 51, 68, 84, 52, 72, 53, 77, 54, 83]⟩
theorem k_V : spV kText = sT [1, 2, 0, 3, 4, 5, 6] 0 0 := by
  have h1 : spR kText.data.toList = ([1, 2, 0, 3, 4, 5, 6], 14) := by decide +kernel
  have h2 : spOk kText.data.toList = true := by decide +kernel
  unfold spV
  rw [if_neg (by decide), if_pos h2, h1]

/-- both spans lie in their blocks -/
def TW2 (w0 : World) (x0 x1 x2 x3 x4 x5 x6 y0 y1 y2 y3 y4 y5 y6 : Int) (w : World) : Prop := HasPw w ∧ HasES w ∧ Below w0.heap.size w0 w ∧ LBox w w0.heap.size [x0, x1, x2, x3, x4, x5, x6] ∧ LBox w (w0.heap.size + 1) [y0, y1, y2, y3, y4, y5, y6]
theorem TW2.stable {w0 w w' : World} {x0 x1 x2 x3 x4 x5 x6 y0 y1 y2 y3 y4 y5 y6 : Int} (h : TW2 w0 x0 x1 x2 x3 x4 x5 x6 y0 y1 y2 y3 y4 y5 y6 w) (hb : Below w.heap.size w w') : TW2 w0 x0 x1 x2 x3 x4 x5 x6 y0 y1 y2 y3 y4 y5 y6 w' :=
  ⟨h.1.below hb, h.2.1.below hb, h.2.2.1.trans (hb.mono h.2.2.1.size), h.2.2.2.1.later hb, h.2.2.2.2.later hb⟩
theorem TW2.start (w : World) (x0 x1 x2 x3 x4 x5 x6 y0 y1 y2 y3 y4 y5 y6 : Int) (hT : HasPw w) (hE : HasES w) : TW2 w x0 x1 x2 x3 x4 x5 x6 y0 y1 y2 y3 y4 y5 y6 ((w.alloc (.cells #[.int .i64 x0, .int .i64 x1, .int .i64 x2, .int .i64 x3, .int .i64 x4, .int .i64 x5, .int .i64 x6] 23)).alloc (.cells #[.int .i64 y0, .int .i64 y1, .int .i64 y2, .int .i64 y3, .int .i64 y4, .int .i64 y5, .int .i64 y6] 23)) := by
  have s1 : (w.alloc (.cells #[.int .i64 x0, .int .i64 x1, .int .i64 x2, .int .i64 x3, .int .i64 x4, .int .i64 x5, .int .i64 x6] 23)).heap.size = w.heap.size + 1 := by simp
  refine ⟨(hT.alloc _).alloc _, (hE.below (alloc_belowS _ _)).below (alloc_belowS _ _), ((Below.refl _ _).alloc (Nat.le_refl _) _).alloc (by omega) _, ?_, ?_⟩
  · exact (show LBox _ w.heap.size [x0, x1, x2, x3, x4, x5, x6] from heap_alloc_new w (.cells #[.int .i64 x0, .int .i64 x1, .int .i64 x2, .int .i64 x3, .int .i64 x4, .int .i64 x5, .int .i64 x6] 23)).later (alloc_belowS _ _)
  · have h : LBox _ (w.alloc (.cells #[.int .i64 x0, .int .i64 x1, .int .i64 x2, .int .i64 x3, .int .i64 x4, .int .i64 x5, .int .i64 x6] 23)).heap.size [y0, y1, y2, y3, y4, y5, y6] := heap_alloc_new (w.alloc (.cells #[.int .i64 x0, .int .i64 x1, .int .i64 x2, .int .i64 x3, .int .i64 x4, .int .i64 x5, .int .i64 x6] 23)) (.cells #[.int .i64 y0, .int .i64 y1, .int .i64 y2, .int .i64 y3, .int .i64 y4, .int .i64 y5, .int .i64 y6] 23)
    rw [s1] at h
    exact h

set_option maxHeartbeats 2000000 in
theorem spoken_bad (x0 x1 x2 x3 x4 x5 x6 y0 y1 y2 y3 y4 y5 y6 : Int) (hb : ¬ (FSx x0 x1 x2 x3 x4 x5 x6 ∧ FSx y0 y1 y2 y3 y4 y5 y6)) (w : World) (hT : HasPw w) (hE : HasES w) :
    Calls Tryd.prog 3 #[.agg #[.int .i64 x0, .int .i64 x1, .int .i64 x2, .int .i64 x3, .int .i64 x4, .int .i64 x5, .int .i64 x6], .agg #[.int .i64 y0, .int .i64 y1, .int .i64 y2, .int .i64 y3, .int .i64 y4, .int .i64 y5, .int .i64 y6]] w fun e w' => e = .returned (.bool true) ∧ Below w.heap.size w w' := by
  obtain ⟨t, e, he, P⟩ := print_any x0 x1 x2 x3 x4 x5 x6
  obtain ⟨u, f, hf, Q⟩ := print_any y0 y1 y2 y3 y4 y5 y6
  have HP := hid P
  have HQ := hid Q
  have hef : (e = 34 ∧ (f = 0 ∨ f = 34)) ∨ (e = 0 ∧ f = 34) := by
    rcases he with ⟨h1, h2, _⟩ | ⟨h1, h2⟩
    · rcases hf with ⟨h3, h4, _⟩ | ⟨h3, h4⟩
      · exact absurd ⟨h2, h4⟩ hb
      · exact .inr ⟨h1, h3⟩
    · rcases hf with ⟨h3, h4, _⟩ | ⟨h3, h4⟩
      · exact .inl ⟨h1, .inl h3⟩
      · exact .inl ⟨h1, .inr h3⟩
  have HK := hid (fun w hE => parseSpan_any kText w hE)
  rw [k_V] at HK
  unfold sT lV at HK
  simp only [List.map_cons, List.map_nil] at HK
  have S0 := hid (TW2.start w x0 x1 x2 x3 x4 x5 x6 y0 y1 y2 y3 y4 y5 y6 hT hE)
  clear he hf hb hT hE P Q
  rcases hef with ⟨rfl, rfl | rfl⟩ | ⟨rfl, rfl⟩
  all_goals
    go_enter Tryd.func3, Tryd.ntmps3
    go_wp2_with fail
    refine (HP.out _ S0.out.1).mono ?_
    rintro e w1 ⟨rfl, hb1⟩
    have S1 := hid (S0.out.stable hb1)
    clear hb1 S0
    have hy1 := S1.out.2.2.2.2
    have c0 : World.cell? _ ⟨w.heap.size + 1, 0, none⟩ = some (.int .i64 y0) := hy1.cell 0 (show 0 < 7 by omega)
    have c1 : World.cell? _ ⟨w.heap.size + 1, 1, none⟩ = some (.int .i64 y1) := hy1.cell 1 (show 1 < 7 by omega)
    have c2 : World.cell? _ ⟨w.heap.size + 1, 2, none⟩ = some (.int .i64 y2) := hy1.cell 2 (show 2 < 7 by omega)
    have c3 : World.cell? _ ⟨w.heap.size + 1, 3, none⟩ = some (.int .i64 y3) := hy1.cell 3 (show 3 < 7 by omega)
    have c4 : World.cell? _ ⟨w.heap.size + 1, 4, none⟩ = some (.int .i64 y4) := hy1.cell 4 (show 4 < 7 by omega)
    have c5 : World.cell? _ ⟨w.heap.size + 1, 5, none⟩ = some (.int .i64 y5) := hy1.cell 5 (show 5 < 7 by omega)
    have c6 : World.cell? _ ⟨w.heap.size + 1, 6, none⟩ = some (.int .i64 y6) := hy1.cell 6 (show 6 < 7 by omega)
    clear hy1
    go_wp2_with fail
    refine (HQ.out _ S1.out.1).mono ?_
    rintro e w2 ⟨rfl, hb2⟩
    have S2 := hid (S1.out.stable hb2)
    clear hb2 S1 c0 c1 c2 c3 c4 c5 c6
    go_wp2_with fail
    refine (HK.out _ S2.out.2.1).mono ?_
    rintro e w3 ⟨rfl, hb3⟩
    have S3 := hid (S2.out.stable hb3)
    clear hb3 S2
    have HB := hid (S3.out.2.2.1.alloc S3.out.2.2.1.size (.cells #[.int .i64 1, .int .i64 2, .int .i64 0, .int .i64 3, .int .i64 4, .int .i64 5, .int .i64 6] 23))
    go_wp2
    go_ret
    exact ⟨rfl, HB.out⟩

set_option maxHeartbeats 2000000 in
theorem spoken_good (x0 x1 x2 x3 x4 x5 x6 y0 y1 y2 y3 y4 y5 y6 : Int) (hx : FSx x0 x1 x2 x3 x4 x5 x6) (hy : FSx y0 y1 y2 y3 y4 y5 y6) (w : World) (hT : HasPw w) (hE : HasES w) :
    Calls Tryd.prog 3 #[.agg #[.int .i64 x0, .int .i64 x1, .int .i64 x2, .int .i64 x3, .int .i64 x4, .int .i64 x5, .int .i64 x6], .agg #[.int .i64 y0, .int .i64 y1, .int .i64 y2, .int .i64 y3, .int .i64 y4, .int .i64 y5, .int .i64 y6]] w fun e w' => e = .returned (.bool true) ∧ Below w.heap.size w w' := by
  obtain ⟨t, e, he, P⟩ := print_any x0 x1 x2 x3 x4 x5 x6
  obtain ⟨u, f, hf, Q⟩ := print_any y0 y1 y2 y3 y4 y5 y6
  have hte : e = 0 ∧ t = tx x0 x1 x2 x3 x4 x5 x6 := by
    rcases he with ⟨h1, _, h3⟩ | ⟨_, h2⟩
    · exact ⟨h1, h3⟩
    · exact absurd hx h2
  have huf : f = 0 ∧ u = tx y0 y1 y2 y3 y4 y5 y6 := by
    rcases hf with ⟨h1, _, h3⟩ | ⟨_, h2⟩
    · exact ⟨h1, h3⟩
    · exact absurd hy h2
  obtain ⟨rfl, rfl⟩ := hte
  obtain ⟨rfl, rfl⟩ := huf
  have HP := hid P
  have HQ := hid Q
  have K1 := hid (fun w hE => parseSpan_any (tx x0 x1 x2 x3 x4 x5 x6) w hE)
  have K2 := hid (fun w hE => parseSpan_any (tx y0 y1 y2 y3 y4 y5 y6) w hE)
  rw [tx_V x0 x1 x2 x3 x4 x5 x6 hx] at K1
  rw [tx_V y0 y1 y2 y3 y4 y5 y6 hy] at K2
  have HI := hid (tx_inj x0 x1 x2 x3 x4 x5 x6 y0 y1 y2 y3 y4 y5 y6 hx hy)
  have HI2 := hid (show [x0, x1, x2, x3, x4, x5, x6] = [y0, y1, y2, y3, y4, y5, y6] → tx x0 x1 x2 x3 x4 x5 x6 = tx y0 y1 y2 y3 y4 y5 y6 from fun h => by
    simp only [List.cons.injEq, and_true] at h
    obtain ⟨rfl, rfl, rfl, rfl, rfl, rfl, rfl⟩ := h
    rfl)
  generalize tx x0 x1 x2 x3 x4 x5 x6 = t at *
  generalize tx y0 y1 y2 y3 y4 y5 y6 = u at *
  unfold sT lV at K1 K2
  simp only [List.map_cons, List.map_nil] at K1 K2
  have S0 := hid (TW2.start w x0 x1 x2 x3 x4 x5 x6 y0 y1 y2 y3 y4 y5 y6 hT hE)
  clear he hf hx hy hT hE P Q
  go_enter Tryd.func3, Tryd.ntmps3
  go_wp2_with fail
  refine (HP.out _ S0.out.1).mono ?_
  rintro e w1 ⟨rfl, hb1⟩
  have S1 := hid (S0.out.stable hb1)
  clear hb1 S0
  have hy1 := S1.out.2.2.2.2
  have c0 : World.cell? _ ⟨w.heap.size + 1, 0, none⟩ = some (.int .i64 y0) := hy1.cell 0 (show 0 < 7 by omega)
  have c1 : World.cell? _ ⟨w.heap.size + 1, 1, none⟩ = some (.int .i64 y1) := hy1.cell 1 (show 1 < 7 by omega)
  have c2 : World.cell? _ ⟨w.heap.size + 1, 2, none⟩ = some (.int .i64 y2) := hy1.cell 2 (show 2 < 7 by omega)
  have c3 : World.cell? _ ⟨w.heap.size + 1, 3, none⟩ = some (.int .i64 y3) := hy1.cell 3 (show 3 < 7 by omega)
  have c4 : World.cell? _ ⟨w.heap.size + 1, 4, none⟩ = some (.int .i64 y4) := hy1.cell 4 (show 4 < 7 by omega)
  have c5 : World.cell? _ ⟨w.heap.size + 1, 5, none⟩ = some (.int .i64 y5) := hy1.cell 5 (show 5 < 7 by omega)
  have c6 : World.cell? _ ⟨w.heap.size + 1, 6, none⟩ = some (.int .i64 y6) := hy1.cell 6 (show 6 < 7 by omega)
  clear hy1
  go_wp2_with fail
  refine (HQ.out _ S1.out.1).mono ?_
  rintro e w2 ⟨rfl, hb2⟩
  have S2 := hid (S1.out.stable hb2)
  clear hb2 S1 c0 c1 c2 c3 c4 c5 c6
  go_wp2_with fail
  refine (K1.out _ S2.out.2.1).mono ?_
  rintro e w3 ⟨rfl, hb3⟩
  have S3 := hid (S2.out.stable hb3)
  clear hb3 S2
  have S4 := hid (S3.out.stable (alloc_belowS w3 (.cells #[.int .i64 x0, .int .i64 x1, .int .i64 x2, .int .i64 x3, .int .i64 x4, .int .i64 x5, .int .i64 x6] 23)))
  go_wp2_with fail
  refine (K2.out _ S4.out.2.1).mono ?_
  rintro e w4 ⟨rfl, hb4⟩
  have Z1 := hid ((show LBox _ w3.heap.size [x0, x1, x2, x3, x4, x5, x6] from heap_alloc_new w3 (.cells #[.int .i64 x0, .int .i64 x1, .int .i64 x2, .int .i64 x3, .int .i64 x4, .int .i64 x5, .int .i64 x6] 23)).later hb4)
  have S5 := hid (S4.out.stable hb4)
  clear hb4 S4 S3
  have S6 := hid (S5.out.stable (alloc_belowS w4 (.cells #[.int .i64 y0, .int .i64 y1, .int .i64 y2, .int .i64 y3, .int .i64 y4, .int .i64 y5, .int .i64 y6] 23)))
  have zz := Z1.out.later (alloc_belowS w4 (.cells #[.int .i64 y0, .int .i64 y1, .int .i64 y2, .int .i64 y3, .int .i64 y4, .int .i64 y5, .int .i64 y6] 23))
  have a0 : World.cell? _ ⟨w3.heap.size, 0, none⟩ = some (.int .i64 x0) := zz.cell 0 (show 0 < 7 by omega)
  have a1 : World.cell? _ ⟨w3.heap.size, 1, none⟩ = some (.int .i64 x1) := zz.cell 1 (show 1 < 7 by omega)
  have a2 : World.cell? _ ⟨w3.heap.size, 2, none⟩ = some (.int .i64 x2) := zz.cell 2 (show 2 < 7 by omega)
  have a3 : World.cell? _ ⟨w3.heap.size, 3, none⟩ = some (.int .i64 x3) := zz.cell 3 (show 3 < 7 by omega)
  have a4 : World.cell? _ ⟨w3.heap.size, 4, none⟩ = some (.int .i64 x4) := zz.cell 4 (show 4 < 7 by omega)
  have a5 : World.cell? _ ⟨w3.heap.size, 5, none⟩ = some (.int .i64 x5) := zz.cell 5 (show 5 < 7 by omega)
  have a6 : World.cell? _ ⟨w3.heap.size, 6, none⟩ = some (.int .i64 x6) := zz.cell 6 (show 6 < 7 by omega)
  have bx := S6.out.2.2.2.1
  have b0 : World.cell? _ ⟨w.heap.size, 0, none⟩ = some (.int .i64 x0) := bx.cell 0 (show 0 < 7 by omega)
  have b1 : World.cell? _ ⟨w.heap.size, 1, none⟩ = some (.int .i64 x1) := bx.cell 1 (show 1 < 7 by omega)
  have b2 : World.cell? _ ⟨w.heap.size, 2, none⟩ = some (.int .i64 x2) := bx.cell 2 (show 2 < 7 by omega)
  have b3 : World.cell? _ ⟨w.heap.size, 3, none⟩ = some (.int .i64 x3) := bx.cell 3 (show 3 < 7 by omega)
  have b4 : World.cell? _ ⟨w.heap.size, 4, none⟩ = some (.int .i64 x4) := bx.cell 4 (show 4 < 7 by omega)
  have b5 : World.cell? _ ⟨w.heap.size, 5, none⟩ = some (.int .i64 x5) := bx.cell 5 (show 5 < 7 by omega)
  have b6 : World.cell? _ ⟨w.heap.size, 6, none⟩ = some (.int .i64 x6) := bx.cell 6 (show 6 < 7 by omega)
  have cy' := S6.out.2.2.2.2
  have c0 : World.cell? _ ⟨w.heap.size + 1, 0, none⟩ = some (.int .i64 y0) := cy'.cell 0 (show 0 < 7 by omega)
  have c1 : World.cell? _ ⟨w.heap.size + 1, 1, none⟩ = some (.int .i64 y1) := cy'.cell 1 (show 1 < 7 by omega)
  have c2 : World.cell? _ ⟨w.heap.size + 1, 2, none⟩ = some (.int .i64 y2) := cy'.cell 2 (show 2 < 7 by omega)
  have c3 : World.cell? _ ⟨w.heap.size + 1, 3, none⟩ = some (.int .i64 y3) := cy'.cell 3 (show 3 < 7 by omega)
  have c4 : World.cell? _ ⟨w.heap.size + 1, 4, none⟩ = some (.int .i64 y4) := cy'.cell 4 (show 4 < 7 by omega)
  have c5 : World.cell? _ ⟨w.heap.size + 1, 5, none⟩ = some (.int .i64 y5) := cy'.cell 5 (show 5 < 7 by omega)
  have c6 : World.cell? _ ⟨w.heap.size + 1, 6, none⟩ = some (.int .i64 y6) := cy'.cell 6 (show 6 < 7 by omega)
  have HB := hid S6.out.2.2.1
  clear zz bx cy' S5 S6 Z1
  have HNE := hid (show (t = u) → (t.toList == u.toList) = true from fun h => by rw [h]; simp)
  have HNF := hid (show ¬ (t = u) → (t.toList == u.toList) = false from fun h => by
    rw [beq_eq_false_iff_ne]
    intro q
    exact h (ba_ext (by rw [← ByteArray.toList_eq, ← ByteArray.toList_eq, q])))
  go_wp2_with fail
  all_goals go_ret
  all_goals first
    | exact ⟨by rw [HNE.out (HI2.out (by simp; omega))]; rfl, HB.out⟩
    | exact ⟨by rw [HNF.out (fun q => by have := HI.out q; simp at this; omega)]; rfl, HB.out⟩

end Go.Proofs.YtjmainmidacmfaaDoor
