/-
  codec, the document's: levels, PutReply. Laid by mkry1.py.
-/
import Derived.Test.YtfhicemfhkhjaaaRp1
import Derived.Test.YtfhicemfhkhjaaaCx1
namespace Go.Proofs.Ytfhicemfhkhjaaa
open Go.RowKit
set_option maxRecDepth 100000

set_option maxHeartbeats 1000000 in
theorem rlevels_any (v : Value) (l : List UInt8) (ao : Option Addr) (cap B : Nat) (L : List Lv) (w : World) (hr : Reads w v l) (hL : LV w B ao L) (hn : L.length ≤ 9223372036854775807) (hl : l.length + (grp L.length ++ lvB L).length ≤ 100000000000000) :
    Calls Try.prog 60 #[v, .slice ao L.length cap] w fun e w' => ∃ v', e = .returned v' ∧ Owns w' w.heap.size v' (l ++ (grp L.length ++ lvB L)) ∧ Below w.heap.size w w' := by
  have HC := hid (rcount_any v l L.length w hr hn (by omega))
  have HL := hid hL
  clear hL hr
  go_enter Try.func60, Try.ntmps60
  go_wp2_with fail
  refine Calls.mono HC.out ?_
  rintro e w1 ⟨v1, rfl, ho, hb⟩
  have HO := hid ho
  have HB := hid hb
  clear ho hb HC
  go_wp2_with fail
  go_loopw [0, 5] (fun vb vi wx => ∃ j : Nat, j ≤ L.length ∧ vi = .int .i64 (j : Int) ∧ Owns wx w.heap.size vb (l ++ (grp L.length ++ lvB (L.take j))) ∧ Below w.heap.size w wx) (fun _ vi _ => L.length - (intOf vi).toNat)
  case atStart => exact ⟨0, Nat.zero_le _, rfl, by simpa [lvB] using HO.out, HB.out⟩
  case round =>
    obtain ⟨j, hj, rfl, ho, hb⟩ := hrel
    have HO := hid ho
    have HB := hid hb
    have hz := hb.size
    clear ho hb
    by_cases h : j < L.length
    · have hI : (j : Int) < (L.length : Int) := by omega
      obtain ⟨⟨b1, ⟨b2, b3⟩, b4, b5⟩, g, off, hao, hg, c0, c1, c2⟩ := HL.out j h
      subst hao
      have c0 := below_cells HB.out _ _ c0
      have HC1 := hid (fun wx (hx : Below w.heap.size w wx) => below_cells hx _ _ c1)
      have HC2 := hid (fun wx (hx : Below w.heap.size w wx) => below_cells hx _ _ c2)
      have HLn := hid (lvB_succ L j h)
      have hle := lvB_le L (j + 1)
      rw [HLn.out] at hle
      have h2 : (lv1 L[j]).length = (grp L[j].1.size).length + L[j].1.size + (grp (foldI L[j].2.1)).length + (grp (foldI L[j].2.2)).length := by
        unfold lv1
        simp only [List.length_append]
        rfl
      simp only [List.length_append] at hl hle
      have HT := hid (refPutText_any _ _ L[j].1 wr HO.out.reads (by simp only [List.length_append]; omega))
      clear c1 c2
      go_wp2_with fail
      refine Calls.mono HT.out ?_
      rintro e w2 ⟨v2, rfl, ho2, hb2⟩
      have HO2 := hid ho2
      have HB2 := hid (HB.out.trans (hb2.mono hz))
      have HI := hid (refPutInt_any v2 _ L[j].2.1 w2 ho2.reads b2 b3 (by simp only [List.length_append]; have e : L[j].1.data.toList.length = L[j].1.size := rfl; omega))
      have c1 := HC1.out w2 HB2.out
      clear ho2 hb2 HT
      go_wp2_with fail
      refine Calls.mono HI.out ?_
      rintro e w3 ⟨v3, rfl, ho3, hb3⟩
      have HO3 := hid ho3
      have HB3 := hid (HB2.out.trans (hb3.mono HB2.out.size))
      have HI2 := hid (refPutInt_any v3 _ L[j].2.2 w3 ho3.reads b4 b5 (by simp only [List.length_append]; have e : L[j].1.data.toList.length = L[j].1.size := rfl; omega))
      have c2 := HC2.out w3 HB3.out
      clear ho3 hb3 HI c1 c0
      go_wp2_with fail
      refine Calls.mono HI2.out ?_
      rintro e w4 ⟨v4, rfl, ho4, hb4⟩
      have HO4 := hid (show Owns w4 w.heap.size v4 (l ++ (grp L.length ++ lvB (L.take (j + 1)))) by
        rw [HLn.out]
        have := ho4.mono HB3.out.size
        unfold lv1
        simp only [List.append_assoc] at this ⊢
        exact this)
      have HB4 := hid (HB3.out.trans (hb4.mono HB3.out.size))
      clear ho4 hb4 HI2
      go_wp2_with fail
      go_roundw
      case rel => exact ⟨j + 1, by omega, by go_num, HO4.out, HB4.out⟩
      case measure => simp [intOf]; omega
    · have hI : ¬ (j : Int) < (L.length : Int) := by omega
      obtain rfl : j = L.length := by omega
      rw [List.take_length] at HO
      go_wp2
      go_ret
      exact ⟨_, rfl, HO.out, HB.out⟩
set_option maxHeartbeats 2000000 in
theorem rputReply_any (r : Ry) (ao : Option Addr) (cap B : Nat) (w : World) (ho : RpOk r) (hL : LV w B ao r.levels) (hl : (rpB r).length ≤ 10000000000000) :
    Calls Try.prog 27 #[rpV r ao cap] w fun e w' => Wrt (82 :: rpB r) 4096 w e w' := by
  obtain ⟨M, hM⟩ : ∃ M, 82 :: rpB r = M := ⟨_, rfl⟩
  rw [hM]
  have HM := hid hM
  clear hM
  unfold rpV
  unfold rpB txB at hl
  simp only [List.length_append] at hl
  have e1 : r.id.data.toList.length = r.id.size := rfl
  obtain ⟨W0, hW0⟩ : ∃ W0, w.alloc (.cells #[.string r.id, .int .i64 r.err, .int .i64 r.line, .slice ao r.levels.length cap, .int .i64 r.now] 32) = W0 := ⟨_, rfl⟩
  obtain ⟨W, hW⟩ : ∃ W, W0.alloc (.cells #[.int .u8 82] 5) = W := ⟨_, rfl⟩
  have z0 : W0.heap.size = w.heap.size + 1 := by rw [← hW0, World.size_alloc]
  have z : W.heap.size = w.heap.size + 2 := by rw [← hW, World.size_alloc, z0]
  have hb1 : Below w.heap.size w W0 := by rw [← hW0]; exact (Below.refl _ _).alloc (Nat.le_refl _) _
  have hb2 : Below W0.heap.size W0 W := by rw [← hW]; exact (Below.refl _ _).alloc (Nat.le_refl _) _
  have hB0 : Below w.heap.size w W := hb1.trans (hb2.mono (by omega))
  have hrq : W.heap[w.heap.size]? = some (.cells #[.string r.id, .int .i64 r.err, .int .i64 r.line, .slice ao r.levels.length cap, .int .i64 r.now] 32 (0, 0)) := (hb2.block _ (by omega)).trans (by rw [← hW0]; exact heap_alloc_new w _)
  have B0 := hid hB0
  have X0 := hid (Below.refl W.heap.size W)
  have HR := hid (show Reads W (.slice (some ⟨w.heap.size + 1, 0, none⟩) 1 1) [82] by rw [← hW, ← z0]; exact reads_one W0 82 _ rfl)
  have HQ := hid (show ∀ wx, Below W.heap.size W wx → ∀ j u, (#[.string r.id, .int .i64 r.err, .int .i64 r.line, .slice ao r.levels.length cap, .int .i64 r.now] : Array Value)[j]? = some u → wx.cell? ⟨w.heap.size, j, none⟩ = some u from fun wx hx j u hu => by
    rw [cell_of_row wx _ _ _ _ _ ((hx.block _ (by omega)).trans hrq)]
    exact hu)
  have HLL := hid (fun wx (hx : Below W.heap.size W wx) => hL.below (hB0.trans (hx.mono (by omega))) (Nat.le_refl B))
  have HOk := hid ho
  clear hL ho hrq hB0 hb1 hb2
  go_enter Try.func27, Try.ntmps27
  have c0 : W.cell? ⟨w.heap.size, 0, none⟩ = some (.string r.id) := HQ.out W X0.out 0 _ rfl
  have HC := hid (refPutText_any (.slice (some ⟨w.heap.size + 1, 0, none⟩) 1 1) _ r.id W HR.out (by simp only [List.length_cons, List.length_nil]; omega))
  go_wp2_with fail
  try rw [hW]
  refine Calls.mono HC.out ?_
  rintro e w1 ⟨v1, rfl, ho1, hb1⟩
  have HO1 := hid ho1
  have X1 := hid (X0.out.trans (hb1.mono X0.out.size))
  clear ho1 hb1 HC c0
  have c1 : w1.cell? ⟨w.heap.size, 1, none⟩ = some (.int .i64 r.err) := HQ.out w1 X1.out 1 _ rfl
  have HC := hid (refPutInt_any v1 _ r.err w1 HO1.out.reads HOk.out.b1.1 HOk.out.b1.2 (by simp only [List.length_append, List.length_cons, List.length_nil]; omega))
  go_wp2_with fail
  skip
  refine Calls.mono HC.out ?_
  rintro e w2 ⟨v2, rfl, ho2, hb2⟩
  have HO2 := hid ho2
  have X2 := hid (X1.out.trans (hb2.mono X1.out.size))
  clear ho2 hb2 HC c1
  have c2 : w2.cell? ⟨w.heap.size, 2, none⟩ = some (.int .i64 r.line) := HQ.out w2 X2.out 2 _ rfl
  have HC := hid (refPutInt_any v2 _ r.line w2 HO2.out.reads HOk.out.b2.1 HOk.out.b2.2 (by simp only [List.length_append, List.length_cons, List.length_nil]; omega))
  go_wp2_with fail
  skip
  refine Calls.mono HC.out ?_
  rintro e w3 ⟨v3, rfl, ho3, hb3⟩
  have HO3 := hid ho3
  have X3 := hid (X2.out.trans (hb3.mono X2.out.size))
  clear ho3 hb3 HC c2
  have c3 : w3.cell? ⟨w.heap.size, 3, none⟩ = some (.slice ao r.levels.length cap) := HQ.out w3 X3.out 3 _ rfl
  have HC := hid (rlevels_any v3 _ ao cap B r.levels w3 HO3.out.reads (HLL.out w3 X3.out) HOk.out.b0.2 (by simp only [List.length_append, List.length_cons, List.length_nil]; omega))
  go_wp2_with fail
  skip
  refine Calls.mono HC.out ?_
  rintro e w4 ⟨v4, rfl, ho4, hb4⟩
  have HO4 := hid ho4
  have X4 := hid (X3.out.trans (hb4.mono X3.out.size))
  clear ho4 hb4 HC c3
  have c4 : w4.cell? ⟨w.heap.size, 4, none⟩ = some (.int .i64 r.now) := HQ.out w4 X4.out 4 _ rfl
  have HC := hid (refPutInt_any v4 _ r.now w4 HO4.out.reads HOk.out.b3.1 HOk.out.b3.2 (by simp only [List.length_append, List.length_cons, List.length_nil]; omega))
  go_wp2_with fail
  skip
  refine Calls.mono HC.out ?_
  rintro e w5 ⟨v5, rfl, ho5, hb5⟩
  have HO5 := hid ho5
  have X5 := hid (X4.out.trans (hb5.mono X4.out.size))
  clear ho5 hb5 HC c4
  have HWi := hid (rwithin_any v5 M 4096 w.heap.size w5 (by
    have h1 := X4.out.size
    have := HO5.out.mono (show w.heap.size ≤ w4.heap.size by omega)
    rw [← HM.out]
    unfold rpB txB
    simp only [List.append_assoc, List.cons_append, List.nil_append] at this ⊢
    exact this))
  have B5 := hid (B0.out.trans (X5.out.mono (by omega)))
  by_cases hfit : M.length ≤ 4096
  · simp only [if_pos hfit] at HWi
    go_wp2_with fail
    refine Calls.mono HWi.out ?_
    rintro e w6 ⟨⟨v6, rfl, ho6⟩, rfl⟩
    have HO := hid ho6
    clear ho6 HWi
    go_wp2
    go_ret2
    exact Wrt.yes hfit HO.out B5.out
  · simp only [if_neg hfit] at HWi
    go_wp2_with fail
    refine Calls.mono HWi.out ?_
    rintro e w6 ⟨⟨v6, rfl, ho6⟩, rfl⟩
    have HO := hid ho6
    clear ho6 HWi
    go_wp2
    go_ret2
    exact ⟨v6, by rw [if_neg hfit]; rfl, by rw [if_neg hfit]; exact HO.out, B5.out⟩
end Go.Proofs.Ytfhicemfhkhjaaa
