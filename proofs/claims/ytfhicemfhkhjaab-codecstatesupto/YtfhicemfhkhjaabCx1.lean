/-
  codec, the document's: PutRequest. Laid by mkcx1.py.
-/
import Derived.Test.YtfhicemfhkhjaabCw5
namespace Go.Proofs.Ytfhicemfhkhjaab
open Go.RowKit
set_option maxRecDepth 100000

set_option maxHeartbeats 400000 in
theorem rcount_any (v : Value) (l : List UInt8) (n : Nat) (w : World) (hr : Reads w v l) (hn : n ≤ 9223372036854775807) (hl : l.length + 10 ≤ 140737488355328) :
    Calls Try.prog 59 #[v, .int .i64 (n : Int)] w fun e w' => ∃ v', e = .returned v' ∧ Owns w' w.heap.size v' (l ++ grp n) ∧ Below w.heap.size w w' := by
  have HP := hid (refPutUint_any v l n w hr (by omega) hl)
  go_enter Try.func59, Try.ntmps59
  go_wp2_with fail
  refine Calls.mono HP.out ?_
  rintro e w1 ⟨v1, rfl, ho, hb⟩
  have HO := hid ho
  have HB := hid hb
  clear ho hb
  go_wp2
  go_ret
  exact ⟨_, rfl, HO.out, HB.out⟩
set_option maxHeartbeats 1000000 in
theorem rlines_any (v : Value) (l : List UInt8) (ao : Option Addr) (cap B : Nat) (L : List Ln) (w : World) (hr : Reads w v l) (hL : LL w B ao L) (hn : L.length ≤ 9223372036854775807) (hl : l.length + (grp L.length ++ lnB L).length ≤ 100000000000000) :
    Calls Try.prog 61 #[v, .slice ao L.length cap] w fun e w' => ∃ v', e = .returned v' ∧ Owns w' w.heap.size v' (l ++ (grp L.length ++ lnB L)) ∧ Below w.heap.size w w' := by
  have HC := hid (rcount_any v l L.length w hr hn (by omega))
  have HL := hid hL
  clear hL hr
  go_enter Try.func61, Try.ntmps61
  go_wp2_with fail
  refine Calls.mono HC.out ?_
  rintro e w1 ⟨v1, rfl, ho, hb⟩
  have HO := hid ho
  have HB := hid hb
  clear ho hb HC
  go_wp2_with fail
  go_loopw [0, 5] (fun vb vi wx => ∃ j : Nat, j ≤ L.length ∧ vi = .int .i64 (j : Int) ∧ Owns wx w.heap.size vb (l ++ (grp L.length ++ lnB (L.take j))) ∧ Below w.heap.size w wx) (fun _ vi _ => L.length - (intOf vi).toNat)
  case atStart => exact ⟨0, Nat.zero_le _, rfl, by simpa [lnB] using HO.out, HB.out⟩
  case round =>
    obtain ⟨j, hj, rfl, ho, hb⟩ := hrel
    have HO := hid ho
    have HB := hid hb
    have hz := hb.size
    clear ho hb
    by_cases h : j < L.length
    · have hI : (j : Int) < (L.length : Int) := by omega
      obtain ⟨⟨b1, b2, b3⟩, g, off, hao, hg, c0, c1⟩ := HL.out j h
      subst hao
      have c0 := below_cells HB.out _ _ c0
      have HC1 := hid (fun wx (hx : Below w.heap.size w wx) => below_cells hx _ _ c1)
      have HLn := hid (lnB_succ L j h)
      have hle := lnB_le L (j + 1)
      rw [HLn.out] at hle
      have h2 : (ln1 L[j]).length = (grp L[j].1.size).length + L[j].1.size + (grp (foldI L[j].2)).length := by
        unfold ln1
        simp only [List.length_append]
        rfl
      simp only [List.length_append] at hl hle
      have HT := hid (refPutText_any _ _ L[j].1 wr HO.out.reads (by simp only [List.length_append]; omega))
      clear c1
      go_wp2_with fail
      refine Calls.mono HT.out ?_
      rintro e w2 ⟨v2, rfl, ho2, hb2⟩
      have HO2 := hid ho2
      have HB2 := hid (HB.out.trans (hb2.mono hz))
      have HI := hid (refPutInt_any v2 _ L[j].2 w2 ho2.reads b2 b3 (by simp only [List.length_append]; have e : L[j].1.data.toList.length = L[j].1.size := rfl; omega))
      have c1 := HC1.out w2 HB2.out
      clear ho2 hb2 HT
      go_wp2_with fail
      refine Calls.mono HI.out ?_
      rintro e w3 ⟨v3, rfl, ho3, hb3⟩
      have HO3 := hid (show Owns w3 w.heap.size v3 (l ++ (grp L.length ++ lnB (L.take (j + 1)))) by
        rw [HLn.out]
        have := ho3.mono HB2.out.size
        unfold ln1
        simp only [List.append_assoc] at this ⊢
        exact this)
      have HB3 := hid (HB2.out.trans (hb3.mono HB2.out.size))
      clear ho3 hb3 HI
      go_wp2_with fail
      go_roundw
      case rel => exact ⟨j + 1, by omega, by go_num, HO3.out, HB3.out⟩
      case measure => simp [intOf]; omega
    · have hI : ¬ (j : Int) < (L.length : Int) := by omega
      obtain rfl : j = L.length := by omega
      rw [List.take_length] at HO
      go_wp2
      go_ret
      exact ⟨_, rfl, HO.out, HB.out⟩
set_option maxHeartbeats 400000 in
theorem rwithin_any (v : Value) (l : List UInt8) (most base : Nat) (w : World) (ho : Owns w base v l) :
    Calls Try.prog 63 #[v, .int .i64 (most : Int)] w fun e w' => (∃ v', e = .returned (.tuple #[v', .int .i64 (if l.length ≤ most then 0 else 1)]) ∧ Owns w' base v' (if l.length ≤ most then l else [])) ∧ w' = w := by
  have HO := hid ho
  obtain ⟨ao, cap, rfl⟩ := ho.reads.form
  have hll : l.length ≤ 9223372036854775807 := by
    rcases ho.2 with ⟨_, h0⟩ | ⟨g, cap, cur, _, _, _, hn, hm, _⟩
    · omega
    · unfold maxLen at hm; omega
  clear ho
  go_enter Try.func63, Try.ntmps63
  by_cases h : l.length ≤ most
  · have hI : ¬ (most : Int) < (l.length : Int) := by omega
    simp only [if_pos h]
    go_wp2
    go_ret2
    exact ⟨⟨_, rfl, HO.out⟩, rfl⟩
  · have hI : (most : Int) < (l.length : Int) := by omega
    simp only [if_neg h]
    go_wp2
    go_ret2
    exact ⟨⟨_, rfl, Owns.nil _ _⟩, rfl⟩

set_option maxHeartbeats 2000000 in
theorem rfields_any (v : Value) (l : List UInt8) (r : Rq) (ao : Option Addr) (cap B : Nat) (w : World) (hr : Reads w v l) (ho : RqOk r) (hL : LL w B ao r.lines) (hl : l.length + (rqB r).length ≤ 100000000000000) :
    Calls Try.prog 62 #[v, rqV r ao cap] w fun e w' => ∃ v', e = .returned v' ∧ Owns w' w.heap.size v' (l ++ rqB r) ∧ Below w.heap.size w w' := by
  unfold rqV
  unfold rqB txB at hl
  simp only [List.length_append] at hl
  have e1 : r.id.data.toList.length = r.id.size := rfl
  have e2 : r.hold.data.toList.length = r.hold.size := rfl
  obtain ⟨W, hW⟩ : ∃ W, w.alloc (.cells #[.string r.id, .int .i64 r.kind, .slice ao r.lines.length cap, .string r.hold, .int .i64 r.ttl, .int .i64 r.now] 24) = W := ⟨_, rfl⟩
  have hrq : W.heap[w.heap.size]? = some (.cells #[.string r.id, .int .i64 r.kind, .slice ao r.lines.length cap, .string r.hold, .int .i64 r.ttl, .int .i64 r.now] 24 (0, 0)) := by rw [← hW]; exact heap_alloc_new w _
  have z : W.heap.size = w.heap.size + 1 := by rw [← hW, World.size_alloc]
  have hB0 : Below w.heap.size w W := by rw [← hW]; exact (Below.refl _ _).alloc (Nat.le_refl _) _
  have B0 := hid hB0
  have X0 := hid (Below.refl W.heap.size W)
  have HR := hid (hr.below hB0)
  have HQ := hid (show ∀ wx, Below W.heap.size W wx → ∀ j u, (#[.string r.id, .int .i64 r.kind, .slice ao r.lines.length cap, .string r.hold, .int .i64 r.ttl, .int .i64 r.now] : Array Value)[j]? = some u → wx.cell? ⟨w.heap.size, j, none⟩ = some u from fun wx hx j u hu => by
    rw [cell_of_row wx _ _ _ _ _ ((hx.block _ (by omega)).trans hrq)]
    exact hu)
  have HLL := hid (fun wx (hx : Below W.heap.size W wx) => hL.below (hB0.trans (hx.mono (by omega))) (Nat.le_refl B))
  have HOk := hid ho
  clear hr hL ho hrq hB0
  go_enter Try.func62, Try.ntmps62
  have c0 : W.cell? ⟨w.heap.size, 0, none⟩ = some (.string r.id) := HQ.out W X0.out 0 _ rfl
  have HC := hid (refPutText_any v _ r.id W HR.out (by omega))
  go_wp2_with fail
  try rw [hW]
  refine Calls.mono HC.out ?_
  rintro e w1 ⟨v1, rfl, ho1, hb1⟩
  have HO1 := hid ho1
  have X1 := hid (X0.out.trans (hb1.mono X0.out.size))
  clear ho1 hb1 HC c0
  have c1 : w1.cell? ⟨w.heap.size, 1, none⟩ = some (.int .i64 r.kind) := HQ.out w1 X1.out 1 _ rfl
  have HC := hid (refPutInt_any v1 _ r.kind w1 HO1.out.reads HOk.out.b1.1 HOk.out.b1.2 (by simp only [List.length_append]; omega))
  go_wp2_with fail
  skip
  refine Calls.mono HC.out ?_
  rintro e w2 ⟨v2, rfl, ho2, hb2⟩
  have HO2 := hid ho2
  have X2 := hid (X1.out.trans (hb2.mono X1.out.size))
  clear ho2 hb2 HC c1
  have c2 : w2.cell? ⟨w.heap.size, 2, none⟩ = some (.slice ao r.lines.length cap) := HQ.out w2 X2.out 2 _ rfl
  have HC := hid (rlines_any v2 _ ao cap B r.lines w2 HO2.out.reads (HLL.out w2 X2.out) HOk.out.b0.2.2 (by simp only [List.length_append]; omega))
  go_wp2_with fail
  skip
  refine Calls.mono HC.out ?_
  rintro e w3 ⟨v3, rfl, ho3, hb3⟩
  have HO3 := hid ho3
  have X3 := hid (X2.out.trans (hb3.mono X2.out.size))
  clear ho3 hb3 HC c2
  have c3 : w3.cell? ⟨w.heap.size, 3, none⟩ = some (.string r.hold) := HQ.out w3 X3.out 3 _ rfl
  have HC := hid (refPutText_any v3 _ r.hold w3 HO3.out.reads (by simp only [List.length_append]; omega))
  go_wp2_with fail
  skip
  refine Calls.mono HC.out ?_
  rintro e w4 ⟨v4, rfl, ho4, hb4⟩
  have HO4 := hid ho4
  have X4 := hid (X3.out.trans (hb4.mono X3.out.size))
  clear ho4 hb4 HC c3
  have c4 : w4.cell? ⟨w.heap.size, 4, none⟩ = some (.int .i64 r.ttl) := HQ.out w4 X4.out 4 _ rfl
  have HC := hid (refPutInt_any v4 _ r.ttl w4 HO4.out.reads HOk.out.b2.1 HOk.out.b2.2 (by simp only [List.length_append]; omega))
  go_wp2_with fail
  skip
  refine Calls.mono HC.out ?_
  rintro e w5 ⟨v5, rfl, ho5, hb5⟩
  have HO5 := hid ho5
  have X5 := hid (X4.out.trans (hb5.mono X4.out.size))
  clear ho5 hb5 HC c4
  have c5 : w5.cell? ⟨w.heap.size, 5, none⟩ = some (.int .i64 r.now) := HQ.out w5 X5.out 5 _ rfl
  have HC := hid (refPutInt_any v5 _ r.now w5 HO5.out.reads HOk.out.b3.1 HOk.out.b3.2 (by simp only [List.length_append]; omega))
  go_wp2_with fail
  skip
  refine Calls.mono HC.out ?_
  rintro e w6 ⟨v6, rfl, ho6, hb6⟩
  have HO6 := hid ho6
  have X6 := hid (X5.out.trans (hb6.mono X5.out.size))
  clear ho6 hb6 HC c5
  go_wp2
  go_ret
  refine ⟨_, rfl, ?_, B0.out.trans (X6.out.mono (by omega))⟩
  have h1 := X5.out.size
  have := HO6.out.mono (show w.heap.size ≤ w5.heap.size by omega)
  unfold rqB txB
  simp only [List.append_assoc] at this ⊢
  exact this
end Go.Proofs.Ytfhicemfhkhjaab
