/-
  Sd1: The document's PutState. Laid by mksd1.py.
  LawCSt: CodecStates: the law's own walk. Laid by mkcst.py.
-/
import Derived.Test.YtfhicemfhkhjaabSb1
import Derived.Test.YtfhicemfhkhjaabSd4
import Derived.Test.YtfhicemfhkhjaabSd5
import Derived.Test.YtfhicemfhkhjaabSb2
import Derived.Test.YtfhicemfhkhjaabStIn
namespace Go.Proofs.Ytfhicemfhkhjaab
open Go.RowKit
set_option maxRecDepth 100000

set_option maxHeartbeats 4000000 in
theorem rputState_any (s : Sx) (a1 : Option Addr) (p1 : Nat) (a2 : Option Addr) (p2 : Nat) (a3 : Option Addr) (p3 : Nat) (w : World) (ho : SxOk s) (h1 : LV w w.heap.size a1 s.levels) (h2 : HLs w w.heap.size a2 s.holds) (h3 : DLs w w.heap.size a3 s.done) (hl : (sxB s).length ≤ 10000000000000) :
    Calls Try.prog 26 #[sxV s a1 p1 a2 p2 a3 p3] w fun e w' => Wrt (84 :: sxB s) 131072 w e w' := by
  obtain ⟨M, hM⟩ : ∃ M, 84 :: sxB s = M := ⟨_, rfl⟩
  rw [hM]
  have HM := hid hM
  clear hM
  unfold sxV
  unfold sxB at hl
  simp only [List.length_append] at hl
  obtain ⟨W0, hW0⟩ : ∃ W0, w.alloc (.cells #[.int .i64 s.room, .int .i64 s.lsn, .int .i64 s.now, .slice a1 s.levels.length p1, .slice a2 s.holds.length p2, .slice a3 s.done.length p3] 32) = W0 := ⟨_, rfl⟩
  obtain ⟨W, hW⟩ : ∃ W, W0.alloc (.cells #[.int .u8 84] 5) = W := ⟨_, rfl⟩
  have z0 : W0.heap.size = w.heap.size + 1 := by rw [← hW0, World.size_alloc]
  have z : W.heap.size = w.heap.size + 2 := by rw [← hW, World.size_alloc, z0]
  have hb1 : Below w.heap.size w W0 := by rw [← hW0]; exact (Below.refl _ _).alloc (Nat.le_refl _) _
  have hb2 : Below W0.heap.size W0 W := by rw [← hW]; exact (Below.refl _ _).alloc (Nat.le_refl _) _
  have hB0 : Below w.heap.size w W := hb1.trans (hb2.mono (by omega))
  have hrq : W.heap[w.heap.size]? = some (.cells #[.int .i64 s.room, .int .i64 s.lsn, .int .i64 s.now, .slice a1 s.levels.length p1, .slice a2 s.holds.length p2, .slice a3 s.done.length p3] 32 (0, 0)) := (hb2.block _ (by omega)).trans (by rw [← hW0]; exact heap_alloc_new w _)
  have B0 := hid hB0
  have X0 := hid (Below.refl W.heap.size W)
  have HR := hid (show Reads W (.slice (some ⟨w.heap.size + 1, 0, none⟩) 1 1) [84] by rw [← hW, ← z0]; exact reads_one W0 84 _ rfl)
  have HQ := hid (show ∀ wx, Below W.heap.size W wx → ∀ j u, (#[.int .i64 s.room, .int .i64 s.lsn, .int .i64 s.now, .slice a1 s.levels.length p1, .slice a2 s.holds.length p2, .slice a3 s.done.length p3] : Array Value)[j]? = some u → wx.cell? ⟨w.heap.size, j, none⟩ = some u from fun wx hx j u hu => by
    rw [cell_of_row wx _ _ _ _ _ ((hx.block _ (by omega)).trans hrq)]
    exact hu)
  have HL1 := hid (fun wx (hx : Below W.heap.size W wx) => h1.below (hB0.trans (hx.mono (by omega))) (Nat.le_refl _))
  have HL2 := hid (fun wx (hx : Below W.heap.size W wx) => h2.below (hB0.trans (hx.mono (by omega))) (Nat.le_refl _))
  have HL3 := hid (fun wx (hx : Below W.heap.size W wx) => h3.below (hB0.trans (hx.mono (by omega))) (Nat.le_refl _))
  have HOk := hid ho
  have hl4 := ho.b4
  have hl5 := ho.b5
  clear h1 h2 h3 ho hrq hB0 hb1 hb2
  have HW0 := hid hW0
  have HW := hid hW
  clear hW0 hW
  go_enter Try.func26, Try.ntmps26
  have c1 : W.cell? ⟨w.heap.size, 0, none⟩ = some (.int .i64 s.room) := HQ.out W X0.out 0 _ rfl
  have HC := hid (refPutInt_any (.slice (some ⟨w.heap.size + 1, 0, none⟩) 1 1) _ s.room W HR.out HOk.out.b0.1 HOk.out.b0.2 (by simp only [List.length_cons, List.length_nil]; omega))
  go_wp2_with fail
  rw [HW0.out, HW.out]
  refine Calls.mono HC.out ?_
  rintro e w1 ⟨v1, rfl, ho1, hb1⟩
  have HO1 := hid ho1
  have X1 := hid (X0.out.trans (hb1.mono X0.out.size))
  clear ho1 hb1 HC c1
  have c2 : w1.cell? ⟨w.heap.size, 1, none⟩ = some (.int .i64 s.lsn) := HQ.out w1 X1.out 1 _ rfl
  have HC := hid (refPutInt_any v1 _ s.lsn w1 HO1.out.reads HOk.out.b1.1 HOk.out.b1.2 (by simp only [List.length_append, List.length_cons, List.length_nil]; omega))
  go_wp2_with fail
  skip
  refine Calls.mono HC.out ?_
  rintro e w2 ⟨v2, rfl, ho2, hb2⟩
  have HO2 := hid ho2
  have X2 := hid (X1.out.trans (hb2.mono X1.out.size))
  clear ho2 hb2 HC c2 HO1
  have c3 : w2.cell? ⟨w.heap.size, 2, none⟩ = some (.int .i64 s.now) := HQ.out w2 X2.out 2 _ rfl
  have HC := hid (refPutInt_any v2 _ s.now w2 HO2.out.reads HOk.out.b2.1 HOk.out.b2.2 (by simp only [List.length_append, List.length_cons, List.length_nil]; omega))
  go_wp2_with fail
  skip
  refine Calls.mono HC.out ?_
  rintro e w3 ⟨v3, rfl, ho3, hb3⟩
  have HO3 := hid ho3
  have X3 := hid (X2.out.trans (hb3.mono X2.out.size))
  clear ho3 hb3 HC c3 HO2
  have c4 : w3.cell? ⟨w.heap.size, 3, none⟩ = some (.slice a1 s.levels.length p1) := HQ.out w3 X3.out 3 _ rfl
  have HC := hid (rlevels_any v3 _ a1 p1 w.heap.size s.levels w3 HO3.out.reads (HL1.out w3 X3.out) HOk.out.b3 (by simp only [List.length_append, List.length_cons, List.length_nil]; omega))
  go_wp2_with fail
  skip
  refine Calls.mono HC.out ?_
  rintro e w4 ⟨v4, rfl, ho4, hb4⟩
  have HO4 := hid ho4
  have X4 := hid (X3.out.trans (hb4.mono X3.out.size))
  clear ho4 hb4 HC c4 HO3
  have c5 : w4.cell? ⟨w.heap.size, 4, none⟩ = some (.slice a2 s.holds.length p2) := HQ.out w4 X4.out 4 _ rfl
  have HC := hid (rcount_any v4 _ s.holds.length w4 HO4.out.reads HOk.out.b4 (by simp only [List.length_append, List.length_cons, List.length_nil]; omega))
  go_wp2_with fail
  skip
  refine Calls.mono HC.out ?_
  rintro e w5 ⟨v5, rfl, ho5, hb5⟩
  have HO5 := hid ho5
  have X5 := hid (X4.out.trans (hb5.mono X4.out.size))
  clear ho5 hb5 HC c5 HO4
  obtain ⟨A, hA⟩ : ∃ A, [84] ++ grp (foldI s.room) ++ grp (foldI s.lsn) ++ grp (foldI s.now) ++ (grp s.levels.length ++ lvB s.levels) ++ grp s.holds.length = A := ⟨_, rfl⟩
  have HO5 := hid (show Owns w5 w.heap.size v5 A by
    have h1 := X4.out.size
    have := HO5.out.mono (show w.heap.size ≤ w4.heap.size by omega)
    rw [← hA]
    exact this)
  have hAl : A.length + (hlB s.holds).length + (grp s.done.length).length + (dnB s.done).length ≤ 20000000000000 := by
    rw [← hA]
    simp only [List.length_append, List.length_cons, List.length_nil]
    omega
  have HA := hid hA
  clear hA hl
  go_wp2_with fail
  go_loopw [4, 5] (fun vb vi wx => ∃ j : Nat, j ≤ s.holds.length ∧ vi = .int .i64 (j : Int) ∧ Owns wx w.heap.size vb (A ++ hlB (s.holds.take j)) ∧ Below W.heap.size W wx) (fun _ vi _ => s.holds.length - (intOf vi).toNat)
  case atStart => exact ⟨0, Nat.zero_le _, rfl, by simpa [hlB] using HO5.out, X5.out⟩
  case round =>
    obtain ⟨j, hj, rfl, ho, hb⟩ := hrel
    have HO := hid ho
    have HB := hid hb
    have hz := hb.size
    clear ho hb
    have c4 : wr.cell? ⟨w.heap.size, 4, none⟩ = some (.slice a2 s.holds.length p2) := HQ.out wr HB.out 4 _ rfl
    by_cases h : j < s.holds.length
    · have hI : (j : Int) < (s.holds.length : Int) := by omega
      obtain ⟨g, off, hao, m⟩ := HL2.out wr HB.out j h
      subst hao
      have d0 := m.c0
      obtain ⟨la, lc, d1, dl⟩ := m.c1
      have d2 := m.c2
      have mb := m.b1
      have mb0 := m.b0
      have HLn := hid (hlB_succ s.holds j h)
      have hle := hlB_le s.holds (j + 1)
      rw [HLn.out] at hle
      clear m
      generalize s.holds[j]'h = x at *
      have h2 : (hl1 x).length = (grp x.id.size).length + x.id.size + ((grp x.lines.length).length + (lnB x.lines).length + (grp (foldI x.dead)).length) := by
        unfold hl1 txB
        simp only [List.length_append]
        rfl
      rw [List.length_append] at hle
      have KK := hid (show ∀ wx, Below wr.heap.size wr wx → wx.cell? ⟨w.heap.size, 4, none⟩ = some (.slice (some ⟨g, off, none⟩) s.holds.length p2) ∧ wx.cell? ⟨g, off + j * 3 + 1, none⟩ = some (.slice la x.lines.length lc) ∧ wx.cell? ⟨g, off + j * 3 + 2, none⟩ = some (.int .i64 x.dead) ∧ LL wx w.heap.size la x.lines from fun wx hx => ⟨below_cells hx _ _ c4, below_cells hx _ _ d1, below_cells hx _ _ d2, dl.below hx (Nat.le_refl _)⟩)
      have HT := hid (refPutText_any _ _ x.id wr HO.out.reads (by simp only [List.length_append]; omega))
      clear d1 d2 dl
      go_wp2_with fail
      refine Calls.mono HT.out ?_
      rintro e y2 ⟨u2, rfl, ho2, hb2⟩
      have HO2 := hid ho2
      have Y2 := hid hb2
      obtain ⟨k4, k1, _, kl⟩ := KK.out y2 hb2
      have HI := hid (rlines_any u2 _ la lc w.heap.size x.lines y2 ho2.reads kl mb0.2 (by simp only [List.length_append]; have e : x.id.data.toList.length = x.id.size := rfl; omega))
      clear ho2 hb2 HT kl c4 d0
      go_wp2_with fail
      refine Calls.mono HI.out ?_
      rintro e y3 ⟨u3, rfl, ho3, hb3⟩
      have HO3 := hid ho3
      have Y3 := hid (Y2.out.trans (hb3.mono Y2.out.size))
      obtain ⟨k4', _, k2, _⟩ := KK.out y3 Y3.out
      have HI2 := hid (refPutInt_any u3 _ x.dead y3 ho3.reads mb.1 mb.2 (by simp only [List.length_append]; have e : x.id.data.toList.length = x.id.size := rfl; omega))
      clear ho3 hb3 HI k4 k1
      go_wp2_with fail
      refine Calls.mono HI2.out ?_
      rintro e y4 ⟨u4, rfl, ho4, hb4⟩
      have hz3 := Y3.out.size
      have HO4 := hid (show Owns y4 w.heap.size u4 (A ++ hlB (s.holds.take (j + 1))) by
        rw [HLn.out]
        have := ho4.mono (show w.heap.size ≤ y3.heap.size by omega)
        unfold hl1 txB
        simp only [List.append_assoc] at this ⊢
        exact this)
      have HB4 := hid (HB.out.trans ((Y3.out.trans (hb4.mono hz3)).mono hz))
      clear ho4 hb4 HI2 k4' k2
      go_wp2_with fail
      go_roundw
      case rel => exact ⟨j + 1, by omega, by go_num, HO4.out, HB4.out⟩
      case measure => simp [intOf]; omega
    · obtain rfl : j = s.holds.length := by omega
      rw [List.take_length] at HO
      have c5 : wr.cell? ⟨w.heap.size, 5, none⟩ = some (.slice a3 s.done.length p3) := HQ.out wr HB.out 5 _ rfl
      have HC := hid (rcount_any _ _ s.done.length wr HO.out.reads HOk.out.b5 (by simp only [List.length_append]; have := grp_pos s.done.length; omega))
      go_wp2_with fail
      refine Calls.mono HC.out ?_
      rintro e w6 ⟨v6, rfl, ho6, hb6⟩
      obtain ⟨D, hD⟩ : ∃ D, A ++ hlB s.holds ++ grp s.done.length = D := ⟨_, rfl⟩
      have HO6 := hid (show Owns w6 w.heap.size v6 D by rw [← hD]; exact ho6.mono (by omega))
      have X6 := hid (HB.out.trans (hb6.mono hz))
      have hDl : D.length + (dnB s.done).length ≤ 20000000000000 := by
        rw [← hD]
        simp only [List.length_append]
        omega
      have HD := hid hD
      clear hD ho6 hb6 HC c4 c5 HO HB hz hAl
      go_wp2_with fail
      go_loopw [4, 6] (fun vb vi wx => ∃ j : Nat, j ≤ s.done.length ∧ vi = .int .i64 (j : Int) ∧ Owns wx w.heap.size vb (D ++ dnB (s.done.take j)) ∧ Below W.heap.size W wx) (fun _ vi _ => s.done.length - (intOf vi).toNat)
      case atStart => exact ⟨0, Nat.zero_le _, rfl, by simpa [dnB] using HO6.out, X6.out⟩
      case round =>
        obtain ⟨j, hj, rfl, ho, hb⟩ := hrel
        have HO := hid ho
        have HB := hid hb
        have hz := hb.size
        clear ho hb
        have c5 : wr.cell? ⟨w.heap.size, 5, none⟩ = some (.slice a3 s.done.length p3) := HQ.out wr HB.out 5 _ rfl
        by_cases h : j < s.done.length
        · have hI : (j : Int) < (s.done.length : Int) := by omega
          obtain ⟨g, off, hao, m⟩ := HL3.out wr HB.out j h
          subst hao
          have e0 := m.r.c0
          have e1 := m.r.c1
          obtain ⟨la, lc, e2, dl⟩ := m.r.c2
          have e3 := m.r.c3
          have e4 := m.r.c4
          have e5 := m.r.c5
          have e6 := m.c6
          have mb := m.b4
          have HLn := hid (dnB_succ s.done j h)
          have hle := dnB_le s.done (j + 1)
          rw [HLn.out] at hle
          have hrk : RqOk (s.done[j]'h).req := ⟨m.r.b0, m.r.b1, m.r.b2, m.r.b3⟩
          clear m
          generalize s.done[j]'h = x at *
          have h2 : (dn1 x).length = (rqB x.req).length + (grp (foldI x.at')).length := by
            unfold dn1
            simp only [List.length_append]
          rw [List.length_append] at hle
          have KK := hid (show ∀ wx, Below wr.heap.size wr wx → wx.cell? ⟨w.heap.size, 5, none⟩ = some (.slice (some ⟨g, off, none⟩) s.done.length p3) ∧ wx.cell? ⟨g, off + j * 7 + 6, none⟩ = some (.int .i64 x.at') from fun wx hx => ⟨below_cells hx _ _ c5, below_cells hx _ _ e6⟩)
          have HT := hid (rfields_any _ _ x.req la lc w.heap.size wr HO.out.reads hrk dl (by simp only [List.length_append]; omega))
          unfold rqV at HT
          clear e6 dl
          go_wp2_with fail
          refine Calls.mono HT.out ?_
          rintro e y2 ⟨u2, rfl, ho2, hb2⟩
          have HO2 := hid ho2
          have Y2 := hid hb2
          obtain ⟨k5, k6⟩ := KK.out y2 hb2
          have HI2 := hid (refPutInt_any u2 _ x.at' y2 ho2.reads mb.1 mb.2 (by simp only [List.length_append]; omega))
          clear ho2 hb2 HT c5 e0 e1 e2 e3 e4 e5
          go_wp2_with fail
          refine Calls.mono HI2.out ?_
          rintro e y4 ⟨u4, rfl, ho4, hb4⟩
          have hz3 := Y2.out.size
          have HO4 := hid (show Owns y4 w.heap.size u4 (D ++ dnB (s.done.take (j + 1))) by
            rw [HLn.out]
            have := ho4.mono (show w.heap.size ≤ y2.heap.size by omega)
            unfold dn1
            simp only [List.append_assoc] at this ⊢
            exact this)
          have HB4 := hid (HB.out.trans ((Y2.out.trans (hb4.mono hz3)).mono hz))
          clear ho4 hb4 HI2 k5 k6
          go_wp2_with fail
          go_roundw
          case rel => exact ⟨j + 1, by omega, by go_num, HO4.out, HB4.out⟩
          case measure => simp [intOf]; omega
        · obtain rfl : j = s.done.length := by omega
          rw [List.take_length] at HO
          have HWi := hid (rwithin_any _ M 131072 w.heap.size wr (by
            have := HO.out
            rw [← HD.out, ← HA.out] at this
            rw [← HM.out]
            unfold sxB
            simp only [List.append_assoc, List.cons_append, List.nil_append] at this ⊢
            exact this))
          have B5 := hid (B0.out.trans (HB.out.mono (by omega)))
          by_cases hfit : M.length ≤ 131072
          · simp only [if_pos hfit] at HWi
            go_wp2_with fail
            refine Calls.mono HWi.out ?_
            rintro e w9 ⟨⟨v9, rfl, ho9⟩, rfl⟩
            have HO := hid ho9
            clear ho9 HWi
            go_wp2
            go_ret2
            exact Wrt.yes hfit HO.out B5.out
          · simp only [if_neg hfit] at HWi
            go_wp2_with fail
            refine Calls.mono HWi.out ?_
            rintro e w9 ⟨⟨v9, rfl, ho9⟩, rfl⟩
            have HO := hid ho9
            clear ho9 HWi
            go_wp2
            go_ret2
            exact ⟨v9, by rw [if_neg hfit]; rfl, by rw [if_neg hfit]; exact HO.out, B5.out⟩
end Go.Proofs.Ytfhicemfhkhjaab

namespace Go.Proofs.Ytfhicemfhkhjaab
open Go.RowKit
set_option maxRecDepth 100000

theorem row_form9 {w : World} {base n k : Nat} {T : TypeId} {v : Value} {L : List Value} (h : w.ownsRow base T k v n L) : ∃ ao c, v = .slice ao n c := by
  rcases h.2 with ⟨g, h0⟩ | ⟨x, y, z, g1, _⟩
  · exact ⟨none, 0, by rw [g, h0]⟩
  · exact ⟨_, _, g1⟩
theorem lvok9 {L : List Lv} {most : Nat} (hm : most ≤ 1000000000000) (h : ∀ y ∈ L, y.1.size ≤ most ∧ I64 y.2.1 ∧ I64 y.2.2) : LvOk L := fun i hi => by
  have := h _ (List.getElem_mem hi)
  exact ⟨by omega, this.2.1, this.2.2⟩
theorem short_t {s : Sx} {B : Nat} (hB : B ≤ 1000000000000) (g : SxT B s) : ShortS s :=
  ⟨by have := g.levels.1; omega, by have := g.holds.1; omega, by have := g.done.1; omega, fun i h => by have := (g.holds.2 _ (List.getElem_mem h)).lines.1; omega, fun i h => by have := (g.done.2 _ (List.getElem_mem h)).req.lines.1; omega⟩
theorem rss_short (l : List UInt8) : ShortS (rss l).2.2 := by
  by_cases h : (rss l).1 = 0
  · have h1 := h
    rw [rss_whole] at h1
    have := ((Fd.state 131072 (by decide)).whole_form _ h1).2.1
    rw [← rss_whole] at this
    exact short_t (by omega) this
  · obtain ⟨m1, m2⟩ := rss_state l
    by_cases he : eE l (sS l 131072 (bS 84 l 131072)) = 0
    · exact (h (by rw [(m2 he).1])).elim
    · rw [m1 he]
      exact ⟨Nat.zero_le _, Nat.zero_le _, Nat.zero_le _, fun i hi => absurd hi (Nat.not_lt_zero i), fun i hi => absurd hi (Nat.not_lt_zero i)⟩
/-- how long the bytes of a state may be -/
theorem lnB_hi (L : List Ln) (hk : LnOk L) : (lnB L).length ≤ wl L + 20 * L.length := by
  induction L with
  | nil => simp [lnB]
  | cons x t ih =>
    have h0 := hk 0 (by simp)
    have h1 := ih (fun i hi => by have := hk (i + 1) (by simpa using hi); simpa using this)
    have e1 : lnB (x :: t) = ln1 x ++ lnB t := rfl
    have e2 : wl (x :: t) = 2 + x.1.size + wl t := by simp [wl]
    have g1 := grp_le x.1.size (by simp at h0; omega)
    have g2 := grp_le (foldI x.2) (foldI_lt x.2 (by simp at h0; omega) (by simp at h0; omega))
    have e3 : (ln1 x).length = (grp x.1.size).length + x.1.size + (grp (foldI x.2)).length := by
      unfold ln1
      simp only [List.length_append]
      rfl
    rw [e1, List.length_append, e2, List.length_cons, e3]
    omega
theorem rqB_hi (r : Rq) (ht : RqT 1048576 r) : (rqB r).length ≤ r.id.size + r.hold.size + 21 * wl r.lines + 60 := by
  have g1 := grp_le r.id.size (by have := ht.id; omega)
  have g2 := grp_le r.hold.size (by have := ht.hold; omega)
  have g3 := grp_le r.lines.length (by have := ht.lines.1; omega)
  have g4 := grp_le (foldI r.kind) (foldI_lt _ ht.kind.1 ht.kind.2)
  have g5 := grp_le (foldI r.ttl) (foldI_lt _ ht.ttl.1 ht.ttl.2)
  have g6 := grp_le (foldI r.now) (foldI_lt _ ht.now.1 ht.now.2)
  have g7 := lnB_hi r.lines (lnok_of (by omega) ht.lines.2)
  have g8 := wl_len2 r.lines
  have e1 : r.id.data.toList.length = r.id.size := rfl
  have e2 : r.hold.data.toList.length = r.hold.size := rfl
  unfold rqB txB
  simp only [List.length_append]
  omega
theorem hlB_hi (L : List Hl) (ht : ∀ x ∈ L, HlT 1048576 x) : (hlB L).length ≤ 30 * wh L := by
  induction L with
  | nil => simp [hlB]
  | cons x t ih =>
    have e : wh (x :: t) = 3 + x.id.size + wl x.lines + wh t := by simp [wh]
    have e2 : hlB (x :: t) = hl1 x ++ hlB t := rfl
    have h1 := ih (fun y hy => ht y (List.mem_cons_of_mem _ hy))
    have hx := ht x (List.mem_cons_self ..)
    have g1 := grp_le x.id.size (by have := hx.id; omega)
    have g3 := grp_le x.lines.length (by have := hx.lines.1; omega)
    have g4 := grp_le (foldI x.dead) (foldI_lt _ hx.dead.1 hx.dead.2)
    have g7 := lnB_hi x.lines (lnok_of (by omega) hx.lines.2)
    have g8 := wl_len2 x.lines
    have e1 : x.id.data.toList.length = x.id.size := rfl
    rw [e, e2, List.length_append]
    unfold hl1 txB
    simp only [List.length_append]
    omega
theorem dnB_hi (L : List Dn) (ht : ∀ x ∈ L, DnT 1048576 x) : (dnB L).length ≤ 30 * wd L := by
  induction L with
  | nil => simp [dnB]
  | cons x t ih =>
    have e : wd (x :: t) = 7 + (x.req.id.size + x.req.hold.size + wl x.req.lines) + wd t := by simp [wd]
    have e2 : dnB (x :: t) = dn1 x ++ dnB t := rfl
    have h1 := ih (fun y hy => ht y (List.mem_cons_of_mem _ hy))
    have hx := ht x (List.mem_cons_self ..)
    have g1 := rqB_hi x.req hx.req
    have g4 := grp_le (foldI x.at') (foldI_lt _ hx.at'.1 hx.at'.2)
    rw [e, e2, List.length_append]
    unfold dn1
    simp only [List.length_append]
    omega
theorem sxB_hi (s : Sx) (ht : SxT 1048576 s) : (sxB s).length ≤ 31 * wst s + 100 := by
  have g1 := lvB_len s.levels (lvok9 (by omega) ht.levels.2)
  have g2 := hlB_hi s.holds ht.holds.2
  have g3 := dnB_hi s.done ht.done.2
  have g4 := wv_len s.levels
  have g5 := grp_le (foldI s.room) (foldI_lt _ ht.room.1 ht.room.2)
  have g6 := grp_le (foldI s.lsn) (foldI_lt _ ht.lsn.1 ht.lsn.2)
  have g7 := grp_le (foldI s.now) (foldI_lt _ ht.now.1 ht.now.2)
  have g8 := grp_le s.levels.length (by have := ht.levels.1; omega)
  have g9 := grp_le s.holds.length (by have := ht.holds.1; omega)
  have g0 := grp_le s.done.length (by have := ht.done.1; omega)
  unfold sxB wst
  simp only [List.length_append]
  omega
set_option maxHeartbeats 8000000 in
theorem codecStates_any (s : Sx) (a1 : Option Addr) (p1 : Nat) (a2 : Option Addr) (p2 : Nat) (a3 : Option Addr) (p3 : Nat) (vb : Value) (l : List UInt8) (w : World) (h1 : RLv w (.slice a1 s.levels.length p1) s.levels) (h2 : RHl w a2 s.holds) (h3 : RDn w a3 s.done) (hI : SxI s) (hs : wst s ≤ 1048576) (hB : Reads w vb l) (hl : l.length ≤ 1048576) :
    Calls Try.prog 4 #[sxV s a1 p1 a2 p2 a3 p3, vb] w fun e w' => e = .returned (.bool true) ∧ Below w.heap.size w w' := by
  have HT := hid (sx_t hI hs)
  have HSh := hid (short_t (by omega) HT.out)
  have HOk := hid (show SxOk s from ⟨HT.out.room, HT.out.lsn, HT.out.now, by have := HT.out.levels.1; omega, by have := HT.out.holds.1; omega, by have := HT.out.done.1; omega⟩)
  have HBl := hid (show (sxB s).length ≤ 10000000000000 by have := sxB_hi s HT.out; omega)
  obtain ⟨bo, bc, rfl⟩ := hB.form
  obtain ⟨W, hW⟩ : ∃ W, w.alloc (.cells #[.int .i64 s.room, .int .i64 s.lsn, .int .i64 s.now, .slice a1 s.levels.length p1, .slice a2 s.holds.length p2, .slice a3 s.done.length p3] 32) = W := ⟨_, rfl⟩
  have RW := hid (show W.heap[w.heap.size]? = some (.cells #[.int .i64 s.room, .int .i64 s.lsn, .int .i64 s.now, .slice a1 s.levels.length p1, .slice a2 s.holds.length p2, .slice a3 s.done.length p3] 32 (0, 0)) by rw [← hW]; exact heap_alloc_new w _)
  have BW := hid (show Below w.heap.size w W by rw [← hW]; exact (Below.refl _ _).alloc (Nat.le_refl _) _)
  have zW : W.heap.size = w.heap.size + 1 := by rw [← hW, World.size_alloc]
  have H1 := hid h1
  have H2 := hid h2
  have H3 := hid h3
  have HBs := hid hB
  have HBk := hid (bulk_any s a1 p1 a2 p2 a3 p3 W (h1.below BW.out) (h2.below BW.out) (h3.below BW.out) (by omega))
  have hN : ¬ (1048576 : Int) < ((wst s : Nat) : Int) := by omega
  have HW := hid hW
  unfold sxV at HBk ⊢
  clear h1 h2 h3 hI hB hW
  generalize wst s = n at *
  go_enter Try.func4, Try.ntmps4
  go_wp2_with fail
  rw [HW.out]
  refine Calls.mono HBk.out ?_
  rintro e w1 ⟨rfl, hb1⟩
  have R1 := hid ((hb1.block w.heap.size (by omega)).trans RW.out)
  have B1 := hid (BW.out.trans (hb1.mono BW.out.size))
  have z1 := hb1.size
  have c0 : w1.cell? ⟨w.heap.size, 0, none⟩ = some (.int .i64 s.room) := by rw [Lib.cell_of_heap R1.out]; rfl
  have c1 : w1.cell? ⟨w.heap.size, 1, none⟩ = some (.int .i64 s.lsn) := by rw [Lib.cell_of_heap R1.out]; rfl
  have c2 : w1.cell? ⟨w.heap.size, 2, none⟩ = some (.int .i64 s.now) := by rw [Lib.cell_of_heap R1.out]; rfl
  have c3 : w1.cell? ⟨w.heap.size, 3, none⟩ = some (.slice a1 s.levels.length p1) := by rw [Lib.cell_of_heap R1.out]; rfl
  have c4 : w1.cell? ⟨w.heap.size, 4, none⟩ = some (.slice a2 s.holds.length p2) := by rw [Lib.cell_of_heap R1.out]; rfl
  have c5 : w1.cell? ⟨w.heap.size, 5, none⟩ = some (.slice a3 s.done.length p3) := by rw [Lib.cell_of_heap R1.out]; rfl
  have HC := hid (copyState_any s a1 p1 a2 p2 a3 p3 w1 (H1.out.below B1.out) (H2.out.below B1.out) (H3.out.below B1.out) HSh.out)
  unfold sxV at HC
  clear hb1 HBk RW BW HW
  go_wp2_with fail
  refine Calls.mono HC.out ?_
  rintro e w2 ⟨v1, v2, v3, rfl, ho, hb2⟩
  obtain ⟨o1, o2, o3⟩ := ho
  have r1 := o1.reads
  obtain ⟨b1, b4, rfl⟩ := r1.form
  obtain ⟨b2, b5, rfl⟩ : ∃ a c, v2 = .slice a _ c := by obtain ⟨_, _, h, _⟩ := o2; exact row_form9 h
  obtain ⟨b3', b6, rfl⟩ : ∃ a c, v3 = .slice a _ c := by obtain ⟨_, _, h, _⟩ := o3; exact row_form9 h
  have r2 := o2.rd
  have r3 := o3.rd
  have R2 := hid ((hb2.block w.heap.size (by omega)).trans R1.out)
  have B2 := hid (B1.out.trans (hb2.mono B1.out.size))
  have z2 := hb2.size
  obtain ⟨W3, hW3⟩ : ∃ W3, w2.alloc (.cells #[.int .i64 s.room, .int .i64 s.lsn, .int .i64 s.now, .slice b1 s.levels.length b4, .slice b2 s.holds.length b5, .slice b3' s.done.length b6] 32) = W3 := ⟨_, rfl⟩
  have RX := hid (show W3.heap[w2.heap.size]? = some (.cells #[.int .i64 s.room, .int .i64 s.lsn, .int .i64 s.now, .slice b1 s.levels.length b4, .slice b2 s.holds.length b5, .slice b3' s.done.length b6] 32 (0, 0)) by rw [← hW3]; exact heap_alloc_new w2 _)
  have b3 : Below w2.heap.size w2 W3 := by rw [← hW3]; exact (Below.refl _ _).alloc (Nat.le_refl _) _
  have z3 : W3.heap.size = w2.heap.size + 1 := by rw [← hW3, World.size_alloc]
  have B3 := hid (B2.out.trans (b3.mono B2.out.size))
  have R3 := hid ((b3.block w.heap.size (by omega)).trans R2.out)
  have Q1 := hid (r1.below b3)
  have Q2 := hid (r2.below b3)
  have Q3 := hid (r3.below b3)
  have HP := hid (putState_any s b1 b2 b3' b4 b5 b6 W3 HOk.out (Q1.out.lv (lvok9 (by omega) HT.out.levels.2)) (Q2.out.hls (by omega) HT.out.holds.2) (Q3.out.dls (by omega) HT.out.done.2))
  unfold sxV Wrt at HP
  have HW3 := hid hW3
  unfold sxC
  clear o1 o2 o3 r1 r2 r3 hb2 b3 HC R1 R2 B1 B2 hW3 c0 c1 c2 c3 c4 c5
  go_wp2_with fail
  rw [HW3.out]
  refine Calls.mono HP.out ?_
  rintro e w4 ⟨v4, rfl, ho4, hb4⟩
  have R4 := hid ((hb4.block w.heap.size (by omega)).trans R3.out)
  have X4 := hid ((hb4.block w2.heap.size (by omega)).trans RX.out)
  have B4 := hid (B3.out.trans (hb4.mono B3.out.size))
  have z4 := hb4.size
  have P1 := hid (Q1.out.below hb4)
  have P2 := hid (Q2.out.below hb4)
  have P3 := hid (Q3.out.below hb4)
  have c0 : w4.cell? ⟨w.heap.size, 0, none⟩ = some (.int .i64 s.room) := by rw [Lib.cell_of_heap R4.out]; rfl
  have c1 : w4.cell? ⟨w.heap.size, 1, none⟩ = some (.int .i64 s.lsn) := by rw [Lib.cell_of_heap R4.out]; rfl
  have c2 : w4.cell? ⟨w.heap.size, 2, none⟩ = some (.int .i64 s.now) := by rw [Lib.cell_of_heap R4.out]; rfl
  have c3 : w4.cell? ⟨w.heap.size, 3, none⟩ = some (.slice a1 s.levels.length p1) := by rw [Lib.cell_of_heap R4.out]; rfl
  have c4 : w4.cell? ⟨w.heap.size, 4, none⟩ = some (.slice a2 s.holds.length p2) := by rw [Lib.cell_of_heap R4.out]; rfl
  have c5 : w4.cell? ⟨w.heap.size, 5, none⟩ = some (.slice a3 s.done.length p3) := by rw [Lib.cell_of_heap R4.out]; rfl
  have HQ := hid (rputState_any s a1 p1 a2 p2 a3 p3 w4 HOk.out ((H1.out.below B4.out).lv (lvok9 (by omega) HT.out.levels.2)) ((H2.out.below B4.out).hls (by omega) HT.out.holds.2) ((H3.out.below B4.out).dls (by omega) HT.out.done.2) HBl.out)
  unfold sxV Wrt at HQ
  have HO4 := hid ho4
  clear ho4 hb4 HP R3 RX B3 Q1 Q2 Q3 HW3
  generalize (if (84 :: sxB s).length ≤ 131072 then (0 : Int) else 1) = er at *
  generalize (if (84 :: sxB s).length ≤ 131072 then 84 :: sxB s else []) = M at *
  go_wp2_with fail
  refine Calls.mono HQ.out ?_
  rintro e w5 ⟨v5, rfl, ho5, hb5⟩
  have R5 := hid ((hb5.block w.heap.size (by omega)).trans R4.out)
  have X5 := hid ((hb5.block w2.heap.size (by omega)).trans X4.out)
  have B5 := hid (B4.out.trans (hb5.mono B4.out.size))
  have z5 := hb5.size
  have t4 := text_run (HO4.out.reads.below hb5)
  have t5 := text_run ho5.reads
  have HK := hid (sameState_any s b1 b4 b2 b5 b3' b6 a1 p1 a2 p2 a3 p3 w5 (P1.out.below hb5) (P2.out.below hb5) (P3.out.below hb5) (H1.out.below B5.out) (H2.out.below B5.out) (H3.out.below B5.out) HSh.out)
  unfold sxV at HK
  clear c0 c1 c2 c3 c4 c5
  have c0 : w5.cell? ⟨w.heap.size, 0, none⟩ = some (.int .i64 s.room) := by rw [Lib.cell_of_heap R5.out]; rfl
  have c1 : w5.cell? ⟨w.heap.size, 1, none⟩ = some (.int .i64 s.lsn) := by rw [Lib.cell_of_heap R5.out]; rfl
  have c2 : w5.cell? ⟨w.heap.size, 2, none⟩ = some (.int .i64 s.now) := by rw [Lib.cell_of_heap R5.out]; rfl
  have c3 : w5.cell? ⟨w.heap.size, 3, none⟩ = some (.slice a1 s.levels.length p1) := by rw [Lib.cell_of_heap R5.out]; rfl
  have c4 : w5.cell? ⟨w.heap.size, 4, none⟩ = some (.slice a2 s.holds.length p2) := by rw [Lib.cell_of_heap R5.out]; rfl
  have c5 : w5.cell? ⟨w.heap.size, 5, none⟩ = some (.slice a3 s.done.length p3) := by rw [Lib.cell_of_heap R5.out]; rfl
  have d0 : w5.cell? ⟨w2.heap.size, 0, none⟩ = some (.int .i64 s.room) := by rw [Lib.cell_of_heap X5.out]; rfl
  have d1 : w5.cell? ⟨w2.heap.size, 1, none⟩ = some (.int .i64 s.lsn) := by rw [Lib.cell_of_heap X5.out]; rfl
  have d2 : w5.cell? ⟨w2.heap.size, 2, none⟩ = some (.int .i64 s.now) := by rw [Lib.cell_of_heap X5.out]; rfl
  have d3 : w5.cell? ⟨w2.heap.size, 3, none⟩ = some (.slice b1 s.levels.length b4) := by rw [Lib.cell_of_heap X5.out]; rfl
  have d4 : w5.cell? ⟨w2.heap.size, 4, none⟩ = some (.slice b2 s.holds.length b5) := by rw [Lib.cell_of_heap X5.out]; rfl
  have d5 : w5.cell? ⟨w2.heap.size, 5, none⟩ = some (.slice b3' s.done.length b6) := by rw [Lib.cell_of_heap X5.out]; rfl
  clear ho5 hb5 HQ R4 X4 B4 P1 P2 P3 HO4
  go_wp2_with fail
  refine Calls.mono HK.out ?_
  rintro e w6 ⟨rfl, hb6⟩
  have B6 := hid (B5.out.trans (hb6.mono B5.out.size))
  have HLb := hid (lent_any _ l w6 (HBs.out.below B6.out) (by omega))
  clear hb6 HK B5 R5 X5 t4 t5 c0 c1 c2 c3 c4 c5 d0 d1 d2 d3 d4 d5 z5 z4 z3 z2 z1 zW
  go_wp2_with fail
  refine Calls.mono HLb.out ?_
  rintro e w7 ⟨v7, rfl, hL7, hb7⟩
  have B7 := hid (B6.out.trans (hb7.mono B6.out.size))
  have HRq := hid (state_any l v7 w7 hL7.reads)
  have L7 := hid hL7
  unfold Rds at HRq
  have HRr := hid (fun (wx : World) (h : Reads wx (.slice bo l.length bc) l) => rstate_any _ l wx h)
  unfold Rds at HRr
  have HqS := hid (rss_short l)
  generalize (rss l).1 = qe at *
  generalize (rss l).2.1 = qp at *
  generalize (rss l).2.2 = q at *
  clear hb7 hL7 HLb B6 H1 H2 H3 HT HSh HOk HBl hN
  go_wp2_with fail
  refine Calls.mono HRq.out ?_
  rintro e w8 ⟨v1, v2, v3, rfl, ho8, hb8⟩
  obtain ⟨o1, o2, o3⟩ := ho8
  have r1 := o1.reads
  obtain ⟨x1, x4, rfl⟩ := r1.form
  obtain ⟨x2, x5, rfl⟩ : ∃ a c, v2 = .slice a _ c := by obtain ⟨_, _, h, _⟩ := o2; exact row_form9 h
  obtain ⟨x3, x6, rfl⟩ : ∃ a c, v3 = .slice a _ c := by obtain ⟨_, _, h, _⟩ := o3; exact row_form9 h
  have r2 := o2.rd
  have r3 := o3.rd
  obtain ⟨W9, hW9⟩ : ∃ W9, w8.alloc (.cells #[.int .i64 q.room, .int .i64 q.lsn, .int .i64 q.now, .slice x1 q.levels.length x4, .slice x2 q.holds.length x5, .slice x3 q.done.length x6] 32) = W9 := ⟨_, rfl⟩
  have RX9 := hid (show W9.heap[w8.heap.size]? = some (.cells #[.int .i64 q.room, .int .i64 q.lsn, .int .i64 q.now, .slice x1 q.levels.length x4, .slice x2 q.holds.length x5, .slice x3 q.done.length x6] 32 (0, 0)) by rw [← hW9]; exact heap_alloc_new w8 _)
  have b9 : Below w8.heap.size w8 W9 := by rw [← hW9]; exact (Below.refl _ _).alloc (Nat.le_refl _) _
  have z9 : W9.heap.size = w8.heap.size + 1 := by rw [← hW9, World.size_alloc]
  have B8 := hid (B7.out.trans (hb8.mono B7.out.size))
  have B9 := hid (B8.out.trans (b9.mono B8.out.size))
  have L9 := hid ((L7.out.below hb8).below b9)
  have X1 := hid (r1.below b9)
  have X2 := hid (r2.below b9)
  have X3 := hid (r3.below b9)
  have HR2 := hid (HRr.out W9 (HBs.out.below B9.out))
  have HW9 := hid hW9
  unfold sxC
  clear o1 o2 o3 r1 r2 r3 hb8 b9 HRq HRr B8 B7 L7 hW9
  go_wp2_with fail
  rw [HW9.out]
  refine Calls.mono HR2.out ?_
  rintro e wa ⟨v1, v2, v3, rfl, hoa, hba⟩
  obtain ⟨o1, o2, o3⟩ := hoa
  have r1 := o1.reads
  obtain ⟨y1, y4, rfl⟩ := r1.form
  obtain ⟨y2, y5, rfl⟩ : ∃ a c, v2 = .slice a _ c := by obtain ⟨_, _, h, _⟩ := o2; exact row_form9 h
  obtain ⟨y3, y6, rfl⟩ : ∃ a c, v3 = .slice a _ c := by obtain ⟨_, _, h, _⟩ := o3; exact row_form9 h
  have r2 := o2.rd
  have r3 := o3.rd
  obtain ⟨Wb, hWb⟩ : ∃ Wb, wa.alloc (.cells #[.int .i64 q.room, .int .i64 q.lsn, .int .i64 q.now, .slice y1 q.levels.length y4, .slice y2 q.holds.length y5, .slice y3 q.done.length y6] 32) = Wb := ⟨_, rfl⟩
  have RYb := hid (show Wb.heap[wa.heap.size]? = some (.cells #[.int .i64 q.room, .int .i64 q.lsn, .int .i64 q.now, .slice y1 q.levels.length y4, .slice y2 q.holds.length y5, .slice y3 q.done.length y6] 32 (0, 0)) by rw [← hWb]; exact heap_alloc_new wa _)
  have bb : Below wa.heap.size wa Wb := by rw [← hWb]; exact (Below.refl _ _).alloc (Nat.le_refl _) _
  have Ba := hid (B9.out.trans (hba.mono B9.out.size))
  have za := hba.size
  have Bb := hid (Ba.out.trans (bb.mono Ba.out.size))
  have Lb := hid ((L9.out.below hba).below bb)
  have RXb := hid ((bb.block w8.heap.size (by omega)).trans ((hba.block w8.heap.size (by omega)).trans RX9.out))
  have HSm := hid (sameState_any q x1 x4 x2 x5 x3 x6 y1 y4 y2 y5 y3 y6 Wb ((X1.out.below hba).below bb) ((X2.out.below hba).below bb) ((X3.out.below hba).below bb) (r1.below bb) (r2.below bb) (r3.below bb) HqS.out)
  unfold sxV at HSm
  have HWb := hid hWb
  have HKE := hid (show ∀ j u, (#[.int .i64 q.room, .int .i64 q.lsn, .int .i64 q.now, .slice x1 q.levels.length x4, .slice x2 q.holds.length x5, .slice x3 q.done.length x6] : Array Value)[j]? = some u → Wb.cell? ⟨w8.heap.size, j, none⟩ = some u from fun j u hu => by rw [cell_of_row Wb _ _ _ _ _ RXb.out]; exact hu)
  clear o1 o2 o3 r1 r2 r3 hba bb HR2 B9 L9 X1 X2 X3 Ba hWb HW9
  unfold sxC
  have c0 : Wb.cell? ⟨w8.heap.size, 0, none⟩ = some (.int .i64 q.room) := by rw [Lib.cell_of_heap RXb.out]; rfl
  have c1 : Wb.cell? ⟨w8.heap.size, 1, none⟩ = some (.int .i64 q.lsn) := by rw [Lib.cell_of_heap RXb.out]; rfl
  have c2 : Wb.cell? ⟨w8.heap.size, 2, none⟩ = some (.int .i64 q.now) := by rw [Lib.cell_of_heap RXb.out]; rfl
  have c3 : Wb.cell? ⟨w8.heap.size, 3, none⟩ = some (.slice x1 q.levels.length x4) := by rw [Lib.cell_of_heap RXb.out]; rfl
  have c4 : Wb.cell? ⟨w8.heap.size, 4, none⟩ = some (.slice x2 q.holds.length x5) := by rw [Lib.cell_of_heap RXb.out]; rfl
  have c5 : Wb.cell? ⟨w8.heap.size, 5, none⟩ = some (.slice x3 q.done.length x6) := by rw [Lib.cell_of_heap RXb.out]; rfl
  have HC9 := hid (And.intro c0 (And.intro c1 (And.intro c2 (And.intro c3 (And.intro c4 c5)))))
  clear c0 c1 c2 c3 c4 c5 HKE
  go_upto_region 11 with fail
  rw [HWb.out]
  obtain ⟨c0, c1, c2, c3, c4, c5⟩ := HC9.out
  have d0 : Wb.cell? ⟨wa.heap.size, 0, none⟩ = some (.int .i64 q.room) := by rw [Lib.cell_of_heap RYb.out]; rfl
  have d1 : Wb.cell? ⟨wa.heap.size, 1, none⟩ = some (.int .i64 q.lsn) := by rw [Lib.cell_of_heap RYb.out]; rfl
  have d2 : Wb.cell? ⟨wa.heap.size, 2, none⟩ = some (.int .i64 q.now) := by rw [Lib.cell_of_heap RYb.out]; rfl
  have d3 : Wb.cell? ⟨wa.heap.size, 3, none⟩ = some (.slice y1 q.levels.length y4) := by rw [Lib.cell_of_heap RYb.out]; rfl
  have d4 : Wb.cell? ⟨wa.heap.size, 4, none⟩ = some (.slice y2 q.holds.length y5) := by rw [Lib.cell_of_heap RYb.out]; rfl
  have d5 : Wb.cell? ⟨wa.heap.size, 5, none⟩ = some (.slice y3 q.done.length y6) := by rw [Lib.cell_of_heap RYb.out]; rfl
  go_wp2_with fail
  refine Calls.mono HSm.out ?_
  rintro e wc ⟨rfl, hbc⟩
  have Bc := hid (Bb.out.trans (hbc.mono Bb.out.size))
  have HKb := hid (kept_any v7 _ l wc (Lb.out.below hbc) (HBs.out.below Bc.out) (by omega))
  clear hbc HSm c0 c1 c2 c3 c4 c5 d0 d1 d2 d3 d4 d5
  go_wp2_with fail
  refine Calls.mono HKb.out ?_
  rintro e wd ⟨rfl, rfl⟩
  go_wp2
  go_ret
  exact ⟨rfl, Bc.out⟩
end Go.Proofs.Ytfhicemfhkhjaab
