/-
  SameState. Laid by mksb2.py.
-/
import Derived.Test.YtfhicemfhkhjaabSb1
import Derived.Deep.RegionHeld3
import Derived.Deep.CutRange
namespace Go.Proofs.Ytfhicemfhkhjaab
open Go.RowKit
set_option maxRecDepth 100000

/-- lists that are short enough -/
def ShortS (s : Sx) : Prop := s.levels.length ≤ 1000000000000 ∧ s.holds.length ≤ 1000000000000 ∧ s.done.length ≤ 1000000000000 ∧ (∀ i (h : i < s.holds.length), s.holds[i].lines.length ≤ 1000000000000) ∧ ∀ i (h : i < s.done.length), s.done[i].req.lines.length ≤ 1000000000000
set_option maxHeartbeats 8000000 in
theorem sameState_any (s : Sx) (a1 : Option Addr) (p1 : Nat) (a2 : Option Addr) (p2 : Nat) (a3 : Option Addr) (p3 : Nat) (b1 : Option Addr) (q1 : Nat) (b2 : Option Addr) (q2 : Nat) (b3 : Option Addr) (q3 : Nat) (w : World) (h1 : RLv w (.slice a1 s.levels.length p1) s.levels) (h2 : RHl w a2 s.holds) (h3 : RDn w a3 s.done) (g1 : RLv w (.slice b1 s.levels.length q1) s.levels) (g2 : RHl w b2 s.holds) (g3 : RDn w b3 s.done) (hs : ShortS s) :
    Calls Try.prog 21 #[sxV s a1 p1 a2 p2 a3 p3, sxV s b1 q1 b2 q2 b3 q3] w fun e w' => e = .returned (.bool true) ∧ Below w.heap.size w w' := by
  unfold sxV
  obtain ⟨W, hW⟩ : ∃ W, (w.alloc (.cells #[.int .i64 s.room, .int .i64 s.lsn, .int .i64 s.now, .slice a1 s.levels.length p1, .slice a2 s.holds.length p2, .slice a3 s.done.length p3] 32)).alloc (.cells #[.int .i64 s.room, .int .i64 s.lsn, .int .i64 s.now, .slice b1 s.levels.length q1, .slice b2 s.holds.length q2, .slice b3 s.done.length q3] 32) = W := ⟨_, rfl⟩
  have BW := hid (show Below w.heap.size w W by rw [← hW]; exact ((Below.refl _ _).alloc (Nat.le_refl _) _).alloc (by rw [World.size_alloc]; omega) _)
  have zW : W.heap.size = w.heap.size + 2 := by rw [← hW]; simp only [World.size_alloc]
  have R0 := hid (show W.heap[w.heap.size]? = some (.cells #[.int .i64 s.room, .int .i64 s.lsn, .int .i64 s.now, .slice a1 s.levels.length p1, .slice a2 s.holds.length p2, .slice a3 s.done.length p3] 32 (0, 0)) by
    rw [← hW, heap_alloc_old _ _ (by simp only [World.size_alloc]; omega)]
    exact heap_alloc_new w _)
  have R1 := hid (show W.heap[w.heap.size + 1]? = some (.cells #[.int .i64 s.room, .int .i64 s.lsn, .int .i64 s.now, .slice b1 s.levels.length q1, .slice b2 s.holds.length q2, .slice b3 s.done.length q3] 32 (0, 0)) by
    rw [← hW]
    have := heap_alloc_new (w.alloc (.cells #[.int .i64 s.room, .int .i64 s.lsn, .int .i64 s.now, .slice a1 s.levels.length p1, .slice a2 s.holds.length p2, .slice a3 s.done.length p3] 32)) (.cells #[.int .i64 s.room, .int .i64 s.lsn, .int .i64 s.now, .slice b1 s.levels.length q1, .slice b2 s.holds.length q2, .slice b3 s.done.length q3] 32)
    rwa [World.size_alloc] at this)
  have HW := hid hW
  obtain ⟨l1, l2, l3, l4, l5⟩ := hs
  have HS := hid (sameLevels_any (.slice a1 s.levels.length p1) (.slice b1 s.levels.length q1) s.levels W (h1.below BW.out) (g1.below BW.out) l1)
  have H2 := hid (h2.below BW.out)
  have H3 := hid (h3.below BW.out)
  have G2 := hid (g2.below BW.out)
  have G3 := hid (g3.below BW.out)
  have L4 := hid l4
  have L5 := hid l5
  have c0 : W.cell? ⟨w.heap.size, 0, none⟩ = some (.int .i64 s.room) := by rw [Lib.cell_of_heap R0.out]; rfl
  have d0 : W.cell? ⟨w.heap.size + 1, 0, none⟩ = some (.int .i64 s.room) := by rw [Lib.cell_of_heap R1.out]; rfl
  have c1 : W.cell? ⟨w.heap.size, 1, none⟩ = some (.int .i64 s.lsn) := by rw [Lib.cell_of_heap R0.out]; rfl
  have d1 : W.cell? ⟨w.heap.size + 1, 1, none⟩ = some (.int .i64 s.lsn) := by rw [Lib.cell_of_heap R1.out]; rfl
  have c2 : W.cell? ⟨w.heap.size, 2, none⟩ = some (.int .i64 s.now) := by rw [Lib.cell_of_heap R0.out]; rfl
  have d2 : W.cell? ⟨w.heap.size + 1, 2, none⟩ = some (.int .i64 s.now) := by rw [Lib.cell_of_heap R1.out]; rfl
  have c3 : W.cell? ⟨w.heap.size, 3, none⟩ = some (.slice a1 s.levels.length p1) := by rw [Lib.cell_of_heap R0.out]; rfl
  have d3 : W.cell? ⟨w.heap.size + 1, 3, none⟩ = some (.slice b1 s.levels.length q1) := by rw [Lib.cell_of_heap R1.out]; rfl
  have c4 : W.cell? ⟨w.heap.size, 4, none⟩ = some (.slice a2 s.holds.length p2) := by rw [Lib.cell_of_heap R0.out]; rfl
  have d4 : W.cell? ⟨w.heap.size + 1, 4, none⟩ = some (.slice b2 s.holds.length q2) := by rw [Lib.cell_of_heap R1.out]; rfl
  have c5 : W.cell? ⟨w.heap.size, 5, none⟩ = some (.slice a3 s.done.length p3) := by rw [Lib.cell_of_heap R0.out]; rfl
  have d5 : W.cell? ⟨w.heap.size + 1, 5, none⟩ = some (.slice b3 s.done.length q3) := by rw [Lib.cell_of_heap R1.out]; rfl
  clear h1 h2 h3 g1 g2 g3 l4 l5 hW
  go_enter Try.func21, Try.ntmps21
  go_wp2_with fail
  rw [HW.out]
  refine Calls.mono HS.out ?_
  rintro e w1 ⟨rfl, hb1⟩
  have c4' := below_cells hb1 _ _ c4
  have d4' := below_cells hb1 _ _ d4
  have c5' := below_cells hb1 _ _ c5
  have d5' := below_cells hb1 _ _ d5
  have B1 := hid (BW.out.trans (hb1.mono BW.out.size))
  have H2' := hid (H2.out.below hb1)
  have H3' := hid (H3.out.below hb1)
  have G2' := hid (G2.out.below hb1)
  have G3' := hid (G3.out.below hb1)
  have z1 : w.heap.size + 2 ≤ w1.heap.size := by have := hb1.size; omega
  clear hb1 HS HW R0 R1 H2 H3 G2 G3 BW c0 d0 c1 d1 c2 d2 c3 d3 c4 d4 c5 d5
  go_wp2_with fail
  go_loopw [5] (fun i wx => ∃ k : Nat, k ≤ s.holds.length ∧ i = .int .i64 (k : Int) ∧ Below w1.heap.size w1 wx) (fun i _ => s.holds.length - (intOf i).toNat)
  case atStart => exact ⟨0, by omega, rfl, Below.refl _ _⟩
  case round =>
    obtain ⟨k, hk, rfl, hb⟩ := hrel
    have c4 := below_cells hb _ _ c4'
    have d4 := below_cells hb _ _ d4'
    by_cases h : k < s.holds.length
    · have hI : (k : Int) < (s.holds.length : Int) := by omega
      obtain ⟨b8, o8, u8, v8, rfl, e0, e1, er, e2⟩ := H2'.out.below hb k h
      obtain ⟨b9, o9, u9, v9, rfl, f0, f1, fr, f2⟩ := G2'.out.below hb k h
      have hln := L4.out k h
      have C1 := hid (show ∀ wx : World, Below wr.heap.size wr wx → Calls Try.prog 47 #[.slice u8 (s.holds[k]'h).lines.length v8, .slice u9 (s.holds[k]'h).lines.length v9] wx fun e w' => e = .returned (.bool true) ∧ Below wr.heap.size wr w' from fun wx hx => (sameLines_any _ _ _ wx (er.below hx) (fr.below hx) hln).mono fun e w' g => ⟨g.1, hx.trans (g.2.mono hx.size)⟩)
      clear er fr hln
      generalize (s.holds[k]'h).id = xi at *
      generalize (s.holds[k]'h).lines.length = xn at *
      generalize (s.holds[k]'h).dead = xd at *
      have KK := hid (show ∀ wx : World, Below wr.heap.size wr wx → wx.cell? ⟨w.heap.size, 4, none⟩ = some (.slice (some ⟨b8, o8, none⟩) s.holds.length p2) ∧ wx.cell? ⟨w.heap.size + 1, 4, none⟩ = some (.slice (some ⟨b9, o9, none⟩) s.holds.length q2) ∧ wx.cell? ⟨b8, o8 + k * 3, none⟩ = some (.string xi) ∧ wx.cell? ⟨b8, o8 + k * 3 + 1, none⟩ = some (.slice u8 xn v8) ∧ wx.cell? ⟨b8, o8 + k * 3 + 2, none⟩ = some (.int .i64 xd) ∧ wx.cell? ⟨b9, o9 + k * 3, none⟩ = some (.string xi) ∧ wx.cell? ⟨b9, o9 + k * 3 + 1, none⟩ = some (.slice u9 xn v9) ∧ wx.cell? ⟨b9, o9 + k * 3 + 2, none⟩ = some (.int .i64 xd) from fun wx hx => ⟨below_cells hx _ _ c4, below_cells hx _ _ d4, below_cells hx _ _ e0, below_cells hx _ _ e1, below_cells hx _ _ e2, below_cells hx _ _ f0, below_cells hx _ _ f1, below_cells hx _ _ f2⟩)
      have HB := hid hb
      have s00 : Below wr.heap.size wr wr := Below.refl _ _
      have s0 : Below wr.heap.size wr wr.drew := (Below.refl _ _).drew
      clear hb e0 e1 e2 f0 f1 f2
      go_upto_region 6 with fail
      go_cut [102] from 59 to 102 (fun v9 wx => v9 = .bool false ∧ Below wr.heap.size wr wx)
      case first =>
        clear c4 d4 c4' d4' c5' d5'
        go_region_held3 (fun wx => wx.cell? ⟨w.heap.size, 4, none⟩ = some (.slice (some ⟨b8, o8, none⟩) s.holds.length p2) ∧ wx.cell? ⟨w.heap.size + 1, 4, none⟩ = some (.slice (some ⟨b9, o9, none⟩) s.holds.length q2) ∧ wx.cell? ⟨b8, o8 + k * 3, none⟩ = some (.string xi) ∧ wx.cell? ⟨b8, o8 + k * 3 + 1, none⟩ = some (.slice u8 xn v8) ∧ wx.cell? ⟨b8, o8 + k * 3 + 2, none⟩ = some (.int .i64 xd) ∧ wx.cell? ⟨b9, o9 + k * 3, none⟩ = some (.string xi) ∧ wx.cell? ⟨b9, o9 + k * 3 + 1, none⟩ = some (.slice u9 xn v9) ∧ wx.cell? ⟨b9, o9 + k * 3 + 2, none⟩ = some (.int .i64 xd)) (exact KK.out _ (by assumption)) (first
          | (go_at_call 47; refine (C1.out _ (by assumption)).mono ?_; rintro e w2 ⟨rfl, s2⟩))
        all_goals (go_wp2_with fail; go_meet; exact ⟨rfl, s2⟩)
      case rest =>
        obtain ⟨rfl, hbc⟩ := hcut
        have HB9 := hid (HB.out.trans (hbc.mono HB.out.size))
        clear hbc C1 KK c4 d4
        go_wp2_with fail
        go_roundw
        case rel => exact ⟨k + 1, by omega, by go_num, HB9.out⟩
        case measure => simp [intOf]; omega
    · obtain rfl : k = s.holds.length := by omega
      have c5 := below_cells hb _ _ c5'
      have d5 := below_cells hb _ _ d5'
      have H3 := hid (H3'.out.below hb)
      have G3 := hid (G3'.out.below hb)
      have B2 := hid (B1.out.trans (hb.mono B1.out.size))
      clear hb c5' d5' c4' d4' H2' G2' H3' G3'
      go_wp2_with fail
      clear c4 d4
      generalize wr = w2 at *
      go_loopw [6] (fun i wx => ∃ k : Nat, k ≤ s.done.length ∧ i = .int .i64 (k : Int) ∧ Below w2.heap.size w2 wx) (fun i _ => s.done.length - (intOf i).toNat)
      case atStart => exact ⟨0, by omega, rfl, Below.refl _ _⟩
      case round =>
        obtain ⟨k, hk, rfl, hb⟩ := hrel
        have c5' := below_cells hb _ _ c5
        have d5' := below_cells hb _ _ d5
        by_cases h : k < s.done.length
        · have hI : (k : Int) < (s.done.length : Int) := by omega
          obtain ⟨b8, o8, u8, v8, rfl, e0, e1, e2, er, e3, e4, e5, e6⟩ := H3.out.below hb k h
          obtain ⟨b9, o9, u9, v9, rfl, f0, f1, f2, fr, f3, f4, f5, f6⟩ := G3.out.below hb k h
          have hln := L5.out k h
          have C1 := hid (show ∀ wx : World, Below wr.heap.size wr wx → Calls Try.prog 19 #[.agg #[.string (s.done[k]'h).req.id, .int .i64 (s.done[k]'h).req.kind, .slice u8 (s.done[k]'h).req.lines.length v8, .string (s.done[k]'h).req.hold, .int .i64 (s.done[k]'h).req.ttl, .int .i64 (s.done[k]'h).req.now], .agg #[.string (s.done[k]'h).req.id, .int .i64 (s.done[k]'h).req.kind, .slice u9 (s.done[k]'h).req.lines.length v9, .string (s.done[k]'h).req.hold, .int .i64 (s.done[k]'h).req.ttl, .int .i64 (s.done[k]'h).req.now]] wx fun e w' => e = .returned (.bool true) ∧ Below wr.heap.size wr w' from fun wx hx => (sameRequest_any (s.done[k]'h).req _ _ wx (er.below hx) (fr.below hx) hln).mono fun e w' g => ⟨g.1, hx.trans (g.2.mono hx.size)⟩)
          clear er fr hln
          generalize (s.done[k]'h).req.id = yi at *
          generalize (s.done[k]'h).req.kind = yk at *
          generalize (s.done[k]'h).req.lines.length = yn at *
          generalize (s.done[k]'h).req.hold = yh at *
          generalize (s.done[k]'h).req.ttl = yt at *
          generalize (s.done[k]'h).req.now = yw at *
          generalize (s.done[k]'h).at' = ya at *
          have KK := hid (show ∀ wx : World, Below wr.heap.size wr wx → wx.cell? ⟨w.heap.size, 5, none⟩ = some (.slice (some ⟨b8, o8, none⟩) s.done.length p3) ∧ wx.cell? ⟨w.heap.size + 1, 5, none⟩ = some (.slice (some ⟨b9, o9, none⟩) s.done.length q3) ∧ wx.cell? ⟨b8, o8 + k * 7, none⟩ = some (.string yi) ∧ wx.cell? ⟨b8, o8 + k * 7 + 1, none⟩ = some (.int .i64 yk) ∧ wx.cell? ⟨b8, o8 + k * 7 + 2, none⟩ = some (.slice u8 yn v8) ∧ wx.cell? ⟨b8, o8 + k * 7 + 3, none⟩ = some (.string yh) ∧ wx.cell? ⟨b8, o8 + k * 7 + 4, none⟩ = some (.int .i64 yt) ∧ wx.cell? ⟨b8, o8 + k * 7 + 5, none⟩ = some (.int .i64 yw) ∧ wx.cell? ⟨b8, o8 + k * 7 + 6, none⟩ = some (.int .i64 ya) ∧ wx.cell? ⟨b9, o9 + k * 7, none⟩ = some (.string yi) ∧ wx.cell? ⟨b9, o9 + k * 7 + 1, none⟩ = some (.int .i64 yk) ∧ wx.cell? ⟨b9, o9 + k * 7 + 2, none⟩ = some (.slice u9 yn v9) ∧ wx.cell? ⟨b9, o9 + k * 7 + 3, none⟩ = some (.string yh) ∧ wx.cell? ⟨b9, o9 + k * 7 + 4, none⟩ = some (.int .i64 yt) ∧ wx.cell? ⟨b9, o9 + k * 7 + 5, none⟩ = some (.int .i64 yw) ∧ wx.cell? ⟨b9, o9 + k * 7 + 6, none⟩ = some (.int .i64 ya) from fun wx hx => ⟨below_cells hx _ _ c5', below_cells hx _ _ d5', below_cells hx _ _ e0, below_cells hx _ _ e1, below_cells hx _ _ e2, below_cells hx _ _ e3, below_cells hx _ _ e4, below_cells hx _ _ e5, below_cells hx _ _ e6, below_cells hx _ _ f0, below_cells hx _ _ f1, below_cells hx _ _ f2, below_cells hx _ _ f3, below_cells hx _ _ f4, below_cells hx _ _ f5, below_cells hx _ _ f6⟩)
          have HB := hid hb
          have s00 : Below wr.heap.size wr wr := Below.refl _ _
          have s0 : Below wr.heap.size wr wr.drew := (Below.refl _ _).drew
          clear hb e0 e1 e2 e3 e4 e5 e6 f0 f1 f2 f3 f4 f5 f6
          go_upto_region 11 with fail
          go_cut [138] from 110 to 138 (fun v9 wx => v9 = .bool false ∧ Below wr.heap.size wr wx)
          case first =>
            clear c5 d5 c5' d5'
            go_region_held3 (fun wx => wx.cell? ⟨w.heap.size, 5, none⟩ = some (.slice (some ⟨b8, o8, none⟩) s.done.length p3) ∧ wx.cell? ⟨w.heap.size + 1, 5, none⟩ = some (.slice (some ⟨b9, o9, none⟩) s.done.length q3) ∧ wx.cell? ⟨b8, o8 + k * 7, none⟩ = some (.string yi) ∧ wx.cell? ⟨b8, o8 + k * 7 + 1, none⟩ = some (.int .i64 yk) ∧ wx.cell? ⟨b8, o8 + k * 7 + 2, none⟩ = some (.slice u8 yn v8) ∧ wx.cell? ⟨b8, o8 + k * 7 + 3, none⟩ = some (.string yh) ∧ wx.cell? ⟨b8, o8 + k * 7 + 4, none⟩ = some (.int .i64 yt) ∧ wx.cell? ⟨b8, o8 + k * 7 + 5, none⟩ = some (.int .i64 yw) ∧ wx.cell? ⟨b8, o8 + k * 7 + 6, none⟩ = some (.int .i64 ya) ∧ wx.cell? ⟨b9, o9 + k * 7, none⟩ = some (.string yi) ∧ wx.cell? ⟨b9, o9 + k * 7 + 1, none⟩ = some (.int .i64 yk) ∧ wx.cell? ⟨b9, o9 + k * 7 + 2, none⟩ = some (.slice u9 yn v9) ∧ wx.cell? ⟨b9, o9 + k * 7 + 3, none⟩ = some (.string yh) ∧ wx.cell? ⟨b9, o9 + k * 7 + 4, none⟩ = some (.int .i64 yt) ∧ wx.cell? ⟨b9, o9 + k * 7 + 5, none⟩ = some (.int .i64 yw) ∧ wx.cell? ⟨b9, o9 + k * 7 + 6, none⟩ = some (.int .i64 ya)) (exact KK.out _ (by assumption)) (first
              | (go_at_call 19; refine (C1.out _ (by assumption)).mono ?_; rintro e w3 ⟨rfl, s3⟩))
            all_goals (go_wp2_with fail; go_meet; exact ⟨rfl, s3⟩)
          case rest =>
            obtain ⟨rfl, hbc⟩ := hcut
            have HB9 := hid (HB.out.trans (hbc.mono HB.out.size))
            clear hbc C1 KK c5' d5'
            go_wp2_with fail
            go_roundw
            case rel => exact ⟨k + 1, by omega, by go_num, HB9.out⟩
            case measure => simp [intOf]; omega
        · obtain rfl : k = s.done.length := by omega
          go_wp2
          go_ret
          exact ⟨rfl, B2.out.trans (hb.mono B2.out.size)⟩
end Go.Proofs.Ytfhicemfhkhjaab
