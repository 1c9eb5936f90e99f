/-
  CodecBack: the law's own walk. Laid by mkcbk.py.
-/
import Derived.Test.YtfhicemfhkhjaaaCu2
import Derived.Test.YtfhicemfhkhjaaaSb2
import Derived.Test.YtfhicemfhkhjaaaRd1
namespace Go.Proofs.Ytfhicemfhkhjaaa
open Go.RowKit
set_option maxRecDepth 100000

theorem row_form9 {w : World} {base n k : Nat} {T : TypeId} {v : Value} {L : List Value} (h : w.ownsRow base T k v n L) : ∃ ao c, v = .slice ao n c := by
  rcases h.2 with ⟨g, h0⟩ | ⟨x, y, z, g1, _⟩
  · exact ⟨none, 0, by rw [g, h0]⟩
  · exact ⟨_, _, g1⟩
theorem rqs_back {r : Rq} {p : Ry} {x : Int} {s : Sx} (h : Thg r p x s) (hl : (81 :: rqB r).length ≤ 4096) : rqs (81 :: rqB r) = (0, 0, r) := by
  rw [rqs_whole]
  exact (Fd.request 4096 (by decide)).whole_back (x := r) _ (rq_t h.r (by have := rqB_lo r; simp only [List.length_cons] at hl; omega)) hl
theorem rps_back {r : Rq} {p : Ry} {x : Int} {s : Sx} (h : Thg r p x s) (hl : (82 :: rpB p).length ≤ 4096) : rps (82 :: rpB p) = (0, 0, p) := by
  rw [rps_whole]
  exact (Fd.reply 4096 (by decide)).whole_back (x := p) _ (ry_t h.p (by have := rpB_lo p; simp only [List.length_cons] at hl; omega)) hl
theorem rcs_back {r : Rq} {p : Ry} {x : Int} {s : Sx} (h : Thg r p x s) (hl : (83 :: (grp (foldI x) ++ rqB r)).length ≤ 4096) : rcs (83 :: (grp (foldI x) ++ rqB r)) = (0, 0, (x, r)) := by
  rw [rcs_whole]
  exact (Fd.record 4096 (by decide)).whole_back (x := (x, r)) _ (⟨h.x, rq_t h.r (by have := rqB_lo r; simp only [List.length_cons, List.length_append] at hl; show r.id.size + r.hold.size + wl r.lines ≤ 4096; omega)⟩) hl
theorem rss_back {r : Rq} {p : Ry} {x : Int} {s : Sx} (h : Thg r p x s) (hl : (84 :: sxB s).length ≤ 131072) : rss (84 :: sxB s) = (0, 0, s) := by
  rw [rss_whole]
  exact (Fd.state 131072 (by decide)).whole_back (x := s) _ (sx_t h.s (by have := sxB_lo s; simp only [List.length_cons] at hl; omega)) hl
set_option maxHeartbeats 16000000 in
theorem codecBack_any (r : Rq) (ao : Option Addr) (cap : Nat) (p : Ry) (bo : Option Addr) (bp : Nat) (x : Int) (s : Sx) (a1 : Option Addr) (p1 : Nat) (a2 : Option Addr) (p2 : Nat) (a3 : Option Addr) (p3 : Nat) (w : World)
    (hM : Mays r ao p bo x s a1 a2 a3 w) (hL : RLn w (.slice ao r.lines.length cap) r.lines) (hV : RLv w (.slice bo p.levels.length bp) p.levels) (h1 : RLv w (.slice a1 s.levels.length p1) s.levels) (h2 : RHl w a2 s.holds) (h3 : RDn w a3 s.done) (hT : Thg r p x s)
    (hs : r.id.size + r.hold.size + wl r.lines ≤ 1048576 ∧ p.id.size + wv p.levels ≤ 1048576 ∧ wst s ≤ 1048576) :
    Calls Try.prog 5 #[rqV r ao cap, rpV p bo bp, .int .i64 x, sxV s a1 p1 a2 p2 a3 p3] w fun e w' => e = .returned (.bool true) ∧ Below w.heap.size w w' := by
  have lq9 := wl_len2 r.lines
  have lp9 := wv_len p.levels
  have HSt := hid (sx_t hT.s hs.2.2)
  have hlq : r.lines.length ≤ 1000000000000 := by omega
  have hlp : p.levels.length ≤ 1000000000000 := by omega
  have hlx : ShortS s := by
    have g := HSt.out
    exact ⟨by have := g.levels.1; omega, by have := g.holds.1; omega, by have := g.done.1; omega, fun i h => by have := (g.holds.2 _ (List.getElem_mem h)).lines.1; omega, fun i h => by have := (g.done.2 _ (List.getElem_mem h)).req.lines.1; omega⟩
  have HSh := hid hlx
  have Bq := hid (fun hl => rqs_back hT hl)
  have Bp := hid (fun hl => rps_back hT hl)
  have Br := hid (fun hl => rcs_back hT hl)
  have Bs := hid (fun hl => rss_back hT hl)
  clear lq9 lp9 HSt hlx
  obtain ⟨W, hW⟩ : ∃ W, ((w.alloc (.cells #[.string r.id, .int .i64 r.kind, .slice ao r.lines.length cap, .string r.hold, .int .i64 r.ttl, .int .i64 r.now] 28)).alloc (.cells #[.string p.id, .int .i64 p.err, .int .i64 p.line, .slice bo p.levels.length bp, .int .i64 p.now] 32)).alloc (.cells #[.int .i64 s.room, .int .i64 s.lsn, .int .i64 s.now, .slice a1 s.levels.length p1, .slice a2 s.holds.length p2, .slice a3 s.done.length p3] 36) = W := ⟨_, rfl⟩
  have BW := hid (show Below w.heap.size w W by rw [← hW]; exact (((Below.refl _ _).alloc (Nat.le_refl _) _).alloc (by rw [World.size_alloc]; omega) _).alloc (by rw [World.size_alloc, World.size_alloc]; omega) _)
  have zW : W.heap.size = w.heap.size + 3 := by rw [← hW]; simp only [World.size_alloc]
  have R0 : W.heap[w.heap.size]? = some (.cells #[.string r.id, .int .i64 r.kind, .slice ao r.lines.length cap, .string r.hold, .int .i64 r.ttl, .int .i64 r.now] 28 (0, 0)) := by
    rw [← hW, heap_alloc_old _ _ (by simp only [World.size_alloc]; omega), heap_alloc_old _ _ (by simp only [World.size_alloc]; omega)]
    exact heap_alloc_new w _
  have R1 : W.heap[w.heap.size + 1]? = some (.cells #[.string p.id, .int .i64 p.err, .int .i64 p.line, .slice bo p.levels.length bp, .int .i64 p.now] 32 (0, 0)) := by
    rw [← hW, heap_alloc_old _ _ (by simp only [World.size_alloc]; omega)]
    have := heap_alloc_new (w.alloc (.cells #[.string r.id, .int .i64 r.kind, .slice ao r.lines.length cap, .string r.hold, .int .i64 r.ttl, .int .i64 r.now] 28)) (.cells #[.string p.id, .int .i64 p.err, .int .i64 p.line, .slice bo p.levels.length bp, .int .i64 p.now] 32)
    rwa [World.size_alloc] at this
  have R2 : W.heap[w.heap.size + 2]? = some (.cells #[.int .i64 s.room, .int .i64 s.lsn, .int .i64 s.now, .slice a1 s.levels.length p1, .slice a2 s.holds.length p2, .slice a3 s.done.length p3] 36 (0, 0)) := by
    rw [← hW]
    have := heap_alloc_new ((w.alloc (.cells #[.string r.id, .int .i64 r.kind, .slice ao r.lines.length cap, .string r.hold, .int .i64 r.ttl, .int .i64 r.now] 28)).alloc (.cells #[.string p.id, .int .i64 p.err, .int .i64 p.line, .slice bo p.levels.length bp, .int .i64 p.now] 32)) (.cells #[.int .i64 s.room, .int .i64 s.lsn, .int .i64 s.now, .slice a1 s.levels.length p1, .slice a2 s.holds.length p2, .slice a3 s.done.length p3] 36)
    rwa [World.size_alloc, World.size_alloc] at this
  have KK := hid (show ∀ wx : World, Below W.heap.size W wx → wx.cell? ⟨w.heap.size, 0, none⟩ = some (.string r.id) ∧ wx.cell? ⟨w.heap.size, 1, none⟩ = some (.int .i64 r.kind) ∧ wx.cell? ⟨w.heap.size, 2, none⟩ = some (.slice ao r.lines.length cap) ∧ wx.cell? ⟨w.heap.size, 3, none⟩ = some (.string r.hold) ∧ wx.cell? ⟨w.heap.size, 4, none⟩ = some (.int .i64 r.ttl) ∧ wx.cell? ⟨w.heap.size, 5, none⟩ = some (.int .i64 r.now) ∧ wx.cell? ⟨w.heap.size + 1, 0, none⟩ = some (.string p.id) ∧ wx.cell? ⟨w.heap.size + 1, 1, none⟩ = some (.int .i64 p.err) ∧ wx.cell? ⟨w.heap.size + 1, 2, none⟩ = some (.int .i64 p.line) ∧ wx.cell? ⟨w.heap.size + 1, 3, none⟩ = some (.slice bo p.levels.length bp) ∧ wx.cell? ⟨w.heap.size + 1, 4, none⟩ = some (.int .i64 p.now) ∧ wx.cell? ⟨w.heap.size + 2, 0, none⟩ = some (.int .i64 s.room) ∧ wx.cell? ⟨w.heap.size + 2, 1, none⟩ = some (.int .i64 s.lsn) ∧ wx.cell? ⟨w.heap.size + 2, 2, none⟩ = some (.int .i64 s.now) ∧ wx.cell? ⟨w.heap.size + 2, 3, none⟩ = some (.slice a1 s.levels.length p1) ∧ wx.cell? ⟨w.heap.size + 2, 4, none⟩ = some (.slice a2 s.holds.length p2) ∧ wx.cell? ⟨w.heap.size + 2, 5, none⟩ = some (.slice a3 s.done.length p3) from fun wx h => by
    have r0 := (h.block w.heap.size (by omega)).trans R0
    have r1 := (h.block (w.heap.size + 1) (by omega)).trans R1
    have r2 := (h.block (w.heap.size + 2) (by omega)).trans R2
    refine ⟨?_, ?_, ?_, ?_, ?_, ?_, ?_, ?_, ?_, ?_, ?_, ?_, ?_, ?_, ?_, ?_, ?_⟩
    · rw [Lib.cell_of_heap r0]; rfl
    · rw [Lib.cell_of_heap r0]; rfl
    · rw [Lib.cell_of_heap r0]; rfl
    · rw [Lib.cell_of_heap r0]; rfl
    · rw [Lib.cell_of_heap r0]; rfl
    · rw [Lib.cell_of_heap r0]; rfl
    · rw [Lib.cell_of_heap r1]; rfl
    · rw [Lib.cell_of_heap r1]; rfl
    · rw [Lib.cell_of_heap r1]; rfl
    · rw [Lib.cell_of_heap r1]; rfl
    · rw [Lib.cell_of_heap r1]; rfl
    · rw [Lib.cell_of_heap r2]; rfl
    · rw [Lib.cell_of_heap r2]; rfl
    · rw [Lib.cell_of_heap r2]; rfl
    · rw [Lib.cell_of_heap r2]; rfl
    · rw [Lib.cell_of_heap r2]; rfl
    · rw [Lib.cell_of_heap r2]; rfl)
  have HW := hid hW
  have HM := hid (hM.below BW.out)
  have HL := hid (hL.below BW.out)
  have HV := hid (hV.below BW.out)
  have H1 := hid (h1.below BW.out)
  have H2 := hid (h2.below BW.out)
  have H3 := hid (h3.below BW.out)
  clear hW R0 R1 R2 hM hL hV h1 h2 h3
  have lq := wl_len2 r.lines
  have C1 := hid (show ∀ wx : World, Below W.heap.size W wx → Calls Try.prog 10 #[] wx fun e w' => e = .returned (.bool true) ∧ Below W.heap.size W w' from fun wx h => (works_any wx).mono fun e w' g => ⟨g.1, h.trans (g.2.mono h.size)⟩)
  have C2 := hid (show ∀ wx : World, Below W.heap.size W wx → Calls Try.prog 11 #[.agg #[.string r.id, .int .i64 r.kind, .slice ao r.lines.length cap, .string r.hold, .int .i64 r.ttl, .int .i64 r.now]] wx fun e w' => e = .returned (.int .i64 ((r.id.size + r.hold.size + wl r.lines : Nat) : Int)) ∧ Below W.heap.size W w' from fun wx h => (weight_any r ao cap wx (HL.out.below h) (by omega) (by omega)).mono fun e w' g => ⟨g.1, h.trans (g.2.mono h.size)⟩)
  have C3 := hid (show ∀ wx : World, Below W.heap.size W wx → Calls Try.prog 12 #[.agg #[.int .i64 s.room, .int .i64 s.lsn, .int .i64 s.now, .slice a1 s.levels.length p1, .slice a2 s.holds.length p2, .slice a3 s.done.length p3]] wx fun e w' => e = .returned (.int .i64 ((wst s : Nat) : Int)) ∧ Below W.heap.size W w' from fun wx h => (bulk_any s a1 p1 a2 p2 a3 p3 wx (H1.out.below h) (H2.out.below h) (H3.out.below h) (by omega)).mono fun e w' g => ⟨g.1, h.trans (g.2.mono h.size)⟩)
  have C4 := hid (show ∀ wx : World, Below W.heap.size W wx → Calls Try.prog 12 #[.agg #[.int .i64 0, .int .i64 0, .int .i64 0, .slice bo p.levels.length bp, .slice none 0 0, .slice none 0 0]] wx fun e w' => e = .returned (.int .i64 ((wv p.levels : Nat) : Int)) ∧ Below W.heap.size W w' from fun wx h => by
    have e : wst ⟨0, 0, 0, p.levels, [], []⟩ = wv p.levels := by simp [wst, wh, wd]
    have := bulk_any ⟨0, 0, 0, p.levels, [], []⟩ bo bp none 0 none 0 wx (HV.out.below h) (fun j hj => by simp at hj) (fun j hj => by simp at hj) (by rw [e]; omega)
    rw [e] at this
    exact this.mono fun e w' g => ⟨g.1, h.trans (g.2.mono h.size)⟩)
  have hN1 : decide ((1048576 : Int) < ((r.id.size + r.hold.size + wl r.lines : Nat) : Int)) = false := decide_eq_false (by omega)
  have hN2 : decide ((1048576 : Int) < ((wst s : Nat) : Int)) = false := decide_eq_false (by omega)
  have hN4 : wv p.levels + p.id.size ≤ 1048576 := by omega
  clear hT lq hs
  generalize r.id.size + r.hold.size + wl r.lines = n1 at *
  generalize wst s = n2 at *
  generalize wv p.levels = n3 at *
  have s00 : Below W.heap.size W W := Below.refl _ _
  have s0 : Below W.heap.size W W.drew := (Below.refl _ _).drew
  unfold rqV rpV sxV
  obtain ⟨Fq, Eq, Mq, Xq⟩ : ∃ (f : Prop) (e : Int) (M : List UInt8), (f → e = 0 ∧ M.length ≤ 4096 ∧ rqs M = (0, 0, r)) ∧ (¬ f → e = 1 ∧ M = []) ∧ ∀ wx : World, Below W.heap.size W wx → Calls Try.prog 15 #[.agg #[.string r.id, .int .i64 r.kind, .slice ao r.lines.length cap, .string r.hold, .int .i64 r.ttl, .int .i64 r.now]] wx fun e' w' => ∃ v', e' = .returned (.tuple #[v', .int .i64 e]) ∧ Reads w' v' M ∧ Below W.heap.size W w' ∧ Below wx.heap.size wx w' := by
    refine ⟨(81 :: rqB r).length ≤ 4096, if (81 :: rqB r).length ≤ 4096 then 0 else 1, if (81 :: rqB r).length ≤ 4096 then 81 :: rqB r else [], fun hf => ?_, fun hf => ?_, fun wx h => ?_⟩
    · rw [if_pos hf, if_pos hf]
      exact ⟨rfl, hf, Bq.out hf⟩
    · rw [if_neg hf, if_neg hf]
      exact ⟨rfl, rfl⟩
    · refine (putRequest_any r ao cap wx (HM.out.below h).f0 (HM.out.below h).f1).mono ?_
      rintro e w' ⟨v', rfl, ho, hb⟩
      exact ⟨v', rfl, ho.reads, h.trans (hb.mono h.size), hb⟩
  have Yq := hid Xq.1
  have Nq := hid Xq.2.1
  have Pq := hid Xq.2.2
  clear Xq Bq
  obtain ⟨Fp, Ep, Mp, Xp⟩ : ∃ (f : Prop) (e : Int) (M : List UInt8), (f → e = 0 ∧ M.length ≤ 4096 ∧ rps M = (0, 0, p)) ∧ (¬ f → e = 1 ∧ M = []) ∧ ∀ wx : World, Below W.heap.size W wx → Calls Try.prog 18 #[.agg #[.string p.id, .int .i64 p.err, .int .i64 p.line, .slice bo p.levels.length bp, .int .i64 p.now]] wx fun e' w' => ∃ v', e' = .returned (.tuple #[v', .int .i64 e]) ∧ Reads w' v' M ∧ Below W.heap.size W w' ∧ Below wx.heap.size wx w' := by
    refine ⟨(82 :: rpB p).length ≤ 4096, if (82 :: rpB p).length ≤ 4096 then 0 else 1, if (82 :: rpB p).length ≤ 4096 then 82 :: rpB p else [], fun hf => ?_, fun hf => ?_, fun wx h => ?_⟩
    · rw [if_pos hf, if_pos hf]
      exact ⟨rfl, hf, Bp.out hf⟩
    · rw [if_neg hf, if_neg hf]
      exact ⟨rfl, rfl⟩
    · refine (putReply_any p bo bp wx (HM.out.below h).f2 (HM.out.below h).f3).mono ?_
      rintro e w' ⟨v', rfl, ho, hb⟩
      exact ⟨v', rfl, ho.reads, h.trans (hb.mono h.size), hb⟩
  have Yp := hid Xp.1
  have Np := hid Xp.2.1
  have Pp := hid Xp.2.2
  clear Xp Bp
  obtain ⟨Fr, Er, Mr, Xr⟩ : ∃ (f : Prop) (e : Int) (M : List UInt8), (f → e = 0 ∧ M.length ≤ 4096 ∧ rcs M = (0, 0, (x, r))) ∧ (¬ f → e = 1 ∧ M = []) ∧ ∀ wx : World, Below W.heap.size W wx → Calls Try.prog 21 #[.agg #[.int .i64 x, .string r.id, .int .i64 r.kind, .slice ao r.lines.length cap, .string r.hold, .int .i64 r.ttl, .int .i64 r.now]] wx fun e' w' => ∃ v', e' = .returned (.tuple #[v', .int .i64 e]) ∧ Reads w' v' M ∧ Below W.heap.size W w' ∧ Below wx.heap.size wx w' := by
    refine ⟨(83 :: (grp (foldI x) ++ rqB r)).length ≤ 4096, if (83 :: (grp (foldI x) ++ rqB r)).length ≤ 4096 then 0 else 1, if (83 :: (grp (foldI x) ++ rqB r)).length ≤ 4096 then 83 :: (grp (foldI x) ++ rqB r) else [], fun hf => ?_, fun hf => ?_, fun wx h => ?_⟩
    · rw [if_pos hf, if_pos hf]
      exact ⟨rfl, hf, Br.out hf⟩
    · rw [if_neg hf, if_neg hf]
      exact ⟨rfl, rfl⟩
    · refine (putRecord_any x r ao cap wx (HM.out.below h).f4.1 (HM.out.below h).f4.2 (HM.out.below h).f0 (HM.out.below h).f1).mono ?_
      rintro e w' ⟨v', rfl, ho, hb⟩
      exact ⟨v', rfl, ho.reads, h.trans (hb.mono h.size), hb⟩
  have Yr := hid Xr.1
  have Nr := hid Xr.2.1
  have Pr := hid Xr.2.2
  clear Xr Br
  obtain ⟨Fs, Es, Ms, Xs⟩ : ∃ (f : Prop) (e : Int) (M : List UInt8), (f → e = 0 ∧ M.length ≤ 131072 ∧ rss M = (0, 0, s)) ∧ (¬ f → e = 1 ∧ M = []) ∧ ∀ wx : World, Below W.heap.size W wx → Calls Try.prog 24 #[.agg #[.int .i64 s.room, .int .i64 s.lsn, .int .i64 s.now, .slice a1 s.levels.length p1, .slice a2 s.holds.length p2, .slice a3 s.done.length p3]] wx fun e' w' => ∃ v', e' = .returned (.tuple #[v', .int .i64 e]) ∧ Reads w' v' M ∧ Below W.heap.size W w' ∧ Below wx.heap.size wx w' := by
    refine ⟨(84 :: sxB s).length ≤ 131072, if (84 :: sxB s).length ≤ 131072 then 0 else 1, if (84 :: sxB s).length ≤ 131072 then 84 :: sxB s else [], fun hf => ?_, fun hf => ?_, fun wx h => ?_⟩
    · rw [if_pos hf, if_pos hf]
      exact ⟨rfl, hf, Bs.out hf⟩
    · rw [if_neg hf, if_neg hf]
      exact ⟨rfl, rfl⟩
    · refine (putState_any s a1 a2 a3 p1 p2 p3 wx (HM.out.below h).f5 (HM.out.below h).f6 (HM.out.below h).f7 (HM.out.below h).f8).mono ?_
      rintro e w' ⟨v', rfl, ho, hb⟩
      exact ⟨v', rfl, ho.reads, h.trans (hb.mono h.size), hb⟩
  have Ys := hid Xs.1
  have Ns := hid Xs.2.1
  have Ps := hid Xs.2.2
  clear Xs Bs
  clear HM
  go_enter Try.func5, Try.ntmps5
  go_upto_region 1 with fail
  rw [HW.out]
  go_cut [40] from 18 to 40 (fun v9 wx => v9 = .bool false ∧ Below W.heap.size W wx)
  case first =>
    go_region_held3 (fun wx => wx.cell? ⟨w.heap.size, 0, none⟩ = some (.string r.id) ∧ wx.cell? ⟨w.heap.size, 1, none⟩ = some (.int .i64 r.kind) ∧ wx.cell? ⟨w.heap.size, 2, none⟩ = some (.slice ao r.lines.length cap) ∧ wx.cell? ⟨w.heap.size, 3, none⟩ = some (.string r.hold) ∧ wx.cell? ⟨w.heap.size, 4, none⟩ = some (.int .i64 r.ttl) ∧ wx.cell? ⟨w.heap.size, 5, none⟩ = some (.int .i64 r.now) ∧ wx.cell? ⟨w.heap.size + 1, 0, none⟩ = some (.string p.id) ∧ wx.cell? ⟨w.heap.size + 1, 1, none⟩ = some (.int .i64 p.err) ∧ wx.cell? ⟨w.heap.size + 1, 2, none⟩ = some (.int .i64 p.line) ∧ wx.cell? ⟨w.heap.size + 1, 3, none⟩ = some (.slice bo p.levels.length bp) ∧ wx.cell? ⟨w.heap.size + 1, 4, none⟩ = some (.int .i64 p.now) ∧ wx.cell? ⟨w.heap.size + 2, 0, none⟩ = some (.int .i64 s.room) ∧ wx.cell? ⟨w.heap.size + 2, 1, none⟩ = some (.int .i64 s.lsn) ∧ wx.cell? ⟨w.heap.size + 2, 2, none⟩ = some (.int .i64 s.now) ∧ wx.cell? ⟨w.heap.size + 2, 3, none⟩ = some (.slice a1 s.levels.length p1) ∧ wx.cell? ⟨w.heap.size + 2, 4, none⟩ = some (.slice a2 s.holds.length p2) ∧ wx.cell? ⟨w.heap.size + 2, 5, none⟩ = some (.slice a3 s.done.length p3)) (exact KK.out _ (by assumption)) (first
      | (go_at_call 10; refine (C1.out _ (by assumption)).mono ?_; rintro e w1 ⟨rfl, s1⟩)
      | (go_at_call 11; refine (C2.out _ (by assumption)).mono ?_; rintro e w2 ⟨rfl, s2⟩)
      | (go_at_call 12; have g3 := s3; clear g3; refine (C4.out _ (by assumption)).mono ?_; rintro e w4 ⟨rfl, s4⟩)
      | (go_at_call 12; refine (C3.out _ (by assumption)).mono ?_; rintro e w3 ⟨rfl, s3⟩))
    all_goals (go_wp2_with fail; go_meet; exact ⟨congrArg _ (decide_eq_false (by rw [IntKind.wrap_i64]; omega)), s4⟩)
  case rest =>
    obtain ⟨rfl, hbc⟩ := hcut
    have HB0 := hid hbc
    clear hbc C1 C2 C3 C4 hN1 hN2 hN4 s00 s0 HW
    generalize wc = y1 at *
    obtain ⟨c0, c1, c2, c3, c4, c5, c6, c7, c8, c9, c10, c11, c12, c13, c14, c15, c16⟩ := KK.out _ HB0.out
    have HP := hid (Pq.out _ HB0.out)
    go_wp2_with fail
    refine Calls.mono HP.out ?_
    rintro e w1 ⟨v1, rfl, hr1, hb1, hx1⟩
    have HR := hid (request_any Mq v1 w1 hr1)
    unfold Rdq at HR
    obtain ⟨⟨ee, ep, q⟩, hqe⟩ : ∃ z, rqs Mq = z := ⟨_, rfl⟩
    rw [hqe] at HR
    have HQ := hid hqe
    obtain ⟨vo, vp, rfl⟩ := hr1.form
    have B1 := hid hb1
    clear hqe hr1 hb1 hx1 HP c0 c1 c2 c3 c4 c5 c6 c7 c8 c9 c10 c11 c12 c13 c14 c15 c16
    go_wp2_with fail
    refine Calls.mono HR.out ?_
    rintro e w2 ⟨v2, rfl, ho2, hb2⟩
    have r1 := ho2.reads
    obtain ⟨xo, xp, rfl⟩ := r1.form
    clear ho2
    obtain ⟨W3, hW3⟩ : ∃ W3, w2.alloc (.cells #[.string q.id, .int .i64 q.kind, .slice xo q.lines.length xp, .string q.hold, .int .i64 q.ttl, .int .i64 q.now] 28) = W3 := ⟨_, rfl⟩
    have Rd := hid (show W3.heap[w2.heap.size]? = some (.cells #[.string q.id, .int .i64 q.kind, .slice xo q.lines.length xp, .string q.hold, .int .i64 q.ttl, .int .i64 q.now] 28 (0, 0)) by rw [← hW3]; exact heap_alloc_new w2 _)
    have b3 : Below w2.heap.size w2 W3 := by rw [← hW3]; exact (Below.refl _ _).alloc (Nat.le_refl _) _
    have B2 := B1.out.trans (hb2.mono B1.out.size)
    have B3 := hid (B2.trans (b3.mono B2.size))
    have r1' := hid (r1.below b3)
    have HW3 := hid hW3
    clear hW3 b3 B2 hb2 r1 HR B1
    unfold rqC
    go_upto_region 5 with fail
    rw [HW3.out]
    go_cut [86] from 53 to 86 (fun v9 wx => v9 = .bool false ∧ Below W.heap.size W wx)
    case first =>
      by_cases hf : Fq
      · obtain ⟨rfl, hl, hqq⟩ := Yq.out hf
        rw [HQ.out] at hqq
        obtain ⟨rfl, rfl, e3⟩ : ee = 0 ∧ ep = 0 ∧ r = q := by injection hqq with h1 h2; injection h2 with h2 h3; exact ⟨h1, h2, h3.symm⟩
        subst e3
        clear hqq HQ
        obtain ⟨c0, c1, c2, c3, c4, c5, c6, c7, c8, c9, c10, c11, c12, c13, c14, c15, c16⟩ := KK.out _ B3.out
        have d0 : W3.cell? ⟨w2.heap.size, 0, none⟩ = some (.string r.id) := by rw [Lib.cell_of_heap Rd.out]; rfl
        have d1 : W3.cell? ⟨w2.heap.size, 1, none⟩ = some (.int .i64 r.kind) := by rw [Lib.cell_of_heap Rd.out]; rfl
        have d2 : W3.cell? ⟨w2.heap.size, 2, none⟩ = some (.slice xo r.lines.length xp) := by rw [Lib.cell_of_heap Rd.out]; rfl
        have d3 : W3.cell? ⟨w2.heap.size, 3, none⟩ = some (.string r.hold) := by rw [Lib.cell_of_heap Rd.out]; rfl
        have d4 : W3.cell? ⟨w2.heap.size, 4, none⟩ = some (.int .i64 r.ttl) := by rw [Lib.cell_of_heap Rd.out]; rfl
        have d5 : W3.cell? ⟨w2.heap.size, 5, none⟩ = some (.int .i64 r.now) := by rw [Lib.cell_of_heap Rd.out]; rfl
        have HS := hid (sameRequest_any r _ _ W3 r1'.out (HL.out.below B3.out) hlq)
        unfold rqC at HS
        clear Rd
        go_wp2_with fail
        refine Calls.mono HS.out ?_
        rintro e w4 ⟨rfl, hb4⟩
        have B4 := hid (B3.out.trans (hb4.mono B3.out.size))
        clear hb4 HS c0 c1 c2 c3 c4 c5 c6 c7 c8 c9 c10 c11 c12 c13 c14 c15 c16
        have hl' : (Mq.length : Int) ≤ 4096 := by omega
        go_wp2_with fail
        go_meet
        exact ⟨congrArg _ (decide_eq_false (by omega)), B4.out⟩
      · obtain ⟨rfl, rfl⟩ := Nq.out hf
        go_wp2_with fail
        go_meet
        exact ⟨rfl, B3.out⟩
    case rest =>
      obtain ⟨rfl, hbc⟩ := hcut
      have HB1 := hid hbc
      clear hbc Rd B3 HW3 r1' HQ Yq Nq Pq
      generalize wc = y2 at *
      obtain ⟨c0, c1, c2, c3, c4, c5, c6, c7, c8, c9, c10, c11, c12, c13, c14, c15, c16⟩ := KK.out _ HB1.out
      have HP := hid (Pp.out _ HB1.out)
      go_wp2_with fail
      refine Calls.mono HP.out ?_
      rintro e w1 ⟨v1, rfl, hr1, hb1, hx1⟩
      have HR := hid (reply_any Mp v1 w1 hr1)
      unfold Rdp at HR
      obtain ⟨⟨ee, ep, q⟩, hqe⟩ : ∃ z, rps Mp = z := ⟨_, rfl⟩
      rw [hqe] at HR
      have HQ := hid hqe
      obtain ⟨vo, vp, rfl⟩ := hr1.form
      have B1 := hid hb1
      clear hqe hr1 hb1 hx1 HP c0 c1 c2 c3 c4 c5 c6 c7 c8 c9 c10 c11 c12 c13 c14 c15 c16
      go_wp2_with fail
      refine Calls.mono HR.out ?_
      rintro e w2 ⟨v2, rfl, ho2, hb2⟩
      have r1 := ho2.reads
      obtain ⟨xo, xp, rfl⟩ := r1.form
      clear ho2
      obtain ⟨W3, hW3⟩ : ∃ W3, w2.alloc (.cells #[.string q.id, .int .i64 q.err, .int .i64 q.line, .slice xo q.levels.length xp, .int .i64 q.now] 32) = W3 := ⟨_, rfl⟩
      have Rd := hid (show W3.heap[w2.heap.size]? = some (.cells #[.string q.id, .int .i64 q.err, .int .i64 q.line, .slice xo q.levels.length xp, .int .i64 q.now] 32 (0, 0)) by rw [← hW3]; exact heap_alloc_new w2 _)
      have b3 : Below w2.heap.size w2 W3 := by rw [← hW3]; exact (Below.refl _ _).alloc (Nat.le_refl _) _
      have B2 := B1.out.trans (hb2.mono B1.out.size)
      have B3 := hid (B2.trans (b3.mono B2.size))
      have r1' := hid (r1.below b3)
      have HW3 := hid hW3
      clear hW3 b3 B2 hb2 r1 HR B1
      unfold rpC
      go_upto_region 9 with fail
      rw [HW3.out]
      go_cut [131] from 98 to 131 (fun v9 wx => v9 = .bool false ∧ Below W.heap.size W wx)
      case first =>
        by_cases hf : Fp
        · obtain ⟨rfl, hl, hqq⟩ := Yp.out hf
          rw [HQ.out] at hqq
          obtain ⟨rfl, rfl, e3⟩ : ee = 0 ∧ ep = 0 ∧ p = q := by injection hqq with h1 h2; injection h2 with h2 h3; exact ⟨h1, h2, h3.symm⟩
          subst e3
          clear hqq HQ
          obtain ⟨c0, c1, c2, c3, c4, c5, c6, c7, c8, c9, c10, c11, c12, c13, c14, c15, c16⟩ := KK.out _ B3.out
          have d0 : W3.cell? ⟨w2.heap.size, 0, none⟩ = some (.string p.id) := by rw [Lib.cell_of_heap Rd.out]; rfl
          have d1 : W3.cell? ⟨w2.heap.size, 1, none⟩ = some (.int .i64 p.err) := by rw [Lib.cell_of_heap Rd.out]; rfl
          have d2 : W3.cell? ⟨w2.heap.size, 2, none⟩ = some (.int .i64 p.line) := by rw [Lib.cell_of_heap Rd.out]; rfl
          have d3 : W3.cell? ⟨w2.heap.size, 3, none⟩ = some (.slice xo p.levels.length xp) := by rw [Lib.cell_of_heap Rd.out]; rfl
          have d4 : W3.cell? ⟨w2.heap.size, 4, none⟩ = some (.int .i64 p.now) := by rw [Lib.cell_of_heap Rd.out]; rfl
          have HS := hid (sameReply_any p _ _ W3 r1'.out (HV.out.below B3.out) hlp)
          unfold rpC at HS
          clear Rd
          go_wp2_with fail
          refine Calls.mono HS.out ?_
          rintro e w4 ⟨rfl, hb4⟩
          have B4 := hid (B3.out.trans (hb4.mono B3.out.size))
          clear hb4 HS c0 c1 c2 c3 c4 c5 c6 c7 c8 c9 c10 c11 c12 c13 c14 c15 c16
          have hl' : (Mp.length : Int) ≤ 4096 := by omega
          go_wp2_with fail
          go_meet
          exact ⟨congrArg _ (decide_eq_false (by omega)), B4.out⟩
        · obtain ⟨rfl, rfl⟩ := Np.out hf
          go_wp2_with fail
          go_meet
          exact ⟨rfl, B3.out⟩
      case rest =>
        obtain ⟨rfl, hbc⟩ := hcut
        have HB2 := hid hbc
        clear hbc Rd B3 HW3 r1' HQ Yp Np Pp
        generalize wc = y3 at *
        obtain ⟨c0, c1, c2, c3, c4, c5, c6, c7, c8, c9, c10, c11, c12, c13, c14, c15, c16⟩ := KK.out _ HB2.out
        obtain ⟨Wr, hWr⟩ : ∃ Wr, y3.alloc (.cells #[.int .i64 x, .string r.id, .int .i64 r.kind, .slice ao r.lines.length cap, .string r.hold, .int .i64 r.ttl, .int .i64 r.now] 53) = Wr := ⟨_, rfl⟩
        have Re := hid (show Wr.heap[y3.heap.size]? = some (.cells #[.int .i64 x, .string r.id, .int .i64 r.kind, .slice ao r.lines.length cap, .string r.hold, .int .i64 r.ttl, .int .i64 r.now] 53 (0, 0)) by rw [← hWr]; exact heap_alloc_new y3 _)
        have br : Below y3.heap.size y3 Wr := by rw [← hWr]; exact (Below.refl _ _).alloc (Nat.le_refl _) _
        have zr : Wr.heap.size = y3.heap.size + 1 := by rw [← hWr, World.size_alloc]
        have HBr := hid (HB2.out.trans (br.mono HB2.out.size))
        have HP := hid (Pr.out Wr HBr.out)
        have HWr := hid hWr
        clear hWr br
        go_wp2_with fail
        rw [HWr.out]
        refine Calls.mono HP.out ?_
        rintro e w1 ⟨v1, rfl, hr1, hb1, hx1⟩
        have HR := hid (record_any Mr v1 w1 hr1)
        unfold Rdr at HR
        obtain ⟨⟨ee, ep, q⟩, hqe⟩ : ∃ z, rcs Mr = z := ⟨_, rfl⟩
        rw [hqe] at HR
        have HQ := hid hqe
        obtain ⟨vo, vp, rfl⟩ := hr1.form
        have B1 := hid hb1
        have z1 : Wr.heap.size ≤ w1.heap.size ∧ w1.heap[y3.heap.size]? = some (.cells #[.int .i64 x, .string r.id, .int .i64 r.kind, .slice ao r.lines.length cap, .string r.hold, .int .i64 r.ttl, .int .i64 r.now] 53 (0, 0)) := ⟨hx1.size, (hx1.block y3.heap.size (by omega)).trans Re.out⟩
        clear hqe hr1 hb1 hx1 HP c0 c1 c2 c3 c4 c5 c6 c7 c8 c9 c10 c11 c12 c13 c14 c15 c16
        go_wp2_with fail
        refine Calls.mono HR.out ?_
        rintro e w2 ⟨v2, rfl, ho2, hb2⟩
        have r1 := ho2.reads
        obtain ⟨xo, xp, rfl⟩ := r1.form
        clear ho2
        obtain ⟨W3, hW3⟩ : ∃ W3, w2.alloc (.cells #[.int .i64 q.1, .string q.2.id, .int .i64 q.2.kind, .slice xo q.2.lines.length xp, .string q.2.hold, .int .i64 q.2.ttl, .int .i64 q.2.now] 53) = W3 := ⟨_, rfl⟩
        have Rd := hid (show W3.heap[w2.heap.size]? = some (.cells #[.int .i64 q.1, .string q.2.id, .int .i64 q.2.kind, .slice xo q.2.lines.length xp, .string q.2.hold, .int .i64 q.2.ttl, .int .i64 q.2.now] 53 (0, 0)) by rw [← hW3]; exact heap_alloc_new w2 _)
        have b3 : Below w2.heap.size w2 W3 := by rw [← hW3]; exact (Below.refl _ _).alloc (Nat.le_refl _) _
        have B2 := B1.out.trans (hb2.mono B1.out.size)
        have B3 := hid (B2.trans (b3.mono B2.size))
        have r1' := hid (r1.below b3)
        have Rf := hid ((b3.block y3.heap.size (by have := hb2.size; omega)).trans ((hb2.block y3.heap.size (by omega)).trans z1.2))
        have HW3 := hid hW3
        clear hW3 b3 B2 hb2 r1 HR B1 z1
        unfold rcC
        go_upto_region 14 with fail
        rw [HW3.out]
        go_cut [179] from 146 to 179 (fun v9 wx => v9 = .bool false ∧ Below W.heap.size W wx)
        case first =>
          by_cases hf : Fr
          · obtain ⟨rfl, hl, hqq⟩ := Yr.out hf
            rw [HQ.out] at hqq
            obtain ⟨rfl, rfl, e3⟩ : ee = 0 ∧ ep = 0 ∧ (x, r) = q := by injection hqq with h1 h2; injection h2 with h2 h3; exact ⟨h1, h2, h3.symm⟩
            subst e3
            clear hqq HQ
            obtain ⟨c0, c1, c2, c3, c4, c5, c6, c7, c8, c9, c10, c11, c12, c13, c14, c15, c16⟩ := KK.out _ B3.out
            have d0 : W3.cell? ⟨w2.heap.size, 0, none⟩ = some (.int .i64 x) := by rw [Lib.cell_of_heap Rd.out]; rfl
            have d1 : W3.cell? ⟨w2.heap.size, 1, none⟩ = some (.string r.id) := by rw [Lib.cell_of_heap Rd.out]; rfl
            have d2 : W3.cell? ⟨w2.heap.size, 2, none⟩ = some (.int .i64 r.kind) := by rw [Lib.cell_of_heap Rd.out]; rfl
            have d3 : W3.cell? ⟨w2.heap.size, 3, none⟩ = some (.slice xo r.lines.length xp) := by rw [Lib.cell_of_heap Rd.out]; rfl
            have d4 : W3.cell? ⟨w2.heap.size, 4, none⟩ = some (.string r.hold) := by rw [Lib.cell_of_heap Rd.out]; rfl
            have d5 : W3.cell? ⟨w2.heap.size, 5, none⟩ = some (.int .i64 r.ttl) := by rw [Lib.cell_of_heap Rd.out]; rfl
            have d6 : W3.cell? ⟨w2.heap.size, 6, none⟩ = some (.int .i64 r.now) := by rw [Lib.cell_of_heap Rd.out]; rfl
            have f0 : W3.cell? ⟨y3.heap.size, 0, none⟩ = some (.int .i64 x) := by rw [Lib.cell_of_heap Rf.out]; rfl
            have f1 : W3.cell? ⟨y3.heap.size, 1, none⟩ = some (.string r.id) := by rw [Lib.cell_of_heap Rf.out]; rfl
            have f2 : W3.cell? ⟨y3.heap.size, 2, none⟩ = some (.int .i64 r.kind) := by rw [Lib.cell_of_heap Rf.out]; rfl
            have f3 : W3.cell? ⟨y3.heap.size, 3, none⟩ = some (.slice ao r.lines.length cap) := by rw [Lib.cell_of_heap Rf.out]; rfl
            have f4 : W3.cell? ⟨y3.heap.size, 4, none⟩ = some (.string r.hold) := by rw [Lib.cell_of_heap Rf.out]; rfl
            have f5 : W3.cell? ⟨y3.heap.size, 5, none⟩ = some (.int .i64 r.ttl) := by rw [Lib.cell_of_heap Rf.out]; rfl
            have f6 : W3.cell? ⟨y3.heap.size, 6, none⟩ = some (.int .i64 r.now) := by rw [Lib.cell_of_heap Rf.out]; rfl
            have HS := hid (sameRecord_any x r _ _ W3 r1'.out (HL.out.below B3.out) hlq)
            unfold rcC at HS
            clear Rd
            go_wp2_with fail
            refine Calls.mono HS.out ?_
            rintro e w4 ⟨rfl, hb4⟩
            have B4 := hid (B3.out.trans (hb4.mono B3.out.size))
            clear hb4 HS c0 c1 c2 c3 c4 c5 c6 c7 c8 c9 c10 c11 c12 c13 c14 c15 c16
            have hl' : (Mr.length : Int) ≤ 4096 := by omega
            go_wp2_with fail
            go_meet
            exact ⟨congrArg _ (decide_eq_false (by omega)), B4.out⟩
          · obtain ⟨rfl, rfl⟩ := Nr.out hf
            go_wp2_with fail
            go_meet
            exact ⟨rfl, B3.out⟩
        case rest =>
          obtain ⟨rfl, hbc⟩ := hcut
          have HB3 := hid hbc
          clear hbc Rd B3 HW3 r1' HQ Yr Nr Pr HBr Re Rf HWr
          generalize wc = y4 at *
          obtain ⟨c0, c1, c2, c3, c4, c5, c6, c7, c8, c9, c10, c11, c12, c13, c14, c15, c16⟩ := KK.out _ HB3.out
          have HP := hid (Ps.out _ HB3.out)
          go_wp2_with fail
          refine Calls.mono HP.out ?_
          rintro e w1 ⟨v1, rfl, hr1, hb1, hx1⟩
          have HR := hid (state_any Ms v1 w1 hr1)
          unfold Rds at HR
          obtain ⟨⟨ee, ep, q⟩, hqe⟩ : ∃ z, rss Ms = z := ⟨_, rfl⟩
          rw [hqe] at HR
          have HQ := hid hqe
          obtain ⟨vo, vp, rfl⟩ := hr1.form
          have B1 := hid hb1
          clear hqe hr1 hb1 hx1 HP c0 c1 c2 c3 c4 c5 c6 c7 c8 c9 c10 c11 c12 c13 c14 c15 c16
          go_wp2_with fail
          refine Calls.mono HR.out ?_
          rintro e w2 ⟨v2, v3, v4, rfl, ho2, hb2⟩
          obtain ⟨o1, o2, o3⟩ := ho2
          have r1 := o1.reads
          obtain ⟨xo, xp, rfl⟩ := r1.form
          obtain ⟨yo, yp, rfl⟩ : ∃ a c, v3 = .slice a _ c := by obtain ⟨_, _, h, _⟩ := o2; exact row_form9 h
          obtain ⟨zo, zp, rfl⟩ : ∃ a c, v4 = .slice a _ c := by obtain ⟨_, _, h, _⟩ := o3; exact row_form9 h
          have r2 := o2.rd
          have r3 := o3.rd
          clear o1 o2 o3
          obtain ⟨W3, hW3⟩ : ∃ W3, w2.alloc (.cells #[.int .i64 q.room, .int .i64 q.lsn, .int .i64 q.now, .slice xo q.levels.length xp, .slice yo q.holds.length yp, .slice zo q.done.length zp] 36) = W3 := ⟨_, rfl⟩
          have Rd := hid (show W3.heap[w2.heap.size]? = some (.cells #[.int .i64 q.room, .int .i64 q.lsn, .int .i64 q.now, .slice xo q.levels.length xp, .slice yo q.holds.length yp, .slice zo q.done.length zp] 36 (0, 0)) by rw [← hW3]; exact heap_alloc_new w2 _)
          have b3 : Below w2.heap.size w2 W3 := by rw [← hW3]; exact (Below.refl _ _).alloc (Nat.le_refl _) _
          have B2 := B1.out.trans (hb2.mono B1.out.size)
          have B3 := hid (B2.trans (b3.mono B2.size))
          have r1' := hid (r1.below b3)
          have r2' := hid (r2.below b3)
          have r3' := hid (r3.below b3)
          have HW3 := hid hW3
          clear hW3 b3 B2 hb2 r1 r2 r3 HR B1
          unfold sxC
          go_upto_region 18 with fail
          rw [HW3.out]
          by_cases hf : Fs
          · obtain ⟨rfl, hl, hqq⟩ := Ys.out hf
            rw [HQ.out] at hqq
            obtain ⟨rfl, rfl, e3⟩ : ee = 0 ∧ ep = 0 ∧ s = q := by injection hqq with h1 h2; injection h2 with h2 h3; exact ⟨h1, h2, h3.symm⟩
            subst e3
            clear hqq HQ
            obtain ⟨c0, c1, c2, c3, c4, c5, c6, c7, c8, c9, c10, c11, c12, c13, c14, c15, c16⟩ := KK.out _ B3.out
            have d0 : W3.cell? ⟨w2.heap.size, 0, none⟩ = some (.int .i64 s.room) := by rw [Lib.cell_of_heap Rd.out]; rfl
            have d1 : W3.cell? ⟨w2.heap.size, 1, none⟩ = some (.int .i64 s.lsn) := by rw [Lib.cell_of_heap Rd.out]; rfl
            have d2 : W3.cell? ⟨w2.heap.size, 2, none⟩ = some (.int .i64 s.now) := by rw [Lib.cell_of_heap Rd.out]; rfl
            have d3 : W3.cell? ⟨w2.heap.size, 3, none⟩ = some (.slice xo s.levels.length xp) := by rw [Lib.cell_of_heap Rd.out]; rfl
            have d4 : W3.cell? ⟨w2.heap.size, 4, none⟩ = some (.slice yo s.holds.length yp) := by rw [Lib.cell_of_heap Rd.out]; rfl
            have d5 : W3.cell? ⟨w2.heap.size, 5, none⟩ = some (.slice zo s.done.length zp) := by rw [Lib.cell_of_heap Rd.out]; rfl
            have HS := hid (sameState_any s xo xp yo yp zo zp a1 p1 a2 p2 a3 p3 W3 r1'.out r2'.out r3'.out (H1.out.below B3.out) (H2.out.below B3.out) (H3.out.below B3.out) HSh.out)
            unfold sxV at HS
            clear Rd
            go_wp2_with fail
            refine Calls.mono HS.out ?_
            rintro e w4 ⟨rfl, hb4⟩
            have B4 := hid (B3.out.trans (hb4.mono B3.out.size))
            clear hb4 HS c0 c1 c2 c3 c4 c5 c6 c7 c8 c9 c10 c11 c12 c13 c14 c15 c16
            have hl' : (Ms.length : Int) ≤ 131072 := by omega
            go_wp2
            go_ret
            exact ⟨rfl, BW.out.trans (B4.out.mono BW.out.size)⟩
          · obtain ⟨rfl, rfl⟩ := Ns.out hf
            go_wp2
            go_ret
            exact ⟨rfl, BW.out.trans (B3.out.mono BW.out.size)⟩
end Go.Proofs.Ytfhicemfhkhjaaa
