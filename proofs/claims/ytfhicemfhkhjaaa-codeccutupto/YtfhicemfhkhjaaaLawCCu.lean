/-
  CodecCut: the law's own walk. Laid by mkccu.py.
-/
import Derived.Test.YtfhicemfhkhjaaaCu2
import Derived.Deep.RegionHeld3
import Derived.Deep.CutRange
namespace Go.Proofs.Ytfhicemfhkhjaaa
open Go.RowKit
set_option maxRecDepth 100000

theorem wrB_pos (m : Nat) (r : Rq) (p : Ry) (x : Int) (s : Sx) : 0 < (wrB m r p x s).length := by
  unfold wrB
  split
  · simp
  split
  · simp
  split
  · simp
  · simp
theorem wrM_le (m : Nat) : wrM m ≤ 131072 := by
  unfold wrM
  split <;> omega
theorem reads_take {w : World} {g n cp : Nat} {l : List UInt8} (h : Reads w (.slice (some ⟨g, 0, none⟩) n cp) l) (k : Nat) (hk : k ≤ l.length) : Reads w (.slice (some ⟨g, 0, none⟩) k cp) (l.take k) := by
  have e : (l.take k).length = k := by rw [List.length_take]; omega
  rcases h with ⟨rfl, ao, cap, hv, hn⟩ | ⟨b, off, cap, hv, hl, hc⟩
  · simp at hk
    subst hk
    exact .inl ⟨by simp, _, cp, rfl, fun e => by cases e⟩
  · cases hv
    exact .inr ⟨g, 0, cp, by rw [e], by omega, fun j hj => by rw [List.getElem_take]; exact hc j (by omega)⟩
set_option maxHeartbeats 8000000 in
theorem codecCut_any (which : Int) (r : Rq) (ao : Option Addr) (cap : Nat) (p : Ry) (bo : Option Addr) (bp : Nat) (x : Int) (s : Sx) (a1 : Option Addr) (p1 : Nat) (a2 : Option Addr) (p2 : Nat) (a3 : Option Addr) (p3 : Nat) (cut : Int) (vm : Value) (t : List UInt8) (w : World)
    (hM : Mays r ao p bo x s a1 a2 a3 w) (hL : RLn w (.slice ao r.lines.length cap) r.lines) (hV : RLv w (.slice bo p.levels.length bp) p.levels) (h1 : RLv w (.slice a1 s.levels.length p1) s.levels) (h2 : RHl w a2 s.holds) (h3 : RDn w a3 s.done) (hT : Thg r p x s)
    (hs : r.id.size + r.hold.size + wl r.lines ≤ 1048576 ∧ p.id.size + wv p.levels ≤ 1048576 ∧ wst s ≤ 1048576) (hmo : Reads w vm t) (htl : t.length ≤ 1048576) :
    Calls Try.prog 4 #[.int .i64 which, rqV r ao cap, rpV p bo bp, .int .i64 x, sxV s a1 p1 a2 p2 a3 p3, .int .i64 cut, vm] w fun e w' => e = .returned (.bool true) ∧ Below w.heap.size w w' := by
  obtain ⟨m, hm4, hbits⟩ := and3 which
  obtain ⟨mo, mp, rfl⟩ := hmo.form
  obtain ⟨W, hW⟩ : ∃ W, ((w.alloc (.cells #[.string r.id, .int .i64 r.kind, .slice ao r.lines.length cap, .string r.hold, .int .i64 r.ttl, .int .i64 r.now] 28)).alloc (.cells #[.string p.id, .int .i64 p.err, .int .i64 p.line, .slice bo p.levels.length bp, .int .i64 p.now] 32)).alloc (.cells #[.int .i64 s.room, .int .i64 s.lsn, .int .i64 s.now, .slice a1 s.levels.length p1, .slice a2 s.holds.length p2, .slice a3 s.done.length p3] 36) = W := ⟨_, rfl⟩
  have BW := hid (show Below w.heap.size w W by rw [← hW]; exact (((Below.refl _ _).alloc (Nat.le_refl _) _).alloc (by rw [World.size_alloc]; omega) _).alloc (by rw [World.size_alloc, World.size_alloc]; omega) _)
  have zW : W.heap.size = w.heap.size + 3 := by rw [← hW]; simp only [World.size_alloc]
  have R0 : W.heap[w.heap.size]? = some (.cells #[.string r.id, .int .i64 r.kind, .slice ao r.lines.length cap, .string r.hold, .int .i64 r.ttl, .int .i64 r.now] 28 (0, 0)) := by
    rw [← hW, heap_alloc_old _ _ (by simp only [World.size_alloc]; omega), heap_alloc_old _ _ (by simp only [World.size_alloc]; omega)]
    exact heap_alloc_new w _
  have R1 : W.heap[w.heap.size + 1]? = some (.cells #[.string p.id, .int .i64 p.err, .int .i64 p.line, .slice bo p.levels.length bp, .int .i64 p.now] 32 (0, 0)) := by
    rw [← hW, heap_alloc_old _ _ (by simp only [World.size_alloc]; omega)]
    have := heap_alloc_new (w.alloc (.cells #[.string r.id, .int .i64 r.kind, .slice ao r.lines.length cap, .string r.hold, .int .i64 r.ttl, .int .i64 r.now] 28)) (.cells #[.string p.id, .int .i64 p.err, .int .i64 p.line, .slice bo p.levels.length bp, .int .i64 p.now] 32)
    rwa [World.size_alloc] at this
  have R2 : W.heap[w.heap.size + 2]? = some (.cells #[.int .i64 s.room, .int .i64 s.lsn, .int .i64 s.now, .slice a1 s.levels.length p1, .slice a2 s.holds.length p2, .slice a3 s.done.length p3] 36 (0, 0)) := by
    rw [← hW]
    have := heap_alloc_new ((w.alloc (.cells #[.string r.id, .int .i64 r.kind, .slice ao r.lines.length cap, .string r.hold, .int .i64 r.ttl, .int .i64 r.now] 28)).alloc (.cells #[.string p.id, .int .i64 p.err, .int .i64 p.line, .slice bo p.levels.length bp, .int .i64 p.now] 32)) (.cells #[.int .i64 s.room, .int .i64 s.lsn, .int .i64 s.now, .slice a1 s.levels.length p1, .slice a2 s.holds.length p2, .slice a3 s.done.length p3] 36)
    rwa [World.size_alloc, World.size_alloc] at this
  have KK := hid (show ∀ wx : World, Below W.heap.size W wx → wx.cell? ⟨w.heap.size, 0, none⟩ = some (.string r.id) ∧ wx.cell? ⟨w.heap.size, 1, none⟩ = some (.int .i64 r.kind) ∧ wx.cell? ⟨w.heap.size, 2, none⟩ = some (.slice ao r.lines.length cap) ∧ wx.cell? ⟨w.heap.size, 3, none⟩ = some (.string r.hold) ∧ wx.cell? ⟨w.heap.size, 4, none⟩ = some (.int .i64 r.ttl) ∧ wx.cell? ⟨w.heap.size, 5, none⟩ = some (.int .i64 r.now) ∧ wx.cell? ⟨w.heap.size + 1, 0, none⟩ = some (.string p.id) ∧ wx.cell? ⟨w.heap.size + 1, 1, none⟩ = some (.int .i64 p.err) ∧ wx.cell? ⟨w.heap.size + 1, 2, none⟩ = some (.int .i64 p.line) ∧ wx.cell? ⟨w.heap.size + 1, 3, none⟩ = some (.slice bo p.levels.length bp) ∧ wx.cell? ⟨w.heap.size + 1, 4, none⟩ = some (.int .i64 p.now) ∧ wx.cell? ⟨w.heap.size + 2, 0, none⟩ = some (.int .i64 s.room) ∧ wx.cell? ⟨w.heap.size + 2, 1, none⟩ = some (.int .i64 s.lsn) ∧ wx.cell? ⟨w.heap.size + 2, 2, none⟩ = some (.int .i64 s.now) ∧ wx.cell? ⟨w.heap.size + 2, 3, none⟩ = some (.slice a1 s.levels.length p1) ∧ wx.cell? ⟨w.heap.size + 2, 4, none⟩ = some (.slice a2 s.holds.length p2) ∧ wx.cell? ⟨w.heap.size + 2, 5, none⟩ = some (.slice a3 s.done.length p3) from fun wx h => by
    have r0 := (h.block w.heap.size (by omega)).trans R0
    have r1 := (h.block (w.heap.size + 1) (by omega)).trans R1
    have r2 := (h.block (w.heap.size + 2) (by omega)).trans R2
    refine ⟨?_, ?_, ?_, ?_, ?_, ?_, ?_, ?_, ?_, ?_, ?_, ?_, ?_, ?_, ?_, ?_, ?_⟩
    · rw [Lib.cell_of_heap r0]; rfl
    · rw [Lib.cell_of_heap r0]; rfl
    · rw [Lib.cell_of_heap r0]; rfl
    · rw [Lib.cell_of_heap r0]; rfl
    · rw [Lib.cell_of_heap r0]; rfl
    · rw [Lib.cell_of_heap r0]; rfl
    · rw [Lib.cell_of_heap r1]; rfl
    · rw [Lib.cell_of_heap r1]; rfl
    · rw [Lib.cell_of_heap r1]; rfl
    · rw [Lib.cell_of_heap r1]; rfl
    · rw [Lib.cell_of_heap r1]; rfl
    · rw [Lib.cell_of_heap r2]; rfl
    · rw [Lib.cell_of_heap r2]; rfl
    · rw [Lib.cell_of_heap r2]; rfl
    · rw [Lib.cell_of_heap r2]; rfl
    · rw [Lib.cell_of_heap r2]; rfl
    · rw [Lib.cell_of_heap r2]; rfl)
  have HW := hid hW
  have HM := hid (hM.below BW.out)
  have HL := hid (hL.below BW.out)
  have HV := hid (hV.below BW.out)
  have H1 := hid (h1.below BW.out)
  have H2 := hid (h2.below BW.out)
  have H3 := hid (h3.below BW.out)
  clear hW R0 R1 R2 hM hL hV h1 h2 h3
  have lq := wl_len2 r.lines
  have C1 := hid (show ∀ wx : World, Below W.heap.size W wx → Calls Try.prog 10 #[] wx fun e w' => e = .returned (.bool true) ∧ Below W.heap.size W w' from fun wx h => (works_any wx).mono fun e w' g => ⟨g.1, h.trans (g.2.mono h.size)⟩)
  have C2 := hid (show ∀ wx : World, Below W.heap.size W wx → Calls Try.prog 11 #[.agg #[.string r.id, .int .i64 r.kind, .slice ao r.lines.length cap, .string r.hold, .int .i64 r.ttl, .int .i64 r.now]] wx fun e w' => e = .returned (.int .i64 ((r.id.size + r.hold.size + wl r.lines : Nat) : Int)) ∧ Below W.heap.size W w' from fun wx h => (weight_any r ao cap wx (HL.out.below h) (by omega) (by omega)).mono fun e w' g => ⟨g.1, h.trans (g.2.mono h.size)⟩)
  have C3 := hid (show ∀ wx : World, Below W.heap.size W wx → Calls Try.prog 12 #[.agg #[.int .i64 s.room, .int .i64 s.lsn, .int .i64 s.now, .slice a1 s.levels.length p1, .slice a2 s.holds.length p2, .slice a3 s.done.length p3]] wx fun e w' => e = .returned (.int .i64 ((wst s : Nat) : Int)) ∧ Below W.heap.size W w' from fun wx h => (bulk_any s a1 p1 a2 p2 a3 p3 wx (H1.out.below h) (H2.out.below h) (H3.out.below h) (by omega)).mono fun e w' g => ⟨g.1, h.trans (g.2.mono h.size)⟩)
  have C4 := hid (show ∀ wx : World, Below W.heap.size W wx → Calls Try.prog 12 #[.agg #[.int .i64 0, .int .i64 0, .int .i64 0, .slice bo p.levels.length bp, .slice none 0 0, .slice none 0 0]] wx fun e w' => e = .returned (.int .i64 ((wv p.levels : Nat) : Int)) ∧ Below W.heap.size W w' from fun wx h => by
    have e : wst ⟨0, 0, 0, p.levels, [], []⟩ = wv p.levels := by simp [wst, wh, wd]
    have := bulk_any ⟨0, 0, 0, p.levels, [], []⟩ bo bp none 0 none 0 wx (HV.out.below h) (fun j hj => by simp at hj) (fun j hj => by simp at hj) (by rw [e]; omega)
    rw [e] at this
    exact this.mono fun e w' g => ⟨g.1, h.trans (g.2.mono h.size)⟩)
  have hN1 : decide ((1048576 : Int) < ((r.id.size + r.hold.size + wl r.lines : Nat) : Int)) = false := decide_eq_false (by omega)
  have hN2 : decide ((1048576 : Int) < ((wst s : Nat) : Int)) = false := decide_eq_false (by omega)
  have hN4 : wv p.levels + p.id.size ≤ 1048576 := by omega
  have HT := hid hT
  clear hT lq hs
  generalize r.id.size + r.hold.size + wl r.lines = n1 at *
  generalize wst s = n2 at *
  generalize wv p.levels = n3 at *
  have s00 : Below W.heap.size W W := Below.refl _ _
  have s0 : Below W.heap.size W W.drew := (Below.refl _ _).drew
  have HMo := hid (hmo.below BW.out)
  clear hmo
  unfold rqV rpV sxV
  go_enter Try.func4, Try.ntmps4
  go_upto_region 1 with fail
  rw [HW.out]
  go_cut [42] from 20 to 42 (fun v9 wx => v9 = .bool false ∧ Below W.heap.size W wx)
  case first =>
    go_region_held3 (fun wx => wx.cell? ⟨w.heap.size, 0, none⟩ = some (.string r.id) ∧ wx.cell? ⟨w.heap.size, 1, none⟩ = some (.int .i64 r.kind) ∧ wx.cell? ⟨w.heap.size, 2, none⟩ = some (.slice ao r.lines.length cap) ∧ wx.cell? ⟨w.heap.size, 3, none⟩ = some (.string r.hold) ∧ wx.cell? ⟨w.heap.size, 4, none⟩ = some (.int .i64 r.ttl) ∧ wx.cell? ⟨w.heap.size, 5, none⟩ = some (.int .i64 r.now) ∧ wx.cell? ⟨w.heap.size + 1, 0, none⟩ = some (.string p.id) ∧ wx.cell? ⟨w.heap.size + 1, 1, none⟩ = some (.int .i64 p.err) ∧ wx.cell? ⟨w.heap.size + 1, 2, none⟩ = some (.int .i64 p.line) ∧ wx.cell? ⟨w.heap.size + 1, 3, none⟩ = some (.slice bo p.levels.length bp) ∧ wx.cell? ⟨w.heap.size + 1, 4, none⟩ = some (.int .i64 p.now) ∧ wx.cell? ⟨w.heap.size + 2, 0, none⟩ = some (.int .i64 s.room) ∧ wx.cell? ⟨w.heap.size + 2, 1, none⟩ = some (.int .i64 s.lsn) ∧ wx.cell? ⟨w.heap.size + 2, 2, none⟩ = some (.int .i64 s.now) ∧ wx.cell? ⟨w.heap.size + 2, 3, none⟩ = some (.slice a1 s.levels.length p1) ∧ wx.cell? ⟨w.heap.size + 2, 4, none⟩ = some (.slice a2 s.holds.length p2) ∧ wx.cell? ⟨w.heap.size + 2, 5, none⟩ = some (.slice a3 s.done.length p3)) (exact KK.out _ (by assumption)) (first
      | (go_at_call 10; refine (C1.out _ (by assumption)).mono ?_; rintro e w1 ⟨rfl, s1⟩)
      | (go_at_call 11; refine (C2.out _ (by assumption)).mono ?_; rintro e w2 ⟨rfl, s2⟩)
      | (go_at_call 12; have g3 := s3; clear g3; refine (C4.out _ (by assumption)).mono ?_; rintro e w4 ⟨rfl, s4⟩)
      | (go_at_call 12; refine (C3.out _ (by assumption)).mono ?_; rintro e w3 ⟨rfl, s3⟩))
    all_goals (go_wp2_with fail; go_meet; exact ⟨congrArg _ (decide_eq_false (by rw [IntKind.wrap_i64]; omega)), s4⟩)
  case rest =>
    obtain ⟨rfl, hbc⟩ := hcut
    rename_i w1 _
    obtain ⟨c0, c1, c2, c3, c4, c5, c6, c7, c8, c9, c10, c11, c12, c13, c14, c15, c16⟩ := KK.out _ hbc
    have HP := hid (written_any which m r ao cap p bo bp x s a1 p1 a2 p2 a3 p3 _ hm4 hbits (HM.out.below hbc))
    have HB1 := hid hbc
    unfold rqV rpV sxV Wrt at HP
    clear hbc C1 C2 C3 C4 HM HL HV H1 H2 H3 KK hN1 hN2 hN4 s00 s0 HW
    have HRd := hid (fun (l : List UInt8) (v : Value) (wx : World) (h : Reads wx v l) => read_any which m l v wx hm4 hbits h)
    by_cases hfit : (wrB m r p x s).length ≤ wrM m
    case neg =>
      rw [if_neg hfit, if_neg hfit] at HP
      go_wp2_with fail
      refine Calls.mono HP.out ?_
      rintro e w2 ⟨v2, rfl, _, hb2⟩
      have HB2 := hid (BW.out.trans ((HB1.out.trans (hb2.mono HB1.out.size)).mono BW.out.size))
      clear hb2 HP c0 c1 c2 c3 c4 c5 c6 c7 c8 c9 c10 c11 c12 c13 c14 c15 c16
      go_wp2
      go_ret
      exact ⟨rfl, HB2.out⟩
    rw [if_pos hfit, if_pos hfit] at HP
    have hpos := wrB_pos m r p x s
    have F1 := hid (fun c hc => rd_cut9 (c := c) hm4 HT.out hfit hc)
    have F2 := hid (rd_all9 hm4 HT.out hfit)
    have F3 := hid (fun t ht hl => rd_more9 (t := t) hm4 HT.out hfit ht hl)
    have F4 := hid (fun t hl => rd_long9 (t := t) hm4 HT.out hfit hl)
    have hfit2 := Nat.le_trans hfit (wrM_le m)
    generalize wrB m r p x s = L at *
    go_wp2_with fail
    refine Calls.mono HP.out ?_
    rintro e w2 ⟨v2, rfl, ho2, hb2⟩
    have HB2 := hid (BW.out.trans ((HB1.out.trans (hb2.mono HB1.out.size)).mono BW.out.size))
    have HMo2 := hid (HMo.out.below (HB1.out.trans (hb2.mono HB1.out.size)))
    obtain ⟨g, cp, hv2, hc2, hm2, _⟩ := ho2.form hpos
    subst hv2
    have HO2 := hid ho2
    clear ho2 hb2 HP c0 c1 c2 c3 c4 c5 c6 c7 c8 c9 c10 c11 c12 c13 c14 c15 c16 HB1 HMo HT
    obtain ⟨rr, hrr⟩ : ∃ rr, cut.tmod (L.length : Int) = rr := ⟨_, rfl⟩
    have hr1 : -(L.length : Int) < rr := by rw [← hrr]; have := Int.lt_tmod_of_pos cut (show (0 : Int) < (L.length : Int) by omega); omega
    have hr2 : rr < (L.length : Int) := by rw [← hrr]; exact Int.tmod_lt_of_pos cut (by omega)
    obtain ⟨kk, hkk, hlt⟩ : ∃ kk : Nat, (if rr < 0 then rr + (L.length : Int) else rr) = (kk : Int) ∧ kk < L.length := by
      by_cases h : rr < 0
      · rw [if_pos h]; exact ⟨(rr + L.length).toNat, by omega, by omega⟩
      · rw [if_neg h]; exact ⟨rr.toNat, by omega, by omega⟩
    have hI : ¬ (L.length : Int) = 0 := by omega
    have HR3 := hid (HRd.out (L.take kk) _ w2 (reads_take HO2.out.reads kk (by omega)))
    have HE := hid (F1.out kk hlt)
    rw [HE.out.1, HE.out.2] at HR3
    have hkc : kk ≤ cp := by omega
    have hkI : (kk : Int) ≤ (cp : Int) := by omega
    clear F1 HE
    by_cases hneg : rr < 0
    · rw [if_pos hneg] at hkk
      go_wp2_with fail
      refine Calls.mono HR3.out ?_
      rintro e w3 ⟨rfl, hb3⟩
      have HB3 := hid (HB2.out.trans (hb3.mono HB2.out.size))
      have HO3 := hid (HO2.out.reads.below hb3)
      have HMo3 := hid (HMo2.out.below hb3)
      have HN := hid (Owns.nil w3 w.heap.size)
      have hbz : w.heap.size ≤ w3.heap.size := HB3.out.size
      have hlen : ([] : List UInt8).length + L.length ≤ 140737488355328 := by simp; omega
      clear hb3 HO2 HMo2 HB2 HR3
      go_wp2_with (at_builtin; go_loud (refine wpList_app rfl _ _ _ rfl Try.underlying22 u8info w.heap.size _ [] rfl HN.out _ L rfl HO3.out hlen hbz ?hnext))
      case hnext =>
      intro v4 w4 ho4 hg4
      have b4 : Below w3.heap.size w3 w4 := ⟨hg4.os, hg4.tape, hg4.output, hg4.size, fun j hj => hg4.block j hj (fun e => by cases e)⟩
      have HB4 := hid (HB3.out.trans (b4.mono hbz))
      have HMo4 := hid (HMo3.out.below b4)
      have hbz4 : w.heap.size ≤ w4.heap.size := HB4.out.size
      have hlen4 : L.length + t.length ≤ 140737488355328 := by omega
      have HO4 := hid (show Owns w4 w.heap.size v4 L from ho4)
      clear ho4 hg4 b4 HN HO3 HMo3 HB3 hlen hbz
      go_wp2_with (at_builtin; go_loud (refine wpList_app rfl _ _ _ rfl Try.underlying22 u8info w.heap.size _ L rfl HO4.out _ t rfl HMo4.out hlen4 hbz4 ?hnext))
      case hnext =>
      intro v5 w5 ho5 hg5
      have HB5 := hid (show Below w.heap.size w w5 from HB4.out.trans ⟨hg5.os, hg5.tape, hg5.output, hg5.size, fun j hj => hg5.block j (by omega) (fun e => by have := HO4.out.block_ge j e.symm; omega)⟩)
      obtain ⟨g5, cp5, hv5, _, _, _⟩ := ho5.form (by rw [List.length_append]; omega)
      subst hv5
      have HR5 := hid (HRd.out (L ++ t) _ w5 ho5.reads)
      clear ho5 hg5 HB4 HMo4 HO4 HRd
      by_cases ht : t = []
      · subst ht
        rw [List.append_nil] at *
        rw [F2.out.1, F2.out.2] at HR5
        go_wp2_with fail
        refine Calls.mono HR5.out ?_
        rintro e w6 ⟨rfl, hb6⟩
        have HB6 := hid (HB5.out.trans (hb6.mono HB5.out.size))
        clear hb6 HR5
        go_wp2
        go_ret
        exact ⟨rfl, HB6.out⟩

      have htp : 0 < t.length := List.length_pos_iff.2 ht
      have htI : ¬ (t.length : Int) = 0 := by omega
      have hA : (L ++ t).length = L.length + t.length := List.length_append
      by_cases hlg : wrM m < (L ++ t).length
      · rw [(F4.out t hlg).1, (F4.out t hlg).2] at HR5
        rw [hA] at HR5 hlg ⊢
        clear F2 F3 F4
        by_cases h3 : m = 3
        · subst h3
          have hb3 : bits .and .i64 which 3 = 3 := hbits
          have hw3 : (131072 : Int) < (L.length : Int) + (t.length : Int) := by have : wrM 3 = 131072 := rfl; omega
          clear hbits
          go_wp2_with fail
          refine Calls.mono HR5.out ?_
          rintro e w6 ⟨rfl, hb6⟩
          have HB6 := hid (HB5.out.trans (hb6.mono HB5.out.size))
          clear hb6 HR5
          go_wp2
          go_ret
          exact ⟨rfl, HB6.out⟩

        · have hI3 : ¬ (m : Int) = 3 := by omega
          have hw3 : (4096 : Int) < (L.length : Int) + (t.length : Int) := by have : wrM m = 4096 := if_neg h3; omega
          go_wp2_with fail
          refine Calls.mono HR5.out ?_
          rintro e w6 ⟨rfl, hb6⟩
          have HB6 := hid (HB5.out.trans (hb6.mono HB5.out.size))
          clear hb6 HR5
          go_wp2
          go_ret
          exact ⟨rfl, HB6.out⟩

      · rw [(F3.out t ht (by omega)).1, (F3.out t ht (by omega)).2] at HR5
        rw [hA] at HR5 hlg ⊢
        clear F2 F3 F4
        by_cases h3 : m = 3
        · subst h3
          have hb3 : bits .and .i64 which 3 = 3 := hbits
          have hw3 : ¬ (131072 : Int) < (L.length : Int) + (t.length : Int) := by have : wrM 3 = 131072 := rfl; omega
          clear hbits
          go_wp2_with fail
          refine Calls.mono HR5.out ?_
          rintro e w6 ⟨rfl, hb6⟩
          have HB6 := hid (HB5.out.trans (hb6.mono HB5.out.size))
          clear hb6 HR5
          go_wp2
          go_ret
          exact ⟨rfl, HB6.out⟩

        · have hI3 : ¬ (m : Int) = 3 := by omega
          have hw3 : ¬ (4096 : Int) < (L.length : Int) + (t.length : Int) := by have : wrM m = 4096 := if_neg h3; omega
          have hw4 : ¬ (131072 : Int) < (L.length : Int) + (t.length : Int) := by omega
          go_wp2_with fail
          refine Calls.mono HR5.out ?_
          rintro e w6 ⟨rfl, hb6⟩
          have HB6 := hid (HB5.out.trans (hb6.mono HB5.out.size))
          clear hb6 HR5
          go_wp2
          go_ret
          exact ⟨rfl, HB6.out⟩
    · rw [if_neg hneg] at hkk
      go_wp2_with fail
      refine Calls.mono HR3.out ?_
      rintro e w3 ⟨rfl, hb3⟩
      have HB3 := hid (HB2.out.trans (hb3.mono HB2.out.size))
      have HO3 := hid (HO2.out.reads.below hb3)
      have HMo3 := hid (HMo2.out.below hb3)
      have HN := hid (Owns.nil w3 w.heap.size)
      have hbz : w.heap.size ≤ w3.heap.size := HB3.out.size
      have hlen : ([] : List UInt8).length + L.length ≤ 140737488355328 := by simp; omega
      clear hb3 HO2 HMo2 HB2 HR3
      go_wp2_with (at_builtin; go_loud (refine wpList_app rfl _ _ _ rfl Try.underlying22 u8info w.heap.size _ [] rfl HN.out _ L rfl HO3.out hlen hbz ?hnext))
      case hnext =>
      intro v4 w4 ho4 hg4
      have b4 : Below w3.heap.size w3 w4 := ⟨hg4.os, hg4.tape, hg4.output, hg4.size, fun j hj => hg4.block j hj (fun e => by cases e)⟩
      have HB4 := hid (HB3.out.trans (b4.mono hbz))
      have HMo4 := hid (HMo3.out.below b4)
      have hbz4 : w.heap.size ≤ w4.heap.size := HB4.out.size
      have hlen4 : L.length + t.length ≤ 140737488355328 := by omega
      have HO4 := hid (show Owns w4 w.heap.size v4 L from ho4)
      clear ho4 hg4 b4 HN HO3 HMo3 HB3 hlen hbz
      go_wp2_with (at_builtin; go_loud (refine wpList_app rfl _ _ _ rfl Try.underlying22 u8info w.heap.size _ L rfl HO4.out _ t rfl HMo4.out hlen4 hbz4 ?hnext))
      case hnext =>
      intro v5 w5 ho5 hg5
      have HB5 := hid (show Below w.heap.size w w5 from HB4.out.trans ⟨hg5.os, hg5.tape, hg5.output, hg5.size, fun j hj => hg5.block j (by omega) (fun e => by have := HO4.out.block_ge j e.symm; omega)⟩)
      obtain ⟨g5, cp5, hv5, _, _, _⟩ := ho5.form (by rw [List.length_append]; omega)
      subst hv5
      have HR5 := hid (HRd.out (L ++ t) _ w5 ho5.reads)
      clear ho5 hg5 HB4 HMo4 HO4 HRd
      by_cases ht : t = []
      · subst ht
        rw [List.append_nil] at *
        rw [F2.out.1, F2.out.2] at HR5
        go_wp2_with fail
        refine Calls.mono HR5.out ?_
        rintro e w6 ⟨rfl, hb6⟩
        have HB6 := hid (HB5.out.trans (hb6.mono HB5.out.size))
        clear hb6 HR5
        go_wp2
        go_ret
        exact ⟨rfl, HB6.out⟩

      have htp : 0 < t.length := List.length_pos_iff.2 ht
      have htI : ¬ (t.length : Int) = 0 := by omega
      have hA : (L ++ t).length = L.length + t.length := List.length_append
      by_cases hlg : wrM m < (L ++ t).length
      · rw [(F4.out t hlg).1, (F4.out t hlg).2] at HR5
        rw [hA] at HR5 hlg ⊢
        clear F2 F3 F4
        by_cases h3 : m = 3
        · subst h3
          have hb3 : bits .and .i64 which 3 = 3 := hbits
          have hw3 : (131072 : Int) < (L.length : Int) + (t.length : Int) := by have : wrM 3 = 131072 := rfl; omega
          clear hbits
          go_wp2_with fail
          refine Calls.mono HR5.out ?_
          rintro e w6 ⟨rfl, hb6⟩
          have HB6 := hid (HB5.out.trans (hb6.mono HB5.out.size))
          clear hb6 HR5
          go_wp2
          go_ret
          exact ⟨rfl, HB6.out⟩

        · have hI3 : ¬ (m : Int) = 3 := by omega
          have hw3 : (4096 : Int) < (L.length : Int) + (t.length : Int) := by have : wrM m = 4096 := if_neg h3; omega
          go_wp2_with fail
          refine Calls.mono HR5.out ?_
          rintro e w6 ⟨rfl, hb6⟩
          have HB6 := hid (HB5.out.trans (hb6.mono HB5.out.size))
          clear hb6 HR5
          go_wp2
          go_ret
          exact ⟨rfl, HB6.out⟩

      · rw [(F3.out t ht (by omega)).1, (F3.out t ht (by omega)).2] at HR5
        rw [hA] at HR5 hlg ⊢
        clear F2 F3 F4
        by_cases h3 : m = 3
        · subst h3
          have hb3 : bits .and .i64 which 3 = 3 := hbits
          have hw3 : ¬ (131072 : Int) < (L.length : Int) + (t.length : Int) := by have : wrM 3 = 131072 := rfl; omega
          clear hbits
          go_wp2_with fail
          refine Calls.mono HR5.out ?_
          rintro e w6 ⟨rfl, hb6⟩
          have HB6 := hid (HB5.out.trans (hb6.mono HB5.out.size))
          clear hb6 HR5
          go_wp2
          go_ret
          exact ⟨rfl, HB6.out⟩

        · have hI3 : ¬ (m : Int) = 3 := by omega
          have hw3 : ¬ (4096 : Int) < (L.length : Int) + (t.length : Int) := by have : wrM m = 4096 := if_neg h3; omega
          have hw4 : ¬ (131072 : Int) < (L.length : Int) + (t.length : Int) := by omega
          go_wp2_with fail
          refine Calls.mono HR5.out ?_
          rintro e w6 ⟨rfl, hb6⟩
          have HB6 := hid (HB5.out.trans (hb6.mono HB5.out.size))
          clear hb6 HR5
          go_wp2
          go_ret
          exact ⟨rfl, HB6.out⟩
end Go.Proofs.Ytfhicemfhkhjaaa
