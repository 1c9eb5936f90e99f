/-
  Cu1: CodecBack, CodecCut: what is written is at least so long; what is read of it, of its beginnings, with more behind it.
  Cu2: CodecCut: written, read. Laid by mkcu2.py.
-/
import Derived.Test.YtfhicemfhkhjaaaStIn
import Derived.Laws.BitsLemmas
namespace Go.Proofs.Ytfhicemfhkhjaaa
open Go.RowKit
set_option maxRecDepth 100000

theorem and3 (n : Int) : ∃ m : Nat, m < 4 ∧ bits .and .i64 n 3 = (m : Int) := by
  have h3 : (BitVec.ofInt 64 3).toNat = 2 ^ 2 - 1 := by decide
  refine ⟨(BitVec.ofInt 64 n &&& BitVec.ofInt 64 3).toNat, ?_, ?_⟩
  · rw [BitVec.toNat_and, h3, Nat.and_two_pow_sub_one_eq_mod]
    exact Nat.mod_lt _ (by decide)
  · show IntKind.i64.wrap ((BitVec.ofInt 64 n &&& BitVec.ofInt 64 3).toNat : Nat) = _
    have : (BitVec.ofInt 64 n &&& BitVec.ofInt 64 3).toNat < 4 := by
      rw [BitVec.toNat_and, h3, Nat.and_two_pow_sub_one_eq_mod]
      exact Nat.mod_lt _ (by decide)
    rw [IntKind.wrap_i64]
    omega
theorem tx_len (s : ByteArray) : s.size + 1 ≤ (txB s).length := by
  have := grp_pos s.size
  have e : s.data.toList.length = s.size := rfl
  unfold txB
  rw [List.length_append]
  omega
theorem lnB_lo (L : List Ln) : wl L ≤ (lnB L).length := by
  induction L with
  | nil => simp [wl]
  | cons x t ih =>
    have e : wl (x :: t) = 2 + x.1.size + wl t := by simp [wl]
    have e2 : lnB (x :: t) = ln1 x ++ lnB t := rfl
    have h1 := grp_pos x.1.size
    have h2 := grp_pos (foldI x.2)
    have e3 : (ln1 x).length = (grp x.1.size).length + x.1.size + (grp (foldI x.2)).length := by
      unfold ln1
      simp only [List.length_append]
      rfl
    rw [e, e2, List.length_append, e3]
    omega
theorem lvB_lo (L : List Lv) : wv L ≤ (lvB L).length := by
  induction L with
  | nil => simp [wv]
  | cons x t ih =>
    have e : wv (x :: t) = 3 + x.1.size + wv t := by simp [wv]
    have e2 : lvB (x :: t) = lv1 x ++ lvB t := rfl
    have h1 := grp_pos x.1.size
    have h2 := grp_pos (foldI x.2.1)
    have h3 := grp_pos (foldI x.2.2)
    have e3 : (lv1 x).length = (grp x.1.size).length + x.1.size + (grp (foldI x.2.1)).length + (grp (foldI x.2.2)).length := by
      unfold lv1
      simp only [List.length_append]
      rfl
    rw [e, e2, List.length_append, e3]
    omega
theorem rqB_lo (r : Rq) : 6 + (r.id.size + r.hold.size + wl r.lines) ≤ (rqB r).length := by
  have h1 := tx_len r.id
  have h2 := tx_len r.hold
  have h3 := lnB_lo r.lines
  have h4 := grp_pos (foldI r.kind)
  have h5 := grp_pos r.lines.length
  have h6 := grp_pos (foldI r.ttl)
  have h7 := grp_pos (foldI r.now)
  unfold rqB
  simp only [List.length_append]
  omega
theorem rpB_lo (r : Ry) : r.id.size + wv r.levels ≤ (rpB r).length := by
  have h1 := tx_len r.id
  have h3 := lvB_lo r.levels
  unfold rpB
  simp only [List.length_append]
  omega
theorem hlB_lo (L : List Hl) : wh L ≤ (hlB L).length := by
  induction L with
  | nil => simp [wh]
  | cons x t ih =>
    have e : wh (x :: t) = 3 + x.id.size + wl x.lines + wh t := by simp [wh]
    have e2 : hlB (x :: t) = hl1 x ++ hlB t := rfl
    have h1 := tx_len x.id
    have h2 := lnB_lo x.lines
    have h3 := grp_pos x.lines.length
    have h4 := grp_pos (foldI x.dead)
    rw [e, e2, List.length_append]
    unfold hl1
    simp only [List.length_append]
    omega
theorem dnB_lo (L : List Dn) : wd L ≤ (dnB L).length := by
  induction L with
  | nil => simp [wd]
  | cons x t ih =>
    have e : wd (x :: t) = 7 + (x.req.id.size + x.req.hold.size + wl x.req.lines) + wd t := by simp [wd]
    have e2 : dnB (x :: t) = dn1 x ++ dnB t := rfl
    have h1 := rqB_lo x.req
    have h4 := grp_pos (foldI x.at')
    rw [e, e2, List.length_append]
    unfold dn1
    simp only [List.length_append]
    omega
theorem sxB_lo (s : Sx) : wst s ≤ (sxB s).length := by
  have h1 := lvB_lo s.levels
  have h2 := hlB_lo s.holds
  have h3 := dnB_lo s.done
  unfold sxB wst
  simp only [List.length_append]
  omega
/-- a reply's numbers may be -/
def RyI (r : Ry) : Prop := I64 r.err ∧ I64 r.line ∧ I64 r.now ∧ ∀ i (h : i < r.levels.length), I64 r.levels[i].2.1 ∧ I64 r.levels[i].2.2
theorem ry_t {r : Ry} {B : Nat} (h : RyI r) (hw : r.id.size + wv r.levels ≤ B) : RyT B r :=
  ⟨by omega, h.1, h.2.1, lv_t h.2.2.2 (by omega), h.2.2.1⟩
/-- the bytes of one of four things; how long they may be; what a reader tells of bytes -/
def wrB (m : Nat) (r : Rq) (p : Ry) (x : Int) (s : Sx) : List UInt8 :=
  if m = 0 then 81 :: rqB r else if m = 1 then 82 :: rpB p else if m = 2 then 83 :: (grp (foldI x) ++ rqB r) else 84 :: sxB s
def wrM (m : Nat) : Nat := if m = 3 then 131072 else 4096
def rdE (m : Nat) (l : List UInt8) : Nat := if m = 0 then (rqs l).1 else if m = 1 then (rps l).1 else if m = 2 then (rcs l).1 else (rss l).1
def rdP (m : Nat) (l : List UInt8) : Nat := if m = 0 then (rqs l).2.1 else if m = 1 then (rps l).2.1 else if m = 2 then (rcs l).2.1 else (rss l).2.1
/-- four things that may be -/
structure Thg (r : Rq) (p : Ry) (x : Int) (s : Sx) : Prop where
  r : RqI r
  p : RyI p
  x : I64 x
  s : SxI s
theorem thg_any {m : Nat} {r : Rq} {p : Ry} {x : Int} {s : Sx} (hm : m < 4) (h : Thg r p x s) (hl : (wrB m r p x s).length ≤ wrM m) :
    ∃ (β : Type) (k : UInt8) (f : List UInt8 → Nat → Nat × Nat × β) (B : β → List UInt8) (ok : β → Prop) (d y : β), Fd f B ok ∧ ok y ∧ wrB m r p x s = k :: B y ∧ ∀ l, rdE m l = (whole k f d (wrM m) l).1 ∧ rdP m l = (whole k f d (wrM m) l).2.1 := by
  rcases (by omega : m = 0 ∨ m = 1 ∨ m = 2 ∨ m = 3) with rfl | rfl | rfl | rfl
  · refine ⟨_, _, _, _, _, rq0, r, Fd.request 4096 (by decide), rq_t h.r ?_, rfl, fun l => ?_⟩
    · have := rqB_lo r
      have e : (wrB 0 r p x s).length = (rqB r).length + 1 := rfl
      have e2 : wrM 0 = 4096 := rfl
      omega
    · rw [show wrM 0 = 4096 from rfl, ← rqs_whole]
      exact ⟨rfl, rfl⟩
  · refine ⟨_, _, _, _, _, rp0, p, Fd.reply 4096 (by decide), ry_t h.p ?_, rfl, fun l => ?_⟩
    · have := rpB_lo p
      have e : (wrB 1 r p x s).length = (rpB p).length + 1 := rfl
      have e2 : wrM 1 = 4096 := rfl
      omega
    · rw [show wrM 1 = 4096 from rfl, ← rps_whole]
      exact ⟨rfl, rfl⟩
  · refine ⟨_, _, _, _, _, (0, rq0), (x, r), Fd.record 4096 (by decide), ⟨h.x, rq_t h.r ?_⟩, rfl, fun l => ?_⟩
    · have := rqB_lo r
      have e : (wrB 2 r p x s).length = (grp (foldI x) ++ rqB r).length + 1 := rfl
      rw [List.length_append] at e
      have e2 : wrM 2 = 4096 := rfl
      show r.id.size + r.hold.size + wl r.lines ≤ 4096
      omega
    · rw [show wrM 2 = 4096 from rfl, ← rcs_whole]
      exact ⟨rfl, rfl⟩
  · refine ⟨_, _, _, _, _, sx0, s, Fd.state 131072 (by decide), sx_t h.s ?_, rfl, fun l => ?_⟩
    · have := sxB_lo s
      have e : (wrB 3 r p x s).length = (sxB s).length + 1 := rfl
      have e2 : wrM 3 = 131072 := rfl
      omega
    · rw [show wrM 3 = 131072 from rfl, ← rss_whole]
      exact ⟨rfl, rfl⟩
/-- a beginning of it; all of it; with more behind it -/
theorem rd_cut9 {m : Nat} {r : Rq} {p : Ry} {x : Int} {s : Sx} (hm : m < 4) (h : Thg r p x s) (hl : (wrB m r p x s).length ≤ wrM m) (c : Nat) (hc : c < (wrB m r p x s).length) : rdE m ((wrB m r p x s).take c) = 3 ∧ rdP m ((wrB m r p x s).take c) = c := by
  obtain ⟨β, k, f, B, ok, d, y, hF, ho, e, hr⟩ := thg_any hm h hl
  rw [(hr _).1, (hr _).2, e]
  rw [e] at hl hc
  have hlen : ((k :: B y).take c).length = c := by rw [List.length_take]; omega
  have := hF.whole_cut d (p := (k :: B y).take c) (t := (k :: B y).drop c) (most := wrM m) ho (by rw [ne_eq, List.drop_eq_nil_iff]; omega) (List.take_append_drop _ _).symm (by omega)
  rw [this, hlen]
  exact ⟨rfl, rfl⟩
theorem rd_all9 {m : Nat} {r : Rq} {p : Ry} {x : Int} {s : Sx} (hm : m < 4) (h : Thg r p x s) (hl : (wrB m r p x s).length ≤ wrM m) : rdE m (wrB m r p x s) = 0 ∧ rdP m (wrB m r p x s) = 0 := by
  obtain ⟨β, k, f, B, ok, d, y, hF, ho, e, hr⟩ := thg_any hm h hl
  rw [(hr _).1, (hr _).2, e]
  rw [e] at hl
  rw [hF.whole_back d ho hl]
  exact ⟨rfl, rfl⟩
theorem rd_more9 {m : Nat} {r : Rq} {p : Ry} {x : Int} {s : Sx} {t : List UInt8} (hm : m < 4) (h : Thg r p x s) (hl : (wrB m r p x s).length ≤ wrM m) (ht : t ≠ []) (hl2 : (wrB m r p x s ++ t).length ≤ wrM m) : rdE m (wrB m r p x s ++ t) = 4 ∧ rdP m (wrB m r p x s ++ t) = (wrB m r p x s).length := by
  obtain ⟨β, k, f, B, ok, d, y, hF, ho, e, hr⟩ := thg_any hm h hl
  rw [(hr _).1, (hr _).2, e]
  rw [e] at hl2
  rw [hF.whole_more d ho ht hl2]
  exact ⟨rfl, rfl⟩
theorem rd_long9 {m : Nat} {r : Rq} {p : Ry} {x : Int} {s : Sx} {t : List UInt8} (hm : m < 4) (h : Thg r p x s) (hl : (wrB m r p x s).length ≤ wrM m) (hl2 : wrM m < (wrB m r p x s ++ t).length) : rdE m (wrB m r p x s ++ t) = 1 ∧ rdP m (wrB m r p x s ++ t) = 0 := by
  obtain ⟨β, k, f, B, ok, d, y, hF, ho, e, hr⟩ := thg_any hm h hl
  rw [(hr _).1, (hr _).2]
  rw [whole_long hl2]
  exact ⟨rfl, rfl⟩
end Go.Proofs.Ytfhicemfhkhjaaa

namespace Go.Proofs.Ytfhicemfhkhjaaa
open Go.RowKit
set_option maxRecDepth 100000

theorem Wrt.lower {m : List UInt8} {most : Nat} {w W w' : World} {e : Ending} (h : Wrt m most W e w') (b : Below w.heap.size w W) : Wrt m most w e w' := by
  obtain ⟨v', h1, h2, h3⟩ := h
  exact ⟨v', h1, row_lower h2 b.size, b.trans (h3.mono b.size)⟩
/-- what is handed to written may be written -/
structure Mays (r : Rq) (ao : Option Addr) (p : Ry) (bo : Option Addr) (x : Int) (s : Sx) (a1 a2 a3 : Option Addr) (w : World) : Prop where
  f0 : RqOk r
  f1 : LL w w.heap.size ao r.lines
  f2 : RpOk p
  f3 : LV w w.heap.size bo p.levels
  f4 : I64 x
  f5 : SxOk s
  f6 : LV w w.heap.size a1 s.levels
  f7 : HLs w w.heap.size a2 s.holds
  f8 : DLs w w.heap.size a3 s.done
theorem Mays.below {r : Rq} {ao : Option Addr} {p : Ry} {bo : Option Addr} {x : Int} {s : Sx} {a1 a2 a3 : Option Addr} {w w' : World} (h : Mays r ao p bo x s a1 a2 a3 w) (b : Below w.heap.size w w') : Mays r ao p bo x s a1 a2 a3 w' :=
  ⟨h.f0, h.f1.below b b.size, h.f2, h.f3.below b b.size, h.f4, h.f5, h.f6.below b b.size, h.f7.below b b.size, h.f8.below b b.size⟩
set_option maxHeartbeats 4000000 in
theorem written_any (which : Int) (m : Nat) (r : Rq) (ao : Option Addr) (cap : Nat) (p : Ry) (bo : Option Addr) (bp : Nat) (x : Int) (s : Sx) (a1 : Option Addr) (p1 : Nat) (a2 : Option Addr) (p2 : Nat) (a3 : Option Addr) (p3 : Nat) (w : World) (hm : m < 4) (hw : bits .and .i64 which 3 = (m : Int)) (h : Mays r ao p bo x s a1 a2 a3 w) :
    Calls Try.prog 13 #[.int .i64 which, rqV r ao cap, rpV p bo bp, .int .i64 x, sxV s a1 p1 a2 p2 a3 p3] w fun e w' => Wrt (wrB m r p x s) (wrM m) w e w' := by
  obtain ⟨W, hW⟩ : ∃ W, ((w.alloc (.cells #[.string r.id, .int .i64 r.kind, .slice ao r.lines.length cap, .string r.hold, .int .i64 r.ttl, .int .i64 r.now] 28)).alloc (.cells #[.string p.id, .int .i64 p.err, .int .i64 p.line, .slice bo p.levels.length bp, .int .i64 p.now] 32)).alloc (.cells #[.int .i64 s.room, .int .i64 s.lsn, .int .i64 s.now, .slice a1 s.levels.length p1, .slice a2 s.holds.length p2, .slice a3 s.done.length p3] 36) = W := ⟨_, rfl⟩
  have BW := hid (show Below w.heap.size w W by rw [← hW]; exact (((Below.refl _ _).alloc (Nat.le_refl _) _).alloc (by rw [World.size_alloc]; omega) _).alloc (by rw [World.size_alloc, World.size_alloc]; omega) _)
  have HM := hid (h.below BW.out)
  have HW := hid hW
  clear h hW
  rcases (by omega : m = 0 ∨ m = 1 ∨ m = 2 ∨ m = 3) with rfl | rfl | rfl | rfl
  · have hw' : bits .and .i64 which 3 = 0 := hw
    have HP := hid (putRequest_any r ao cap W HM.out.f0 HM.out.f1)
    rw [show wrB 0 r p x s = 81 :: rqB r from rfl, show wrM 0 = 4096 from rfl]
    unfold rqV Wrt at HP
    unfold Wrt
    generalize (if (81 :: rqB r).length ≤ 4096 then (0 : Int) else 1) = er at *
    generalize (if (81 :: rqB r).length ≤ 4096 then 81 :: rqB r else []) = M at *
    clear hw
    unfold rqV rpV sxV
    go_enter Try.func13, Try.ntmps13
    go_wp2_with fail
    rw [HW.out]
    refine Calls.mono HP.out ?_
    rintro e w' ⟨v', rfl, ho, hb⟩
    have HO := hid (show Owns w' w.heap.size v' M from row_lower ho BW.out.size)
    have HB := hid (BW.out.trans (hb.mono BW.out.size))
    clear ho hb HP HM
    go_wp2
    go_ret2
    exact ⟨v', rfl, HO.out, HB.out⟩
  · have hw' : bits .and .i64 which 3 = 1 := hw
    have HP := hid (putReply_any p bo bp W HM.out.f2 HM.out.f3)
    rw [show wrB 1 r p x s = 82 :: rpB p from rfl, show wrM 1 = 4096 from rfl]
    unfold rpV Wrt at HP
    unfold Wrt
    generalize (if (82 :: rpB p).length ≤ 4096 then (0 : Int) else 1) = er at *
    generalize (if (82 :: rpB p).length ≤ 4096 then 82 :: rpB p else []) = M at *
    clear hw
    unfold rqV rpV sxV
    go_enter Try.func13, Try.ntmps13
    go_wp2_with fail
    rw [HW.out]
    refine Calls.mono HP.out ?_
    rintro e w' ⟨v', rfl, ho, hb⟩
    have HO := hid (show Owns w' w.heap.size v' M from row_lower ho BW.out.size)
    have HB := hid (BW.out.trans (hb.mono BW.out.size))
    clear ho hb HP HM
    go_wp2
    go_ret2
    exact ⟨v', rfl, HO.out, HB.out⟩
  · have hw' : bits .and .i64 which 3 = 2 := hw
    have HP := hid (putRecord_any x r ao cap W HM.out.f4.1 HM.out.f4.2 HM.out.f0 HM.out.f1)
    rw [show wrB 2 r p x s = 83 :: (grp (foldI x) ++ rqB r) from rfl, show wrM 2 = 4096 from rfl]
    unfold rcV Wrt at HP
    unfold Wrt
    generalize (if (83 :: (grp (foldI x) ++ rqB r)).length ≤ 4096 then (0 : Int) else 1) = er at *
    generalize (if (83 :: (grp (foldI x) ++ rqB r)).length ≤ 4096 then 83 :: (grp (foldI x) ++ rqB r) else []) = M at *
    clear hw
    unfold rqV rpV sxV
    go_enter Try.func13, Try.ntmps13
    go_wp2_with fail
    rw [HW.out]
    refine Calls.mono HP.out ?_
    rintro e w' ⟨v', rfl, ho, hb⟩
    have HO := hid (show Owns w' w.heap.size v' M from row_lower ho BW.out.size)
    have HB := hid (BW.out.trans (hb.mono BW.out.size))
    clear ho hb HP HM
    go_wp2
    go_ret2
    exact ⟨v', rfl, HO.out, HB.out⟩
  · have hw' : bits .and .i64 which 3 = 3 := hw
    have HP := hid (putState_any s a1 a2 a3 p1 p2 p3 W HM.out.f5 HM.out.f6 HM.out.f7 HM.out.f8)
    rw [show wrB 3 r p x s = 84 :: sxB s from rfl, show wrM 3 = 131072 from rfl]
    unfold sxV Wrt at HP
    unfold Wrt
    generalize (if (84 :: sxB s).length ≤ 131072 then (0 : Int) else 1) = er at *
    generalize (if (84 :: sxB s).length ≤ 131072 then 84 :: sxB s else []) = M at *
    clear hw
    unfold rqV rpV sxV
    go_enter Try.func13, Try.ntmps13
    go_wp2_with fail
    rw [HW.out]
    refine Calls.mono HP.out ?_
    rintro e w' ⟨v', rfl, ho, hb⟩
    have HO := hid (show Owns w' w.heap.size v' M from row_lower ho BW.out.size)
    have HB := hid (BW.out.trans (hb.mono BW.out.size))
    clear ho hb HP HM
    go_wp2
    go_ret2
    exact ⟨v', rfl, HO.out, HB.out⟩
set_option maxHeartbeats 4000000 in
theorem read_any (which : Int) (m : Nat) (l : List UInt8) (v : Value) (w : World) (hm : m < 4) (hw : bits .and .i64 which 3 = (m : Int)) (hr : Reads w v l) :
    Calls Try.prog 14 #[.int .i64 which, v] w fun e w' => e = .returned (.tuple #[.int .i64 (rdE m l : Int), .int .i64 (rdP m l : Int)]) ∧ Below w.heap.size w w' := by
  rcases (by omega : m = 0 ∨ m = 1 ∨ m = 2 ∨ m = 3) with rfl | rfl | rfl | rfl
  · have hw' : bits .and .i64 which 3 = 0 := hw
    have HP := hid (request_any l v w hr)
    unfold Rdq at HP
    have e1 : rdE 0 l = (rqs l).1 := rfl
    have e2 : rdP 0 l = (rqs l).2.1 := rfl
    rw [e1, e2]
    clear hw hr e1 e2
    generalize (rqs l).1 = ee at *
    generalize (rqs l).2.1 = ep at *
    generalize (rqs l).2.2 = er at *
    go_enter Try.func14, Try.ntmps14
    go_wp2_with fail
    refine Calls.mono HP.out ?_
    rintro e w' ⟨v', rfl, _, hb⟩
    have HB := hid hb
    clear hb HP
    go_wp2
    go_ret2
    exact ⟨rfl, HB.out⟩
  · have hw' : bits .and .i64 which 3 = 1 := hw
    have HP := hid (reply_any l v w hr)
    unfold Rdp at HP
    have e1 : rdE 1 l = (rps l).1 := rfl
    have e2 : rdP 1 l = (rps l).2.1 := rfl
    rw [e1, e2]
    clear hw hr e1 e2
    generalize (rps l).1 = ee at *
    generalize (rps l).2.1 = ep at *
    generalize (rps l).2.2 = er at *
    go_enter Try.func14, Try.ntmps14
    go_wp2_with fail
    refine Calls.mono HP.out ?_
    rintro e w' ⟨v', rfl, _, hb⟩
    have HB := hid hb
    clear hb HP
    go_wp2
    go_ret2
    exact ⟨rfl, HB.out⟩
  · have hw' : bits .and .i64 which 3 = 2 := hw
    have HP := hid (record_any l v w hr)
    unfold Rdr at HP
    have e1 : rdE 2 l = (rcs l).1 := rfl
    have e2 : rdP 2 l = (rcs l).2.1 := rfl
    rw [e1, e2]
    clear hw hr e1 e2
    generalize (rcs l).1 = ee at *
    generalize (rcs l).2.1 = ep at *
    generalize (rcs l).2.2 = er at *
    go_enter Try.func14, Try.ntmps14
    go_wp2_with fail
    refine Calls.mono HP.out ?_
    rintro e w' ⟨v', rfl, _, hb⟩
    have HB := hid hb
    clear hb HP
    go_wp2
    go_ret2
    exact ⟨rfl, HB.out⟩
  · have hw' : bits .and .i64 which 3 = 3 := hw
    have HP := hid (state_any l v w hr)
    unfold Rds at HP
    have e1 : rdE 3 l = (rss l).1 := rfl
    have e2 : rdP 3 l = (rss l).2.1 := rfl
    rw [e1, e2]
    clear hw hr e1 e2
    generalize (rss l).1 = ee at *
    generalize (rss l).2.1 = ep at *
    generalize (rss l).2.2 = er at *
    go_enter Try.func14, Try.ntmps14
    go_wp2_with fail
    refine Calls.mono HP.out ?_
    rintro e w' ⟨v1, v2, v3, rfl, _, hb⟩
    have HB := hid hb
    clear hb HP
    go_wp2
    go_ret2
    exact ⟨rfl, HB.out⟩
end Go.Proofs.Ytfhicemfhkhjaaa
