/-
  CodecForm: what each reader takes is written as it was. Laid by mkfo1.py.
-/
import Derived.Test.YtfhicemfhkhjaaaFm1
namespace Go.Proofs.Ytfhicemfhkhjaaa
open Go.RowKit
set_option maxRecDepth 100000

theorem row_form {w : World} {base n k : Nat} {T : TypeId} {v : Value} {L : List Value} (h : w.ownsRow base T k v n L) : ∃ ao c, v = .slice ao n c := by
  rcases h.2 with ⟨g, h0⟩ | ⟨x, y, z, g1, _⟩
  · exact ⟨none, 0, by rw [g, h0]⟩
  · exact ⟨_, _, g1⟩
theorem lvok_of {L : List Lv} {most : Nat} (hm : most ≤ 1000000000000) (h : ∀ y ∈ L, y.1.size ≤ most ∧ I64 y.2.1 ∧ I64 y.2.2) : LvOk L := fun i hi => by
  have := h _ (List.getElem_mem hi)
  exact ⟨by omega, this.2.1, this.2.2⟩
theorem rq_may {q : Rq} {most : Nat} (hm : most ≤ 1000000) (ht : RqT most q) : RqOk q := by
  have h1 := ht.id
  have h2 := ht.hold
  have h3 := ht.lines.1
  exact ⟨⟨by omega, by omega, by omega⟩, ht.kind, ht.ttl, ht.now⟩
/-- a request as a value -/
def Vq (q : Rq) (a1 : Option Addr) (p1 : Nat) : Value := .agg #[.string q.id, .int .i64 q.kind, .slice a1 q.lines.length p1, .string q.hold, .int .i64 q.ttl, .int .i64 q.now]
/-- a request that may be written -/
def Mq (q : Rq) (a1 : Option Addr) (w : World) : Prop := RqOk q ∧ LL w w.heap.size a1 q.lines
theorem Mq.below {q : Rq} {a1 : Option Addr} {w w' : World} (h : Mq q a1 w) (b : Below w.heap.size w w') : Mq q a1 w' := ⟨h.1, h.2.below b (b.size)⟩
theorem request_yes (l : List UInt8) (v : Value) (w : World) (hr : Reads w v l) (h0 : (rqs l).1 = 0) :
    Calls Try.prog 16 #[v] w fun e w' => ∃ a1 p1, e = .returned (.tuple #[Vq (rqs l).2.2 a1 p1, .int .i64 0, .int .i64 0]) ∧ l = 81 :: rqB (rqs l).2.2 ∧ l.length ≤ 4096 ∧ Mq (rqs l).2.2 a1 w' ∧ Below w.heap.size w w' := by
  have hf := h0
  rw [rqs_whole] at hf
  obtain ⟨f1, f2, f3, f4⟩ := (Fd.request 4096 (by decide)).whole_form _ hf
  rw [← rqs_whole] at f1 f2 f4
  refine (request_any l v w hr).mono ?_
  rintro e w' ⟨v1, rfl, ho, hb⟩
  have hr1 := ho.reads
  obtain ⟨a1, p1, rfl⟩ := hr1.form
  refine ⟨a1, p1, ?_, f1, f3, ⟨rq_may (by omega) f2, hr1.ll (lnok_of (by omega) f2.lines.2)⟩, hb⟩
  rw [h0, f4]
  rfl
theorem request_no (l : List UInt8) (v : Value) (w : World) (hr : Reads w v l) (h0 : ¬ (rqs l).1 = 0) :
    Calls Try.prog 16 #[v] w fun e w' => ∃ (q : Rq) (a1 : Option Addr) (n1 p1 : Nat) (ke kp : Int), e = .returned (.tuple #[.agg #[.string q.id, .int .i64 q.kind, .slice a1 n1 p1, .string q.hold, .int .i64 q.ttl, .int .i64 q.now], .int .i64 ke, .int .i64 kp]) ∧ ¬ ke = 0 ∧ Below w.heap.size w w' := by
  refine (request_any l v w hr).mono ?_
  rintro e w' ⟨v1, rfl, ho, hb⟩
  obtain ⟨a1, n1, p1, rfl⟩ := ho.form
  exact ⟨(rqs l).2.2, a1, n1, p1, ((rqs l).1 : Int), ((rqs l).2.1 : Int), rfl, by omega, hb⟩
theorem putrequest_yes (q : Rq) (a1 : Option Addr) (p1 : Nat) (l : List UInt8) (w : World) (hm : Mq q a1 w) (hq : l = 81 :: rqB q) (hl : l.length ≤ 4096) :
    Calls Try.prog 15 #[Vq q a1 p1] w fun e w' => ∃ v', e = .returned (.tuple #[v', .int .i64 0]) ∧ Reads w' v' l ∧ Below w.heap.size w w' := by
  refine (putRequest_any q a1 p1 w hm.1 hm.2).mono ?_
  rintro e w' ⟨v', rfl, ho, hb⟩
  rw [← hq, if_pos hl] at *
  exact ⟨v', rfl, ho.reads, hb⟩
/-- a reply as a value -/
def Vp (q : Ry) (a1 : Option Addr) (p1 : Nat) : Value := .agg #[.string q.id, .int .i64 q.err, .int .i64 q.line, .slice a1 q.levels.length p1, .int .i64 q.now]
/-- a reply that may be written -/
def Mp (q : Ry) (a1 : Option Addr) (w : World) : Prop := RpOk q ∧ LV w w.heap.size a1 q.levels
theorem Mp.below {q : Ry} {a1 : Option Addr} {w w' : World} (h : Mp q a1 w) (b : Below w.heap.size w w') : Mp q a1 w' := ⟨h.1, h.2.below b (b.size)⟩
theorem reply_yes (l : List UInt8) (v : Value) (w : World) (hr : Reads w v l) (h0 : (rps l).1 = 0) :
    Calls Try.prog 19 #[v] w fun e w' => ∃ a1 p1, e = .returned (.tuple #[Vp (rps l).2.2 a1 p1, .int .i64 0, .int .i64 0]) ∧ l = 82 :: rpB (rps l).2.2 ∧ l.length ≤ 4096 ∧ Mp (rps l).2.2 a1 w' ∧ Below w.heap.size w w' := by
  have hf := h0
  rw [rps_whole] at hf
  obtain ⟨f1, f2, f3, f4⟩ := (Fd.reply 4096 (by decide)).whole_form _ hf
  rw [← rps_whole] at f1 f2 f4
  refine (reply_any l v w hr).mono ?_
  rintro e w' ⟨v1, rfl, ho, hb⟩
  have hr1 := ho.reads
  obtain ⟨a1, p1, rfl⟩ := hr1.form
  have h1 := f2.id
  have h2 := f2.levels.1
  refine ⟨a1, p1, ?_, f1, f3, ⟨⟨⟨by omega, by omega⟩, f2.err, f2.line, f2.now⟩, hr1.lv (lvok_of (by omega) f2.levels.2)⟩, hb⟩
  rw [h0, f4]
  rfl
theorem reply_no (l : List UInt8) (v : Value) (w : World) (hr : Reads w v l) (h0 : ¬ (rps l).1 = 0) :
    Calls Try.prog 19 #[v] w fun e w' => ∃ (q : Ry) (a1 : Option Addr) (n1 p1 : Nat) (ke kp : Int), e = .returned (.tuple #[.agg #[.string q.id, .int .i64 q.err, .int .i64 q.line, .slice a1 n1 p1, .int .i64 q.now], .int .i64 ke, .int .i64 kp]) ∧ ¬ ke = 0 ∧ Below w.heap.size w w' := by
  refine (reply_any l v w hr).mono ?_
  rintro e w' ⟨v1, rfl, ho, hb⟩
  obtain ⟨a1, n1, p1, rfl⟩ := ho.form
  exact ⟨(rps l).2.2, a1, n1, p1, ((rps l).1 : Int), ((rps l).2.1 : Int), rfl, by omega, hb⟩
theorem putreply_yes (q : Ry) (a1 : Option Addr) (p1 : Nat) (l : List UInt8) (w : World) (hm : Mp q a1 w) (hq : l = 82 :: rpB q) (hl : l.length ≤ 4096) :
    Calls Try.prog 18 #[Vp q a1 p1] w fun e w' => ∃ v', e = .returned (.tuple #[v', .int .i64 0]) ∧ Reads w' v' l ∧ Below w.heap.size w w' := by
  refine (putReply_any q a1 p1 w hm.1 hm.2).mono ?_
  rintro e w' ⟨v', rfl, ho, hb⟩
  rw [← hq, if_pos hl] at *
  exact ⟨v', rfl, ho.reads, hb⟩
/-- a record as a value -/
def Vr (q : Int × Rq) (a1 : Option Addr) (p1 : Nat) : Value := .agg #[.int .i64 q.1, .string q.2.id, .int .i64 q.2.kind, .slice a1 q.2.lines.length p1, .string q.2.hold, .int .i64 q.2.ttl, .int .i64 q.2.now]
/-- a record that may be written -/
def Mr (q : Int × Rq) (a1 : Option Addr) (w : World) : Prop := I64 q.1 ∧ RqOk q.2 ∧ LL w w.heap.size a1 q.2.lines
theorem Mr.below {q : Int × Rq} {a1 : Option Addr} {w w' : World} (h : Mr q a1 w) (b : Below w.heap.size w w') : Mr q a1 w' := ⟨h.1, h.2.1, h.2.2.below b b.size⟩
theorem record_yes (l : List UInt8) (v : Value) (w : World) (hr : Reads w v l) (h0 : (rcs l).1 = 0) :
    Calls Try.prog 22 #[v] w fun e w' => ∃ a1 p1, e = .returned (.tuple #[Vr (rcs l).2.2 a1 p1, .int .i64 0, .int .i64 0]) ∧ l = 83 :: (grp (foldI (rcs l).2.2.1) ++ rqB (rcs l).2.2.2) ∧ l.length ≤ 4096 ∧ Mr (rcs l).2.2 a1 w' ∧ Below w.heap.size w w' := by
  have hf := h0
  rw [rcs_whole] at hf
  obtain ⟨f1, f2, f3, f4⟩ := (Fd.record 4096 (by decide)).whole_form _ hf
  rw [← rcs_whole] at f1 f2 f4
  refine (record_any l v w hr).mono ?_
  rintro e w' ⟨v1, rfl, ho, hb⟩
  have hr1 := ho.reads
  obtain ⟨a1, p1, rfl⟩ := hr1.form
  refine ⟨a1, p1, ?_, f1, f3, ⟨f2.1, rq_may (by omega) f2.2, hr1.ll (lnok_of (by omega) f2.2.lines.2)⟩, hb⟩
  rw [h0, f4]
  rfl
theorem record_no (l : List UInt8) (v : Value) (w : World) (hr : Reads w v l) (h0 : ¬ (rcs l).1 = 0) :
    Calls Try.prog 22 #[v] w fun e w' => ∃ (q : Int × Rq) (a1 : Option Addr) (n1 p1 : Nat) (ke kp : Int), e = .returned (.tuple #[.agg #[.int .i64 q.1, .string q.2.id, .int .i64 q.2.kind, .slice a1 n1 p1, .string q.2.hold, .int .i64 q.2.ttl, .int .i64 q.2.now], .int .i64 ke, .int .i64 kp]) ∧ ¬ ke = 0 ∧ Below w.heap.size w w' := by
  refine (record_any l v w hr).mono ?_
  rintro e w' ⟨v1, rfl, ho, hb⟩
  obtain ⟨a1, n1, p1, rfl⟩ := ho.form
  exact ⟨(rcs l).2.2, a1, n1, p1, ((rcs l).1 : Int), ((rcs l).2.1 : Int), rfl, by omega, hb⟩
theorem putrecord_yes (q : Int × Rq) (a1 : Option Addr) (p1 : Nat) (l : List UInt8) (w : World) (hm : Mr q a1 w) (hq : l = 83 :: (grp (foldI q.1) ++ rqB q.2)) (hl : l.length ≤ 4096) :
    Calls Try.prog 21 #[Vr q a1 p1] w fun e w' => ∃ v', e = .returned (.tuple #[v', .int .i64 0]) ∧ Reads w' v' l ∧ Below w.heap.size w w' := by
  refine (putRecord_any q.1 q.2 a1 p1 w hm.1.1 hm.1.2 hm.2.1 hm.2.2).mono ?_
  rintro e w' ⟨v', rfl, ho, hb⟩
  rw [← hq, if_pos hl] at *
  exact ⟨v', rfl, ho.reads, hb⟩
/-- a state as a value -/
def Vs (q : Sx) (a1 : Option Addr) (p1 : Nat) (a2 : Option Addr) (p2 : Nat) (a3 : Option Addr) (p3 : Nat) : Value := .agg #[.int .i64 q.room, .int .i64 q.lsn, .int .i64 q.now, .slice a1 q.levels.length p1, .slice a2 q.holds.length p2, .slice a3 q.done.length p3]
/-- a state that may be written -/
def Ms (q : Sx) (a1 : Option Addr) (a2 : Option Addr) (a3 : Option Addr) (w : World) : Prop := SxOk q ∧ LV w w.heap.size a1 q.levels ∧ HLs w w.heap.size a2 q.holds ∧ DLs w w.heap.size a3 q.done
theorem Ms.below {q : Sx} {a1 : Option Addr} {a2 : Option Addr} {a3 : Option Addr} {w w' : World} (h : Ms q a1 a2 a3 w) (b : Below w.heap.size w w') : Ms q a1 a2 a3 w' := ⟨h.1, h.2.1.below b b.size, h.2.2.1.below b b.size, h.2.2.2.below b b.size⟩
theorem state_yes (l : List UInt8) (v : Value) (w : World) (hr : Reads w v l) (h0 : (rss l).1 = 0) :
    Calls Try.prog 25 #[v] w fun e w' => ∃ a1 p1 a2 p2 a3 p3, e = .returned (.tuple #[Vs (rss l).2.2 a1 p1 a2 p2 a3 p3, .int .i64 0, .int .i64 0]) ∧ l = 84 :: sxB (rss l).2.2 ∧ l.length ≤ 131072 ∧ Ms (rss l).2.2 a1 a2 a3 w' ∧ Below w.heap.size w w' := by
  have hf := h0
  rw [rss_whole] at hf
  obtain ⟨f1, f2, f3, f4⟩ := (Fd.state 131072 (by decide)).whole_form _ hf
  rw [← rss_whole] at f1 f2 f4
  refine (state_any l v w hr).mono ?_
  rintro e w' ⟨v1, v2, v3, rfl, ho, hb⟩
  obtain ⟨o1, o2, o3⟩ := ho
  have hr1 := o1.reads
  obtain ⟨a1, p1, rfl⟩ := hr1.form
  obtain ⟨a2, p2, rfl⟩ : ∃ a c, v2 = .slice a _ c := by obtain ⟨_, _, h, _⟩ := o2; exact row_form h
  obtain ⟨a3, p3, rfl⟩ : ∃ a c, v3 = .slice a _ c := by obtain ⟨_, _, h, _⟩ := o3; exact row_form h
  have h1 := f2.levels.1
  have h2 := f2.holds.1
  have h3 := f2.done.1
  refine ⟨a1, p1, a2, p2, a3, p3, ?_, f1, f3, ⟨⟨f2.room, f2.lsn, f2.now, by omega, by omega, by omega⟩, hr1.lv (lvok_of (by omega) f2.levels.2), o2.hls (by omega) f2.holds.2, o3.dls (by omega) f2.done.2⟩, hb⟩
  rw [h0, f4]
  rfl
theorem state_no (l : List UInt8) (v : Value) (w : World) (hr : Reads w v l) (h0 : ¬ (rss l).1 = 0) :
    Calls Try.prog 25 #[v] w fun e w' => ∃ (q : Sx) (a1 : Option Addr) (n1 p1 : Nat) (a2 : Option Addr) (n2 p2 : Nat) (a3 : Option Addr) (n3 p3 : Nat) (ke kp : Int), e = .returned (.tuple #[.agg #[.int .i64 q.room, .int .i64 q.lsn, .int .i64 q.now, .slice a1 n1 p1, .slice a2 n2 p2, .slice a3 n3 p3], .int .i64 ke, .int .i64 kp]) ∧ ¬ ke = 0 ∧ Below w.heap.size w w' := by
  refine (state_any l v w hr).mono ?_
  rintro e w' ⟨v1, v2, v3, rfl, ho, hb⟩
  obtain ⟨a1, n1, p1, rfl⟩ := ho.1.form
  obtain ⟨a2, n2, p2, rfl⟩ := ho.2.1.form
  obtain ⟨a3, n3, p3, rfl⟩ := ho.2.2.form
  exact ⟨(rss l).2.2, a1, n1, p1, a2, n2, p2, a3, n3, p3, ((rss l).1 : Int), ((rss l).2.1 : Int), rfl, by omega, hb⟩
theorem putstate_yes (q : Sx) (a1 : Option Addr) (p1 : Nat) (a2 : Option Addr) (p2 : Nat) (a3 : Option Addr) (p3 : Nat) (l : List UInt8) (w : World) (hm : Ms q a1 a2 a3 w) (hq : l = 84 :: sxB q) (hl : l.length ≤ 131072) :
    Calls Try.prog 24 #[Vs q a1 p1 a2 p2 a3 p3] w fun e w' => ∃ v', e = .returned (.tuple #[v', .int .i64 0]) ∧ Reads w' v' l ∧ Below w.heap.size w w' := by
  refine (putState_any q a1 a2 a3 p1 p2 p3 w hm.1 hm.2.1 hm.2.2.1 hm.2.2.2).mono ?_
  rintro e w' ⟨v', rfl, ho, hb⟩
  rw [← hq, if_pos hl] at *
  exact ⟨v', rfl, ho.reads, hb⟩
/-- only one of four first bytes -/
theorem one_key {a b : UInt8} {l m n : List UInt8} (h1 : l = a :: m) (h2 : l = b :: n) : a = b := by rw [h1] at h2; injection h2
theorem rqs_key {l : List UInt8} (h0 : (rqs l).1 = 0) : ∃ m, l = 81 :: m := by
  rw [rqs_whole] at h0
  exact ⟨_, ((Fd.request 4096 (by decide)).whole_form _ h0).1⟩
theorem rps_key {l : List UInt8} (h0 : (rps l).1 = 0) : ∃ m, l = 82 :: m := by
  rw [rps_whole] at h0
  exact ⟨_, ((Fd.reply 4096 (by decide)).whole_form _ h0).1⟩
theorem rcs_key {l : List UInt8} (h0 : (rcs l).1 = 0) : ∃ m, l = 83 :: m := by
  rw [rcs_whole] at h0
  exact ⟨_, ((Fd.record 4096 (by decide)).whole_form _ h0).1⟩
theorem rss_key {l : List UInt8} (h0 : (rss l).1 = 0) : ∃ m, l = 84 :: m := by
  rw [rss_whole] at h0
  exact ⟨_, ((Fd.state 131072 (by decide)).whole_form _ h0).1⟩
set_option maxHeartbeats 4000000 in
theorem taken_any (l : List UInt8) (v : Value) (w : World) (hr : Reads w v l) :
    Calls Try.prog 9 #[v] w fun e w' => ∃ k : Int, (k = 0 ∨ k = 1) ∧ (l = [] → k = 0) ∧ e = .returned (.int .i64 k) ∧ Below w.heap.size w w' := by
  obtain ⟨bo, bc, rfl⟩ := hr.form
  have B0 := hid (Below.refl w.heap.size w)
  go_enter Try.func9, Try.ntmps9
  go_wp2_with fail
  by_cases gq : (rqs l).1 = 0
  · refine Calls.mono (request_yes l _ _ (hr.below B0.out) gq) ?_
    rintro e w1 ⟨a1, p1, rfl, hq, hl, hm, hb⟩
    have B1 := hid (B0.out.trans (hb.mono B0.out.size))
    generalize (rqs l).2.2 = q at *
    obtain ⟨W1, hW1⟩ : ∃ W, w1.alloc (.cells #[.string q.id, .int .i64 q.kind, .slice a1 q.lines.length p1, .string q.hold, .int .i64 q.ttl, .int .i64 q.now] 28) = W := ⟨_, rfl⟩
    have b1 : Below w1.heap.size w1 W1 := by rw [← hW1]; exact (Below.refl _ _).alloc (Nat.le_refl _) _
    have HP := hid (putrequest_yes q a1 p1 l W1 (hm.below b1) hq hl)
    have C1 := hid (B1.out.trans (b1.mono B1.out.size))
    have HW1 := hid hW1
    have HQ := hid hq
    unfold Vq at HP ⊢
    clear hb b1 hm hW1 hq hl
    go_wp2_with fail
    rw [HW1.out]
    refine Calls.mono HP.out ?_
    rintro e x1 ⟨v1, rfl, hr1, hb⟩
    have D1 := hid (C1.out.trans (hb.mono C1.out.size))
    have t1 := text_run hr1
    have t2 := text_run (hr.below D1.out)
    clear HP hr1 hb B1 C1 HW1
    have gp : ¬ (rps l).1 = 0 := fun h => by obtain ⟨m, hm⟩ := rps_key h; exact absurd (one_key HQ.out hm) (by decide)
    go_wp2_with fail
    refine Calls.mono (reply_no l _ _ (hr.below D1.out) gp) ?_
    rintro e w2 ⟨q2, a21, n21, p21, ke2, kp2, rfl, hk2, hb⟩
    have B2 := hid (D1.out.trans (hb.mono D1.out.size))
    obtain ⟨W2, hW2⟩ : ∃ W, w2.alloc (.cells #[.string q2.id, .int .i64 q2.err, .int .i64 q2.line, .slice a21 n21 p21, .int .i64 q2.now] 32) = W := ⟨_, rfl⟩
    have b2 : Below w2.heap.size w2 W2 := by rw [← hW2]; exact (Below.refl _ _).alloc (Nat.le_refl _) _
    have C2 := hid (B2.out.trans (b2.mono B2.out.size))
    have HW2 := hid hW2
    clear hb b2 B2 hW2
    have gr : ¬ (rcs l).1 = 0 := fun h => by obtain ⟨m, hm⟩ := rcs_key h; exact absurd (one_key HQ.out hm) (by decide)
    go_wp2_with fail
    rw [HW2.out]
    refine Calls.mono (record_no l _ _ (hr.below C2.out) gr) ?_
    rintro e w3 ⟨q3, a31, n31, p31, ke3, kp3, rfl, hk3, hb⟩
    have B3 := hid (C2.out.trans (hb.mono C2.out.size))
    obtain ⟨W3, hW3⟩ : ∃ W, w3.alloc (.cells #[.int .i64 q3.1, .string q3.2.id, .int .i64 q3.2.kind, .slice a31 n31 p31, .string q3.2.hold, .int .i64 q3.2.ttl, .int .i64 q3.2.now] 53) = W := ⟨_, rfl⟩
    have b3 : Below w3.heap.size w3 W3 := by rw [← hW3]; exact (Below.refl _ _).alloc (Nat.le_refl _) _
    have C3 := hid (B3.out.trans (b3.mono B3.out.size))
    have HW3 := hid hW3
    clear hb b3 B3 hW3
    have gs : ¬ (rss l).1 = 0 := fun h => by obtain ⟨m, hm⟩ := rss_key h; exact absurd (one_key HQ.out hm) (by decide)
    go_wp2_with fail
    rw [HW3.out]
    refine Calls.mono (state_no l _ _ (hr.below C3.out) gs) ?_
    rintro e w4 ⟨q4, a41, n41, p41, a42, n42, p42, a43, n43, p43, ke4, kp4, rfl, hk4, hb⟩
    have B4 := hid (C3.out.trans (hb.mono C3.out.size))
    obtain ⟨W4, hW4⟩ : ∃ W, w4.alloc (.cells #[.int .i64 q4.room, .int .i64 q4.lsn, .int .i64 q4.now, .slice a41 n41 p41, .slice a42 n42 p42, .slice a43 n43 p43] 36) = W := ⟨_, rfl⟩
    have b4 : Below w4.heap.size w4 W4 := by rw [← hW4]; exact (Below.refl _ _).alloc (Nat.le_refl _) _
    have C4 := hid (B4.out.trans (b4.mono B4.out.size))
    have HW4 := hid hW4
    clear hb b4 B4 hW4
    go_wp2
    go_ret
    rw [HW4.out]
    exact ⟨_, .inr rfl, fun h => (by have hq := HQ.out; rw [h] at hq; cases hq), rfl, C4.out⟩
  · refine Calls.mono (request_no l _ _ (hr.below B0.out) gq) ?_
    rintro e w1 ⟨q1, a11, n11, p11, ke1, kp1, rfl, hk1, hb⟩
    have B1 := hid (B0.out.trans (hb.mono B0.out.size))
    obtain ⟨W1, hW1⟩ : ∃ W, w1.alloc (.cells #[.string q1.id, .int .i64 q1.kind, .slice a11 n11 p11, .string q1.hold, .int .i64 q1.ttl, .int .i64 q1.now] 28) = W := ⟨_, rfl⟩
    have b1 : Below w1.heap.size w1 W1 := by rw [← hW1]; exact (Below.refl _ _).alloc (Nat.le_refl _) _
    have C1 := hid (B1.out.trans (b1.mono B1.out.size))
    have HW1 := hid hW1
    clear hb b1 B1 hW1
    go_wp2_with fail
    rw [HW1.out]
    by_cases gp : (rps l).1 = 0
    · refine Calls.mono (reply_yes l _ _ (hr.below C1.out) gp) ?_
      rintro e w2 ⟨a1, p1, rfl, hq, hl, hm, hb⟩
      have B2 := hid (C1.out.trans (hb.mono C1.out.size))
      generalize (rps l).2.2 = q at *
      obtain ⟨W2, hW2⟩ : ∃ W, w2.alloc (.cells #[.string q.id, .int .i64 q.err, .int .i64 q.line, .slice a1 q.levels.length p1, .int .i64 q.now] 32) = W := ⟨_, rfl⟩
      have b2 : Below w2.heap.size w2 W2 := by rw [← hW2]; exact (Below.refl _ _).alloc (Nat.le_refl _) _
      have HP := hid (putreply_yes q a1 p1 l W2 (hm.below b2) hq hl)
      have C2 := hid (B2.out.trans (b2.mono B2.out.size))
      have HW2 := hid hW2
      have HQ := hid hq
      unfold Vp at HP ⊢
      clear hb b2 hm hW2 hq hl
      go_wp2_with fail
      rw [HW2.out]
      refine Calls.mono HP.out ?_
      rintro e x2 ⟨v2, rfl, hr2, hb⟩
      have D2 := hid (C2.out.trans (hb.mono C2.out.size))
      have t1 := text_run hr2
      have t2 := text_run (hr.below D2.out)
      clear HP hr2 hb B2 C2 HW2
      have gr : ¬ (rcs l).1 = 0 := fun h => by obtain ⟨m, hm⟩ := rcs_key h; exact absurd (one_key HQ.out hm) (by decide)
      go_wp2_with fail
      refine Calls.mono (record_no l _ _ (hr.below D2.out) gr) ?_
      rintro e w3 ⟨q3, a31, n31, p31, ke3, kp3, rfl, hk3, hb⟩
      have B3 := hid (D2.out.trans (hb.mono D2.out.size))
      obtain ⟨W3, hW3⟩ : ∃ W, w3.alloc (.cells #[.int .i64 q3.1, .string q3.2.id, .int .i64 q3.2.kind, .slice a31 n31 p31, .string q3.2.hold, .int .i64 q3.2.ttl, .int .i64 q3.2.now] 53) = W := ⟨_, rfl⟩
      have b3 : Below w3.heap.size w3 W3 := by rw [← hW3]; exact (Below.refl _ _).alloc (Nat.le_refl _) _
      have C3 := hid (B3.out.trans (b3.mono B3.out.size))
      have HW3 := hid hW3
      clear hb b3 B3 hW3
      have gs : ¬ (rss l).1 = 0 := fun h => by obtain ⟨m, hm⟩ := rss_key h; exact absurd (one_key HQ.out hm) (by decide)
      go_wp2_with fail
      rw [HW3.out]
      refine Calls.mono (state_no l _ _ (hr.below C3.out) gs) ?_
      rintro e w4 ⟨q4, a41, n41, p41, a42, n42, p42, a43, n43, p43, ke4, kp4, rfl, hk4, hb⟩
      have B4 := hid (C3.out.trans (hb.mono C3.out.size))
      obtain ⟨W4, hW4⟩ : ∃ W, w4.alloc (.cells #[.int .i64 q4.room, .int .i64 q4.lsn, .int .i64 q4.now, .slice a41 n41 p41, .slice a42 n42 p42, .slice a43 n43 p43] 36) = W := ⟨_, rfl⟩
      have b4 : Below w4.heap.size w4 W4 := by rw [← hW4]; exact (Below.refl _ _).alloc (Nat.le_refl _) _
      have C4 := hid (B4.out.trans (b4.mono B4.out.size))
      have HW4 := hid hW4
      clear hb b4 B4 hW4
      go_wp2
      go_ret
      rw [HW4.out]
      exact ⟨_, .inr rfl, fun h => (by have hq := HQ.out; rw [h] at hq; cases hq), rfl, C4.out⟩
    · refine Calls.mono (reply_no l _ _ (hr.below C1.out) gp) ?_
      rintro e w2 ⟨q2, a21, n21, p21, ke2, kp2, rfl, hk2, hb⟩
      have B2 := hid (C1.out.trans (hb.mono C1.out.size))
      obtain ⟨W2, hW2⟩ : ∃ W, w2.alloc (.cells #[.string q2.id, .int .i64 q2.err, .int .i64 q2.line, .slice a21 n21 p21, .int .i64 q2.now] 32) = W := ⟨_, rfl⟩
      have b2 : Below w2.heap.size w2 W2 := by rw [← hW2]; exact (Below.refl _ _).alloc (Nat.le_refl _) _
      have C2 := hid (B2.out.trans (b2.mono B2.out.size))
      have HW2 := hid hW2
      clear hb b2 B2 hW2
      go_wp2_with fail
      rw [HW2.out]
      by_cases gr : (rcs l).1 = 0
      · refine Calls.mono (record_yes l _ _ (hr.below C2.out) gr) ?_
        rintro e w3 ⟨a1, p1, rfl, hq, hl, hm, hb⟩
        have B3 := hid (C2.out.trans (hb.mono C2.out.size))
        generalize (rcs l).2.2 = q at *
        obtain ⟨W3, hW3⟩ : ∃ W, w3.alloc (.cells #[.int .i64 q.1, .string q.2.id, .int .i64 q.2.kind, .slice a1 q.2.lines.length p1, .string q.2.hold, .int .i64 q.2.ttl, .int .i64 q.2.now] 53) = W := ⟨_, rfl⟩
        have b3 : Below w3.heap.size w3 W3 := by rw [← hW3]; exact (Below.refl _ _).alloc (Nat.le_refl _) _
        have HP := hid (putrecord_yes q a1 p1 l W3 (hm.below b3) hq hl)
        have C3 := hid (B3.out.trans (b3.mono B3.out.size))
        have HW3 := hid hW3
        have HQ := hid hq
        unfold Vr at HP ⊢
        clear hb b3 hm hW3 hq hl
        go_wp2_with fail
        rw [HW3.out]
        refine Calls.mono HP.out ?_
        rintro e x3 ⟨v3, rfl, hr3, hb⟩
        have D3 := hid (C3.out.trans (hb.mono C3.out.size))
        have t1 := text_run hr3
        have t2 := text_run (hr.below D3.out)
        clear HP hr3 hb B3 C3 HW3
        have gs : ¬ (rss l).1 = 0 := fun h => by obtain ⟨m, hm⟩ := rss_key h; exact absurd (one_key HQ.out hm) (by decide)
        go_wp2_with fail
        refine Calls.mono (state_no l _ _ (hr.below D3.out) gs) ?_
        rintro e w4 ⟨q4, a41, n41, p41, a42, n42, p42, a43, n43, p43, ke4, kp4, rfl, hk4, hb⟩
        have B4 := hid (D3.out.trans (hb.mono D3.out.size))
        obtain ⟨W4, hW4⟩ : ∃ W, w4.alloc (.cells #[.int .i64 q4.room, .int .i64 q4.lsn, .int .i64 q4.now, .slice a41 n41 p41, .slice a42 n42 p42, .slice a43 n43 p43] 36) = W := ⟨_, rfl⟩
        have b4 : Below w4.heap.size w4 W4 := by rw [← hW4]; exact (Below.refl _ _).alloc (Nat.le_refl _) _
        have C4 := hid (B4.out.trans (b4.mono B4.out.size))
        have HW4 := hid hW4
        clear hb b4 B4 hW4
        go_wp2
        go_ret
        rw [HW4.out]
        exact ⟨_, .inr rfl, fun h => (by have hq := HQ.out; rw [h] at hq; cases hq), rfl, C4.out⟩
      · refine Calls.mono (record_no l _ _ (hr.below C2.out) gr) ?_
        rintro e w3 ⟨q3, a31, n31, p31, ke3, kp3, rfl, hk3, hb⟩
        have B3 := hid (C2.out.trans (hb.mono C2.out.size))
        obtain ⟨W3, hW3⟩ : ∃ W, w3.alloc (.cells #[.int .i64 q3.1, .string q3.2.id, .int .i64 q3.2.kind, .slice a31 n31 p31, .string q3.2.hold, .int .i64 q3.2.ttl, .int .i64 q3.2.now] 53) = W := ⟨_, rfl⟩
        have b3 : Below w3.heap.size w3 W3 := by rw [← hW3]; exact (Below.refl _ _).alloc (Nat.le_refl _) _
        have C3 := hid (B3.out.trans (b3.mono B3.out.size))
        have HW3 := hid hW3
        clear hb b3 B3 hW3
        go_wp2_with fail
        rw [HW3.out]
        by_cases gs : (rss l).1 = 0
        · refine Calls.mono (state_yes l _ _ (hr.below C3.out) gs) ?_
          rintro e w4 ⟨a1, p1, a2, p2, a3, p3, rfl, hq, hl, hm, hb⟩
          have B4 := hid (C3.out.trans (hb.mono C3.out.size))
          generalize (rss l).2.2 = q at *
          obtain ⟨W4, hW4⟩ : ∃ W, w4.alloc (.cells #[.int .i64 q.room, .int .i64 q.lsn, .int .i64 q.now, .slice a1 q.levels.length p1, .slice a2 q.holds.length p2, .slice a3 q.done.length p3] 36) = W := ⟨_, rfl⟩
          have b4 : Below w4.heap.size w4 W4 := by rw [← hW4]; exact (Below.refl _ _).alloc (Nat.le_refl _) _
          have HP := hid (putstate_yes q a1 p1 a2 p2 a3 p3 l W4 (hm.below b4) hq hl)
          have C4 := hid (B4.out.trans (b4.mono B4.out.size))
          have HW4 := hid hW4
          have HQ := hid hq
          unfold Vs at HP ⊢
          clear hb b4 hm hW4 hq hl
          go_wp2_with fail
          rw [HW4.out]
          refine Calls.mono HP.out ?_
          rintro e x4 ⟨v4, rfl, hr4, hb⟩
          have D4 := hid (C4.out.trans (hb.mono C4.out.size))
          have t1 := text_run hr4
          have t2 := text_run (hr.below D4.out)
          clear HP hr4 hb B4 C4 HW4
          go_wp2
          go_ret
          exact ⟨_, .inr rfl, fun h => (by have hq := HQ.out; rw [h] at hq; cases hq), rfl, D4.out⟩
        · refine Calls.mono (state_no l _ _ (hr.below C3.out) gs) ?_
          rintro e w4 ⟨q4, a41, n41, p41, a42, n42, p42, a43, n43, p43, ke4, kp4, rfl, hk4, hb⟩
          have B4 := hid (C3.out.trans (hb.mono C3.out.size))
          obtain ⟨W4, hW4⟩ : ∃ W, w4.alloc (.cells #[.int .i64 q4.room, .int .i64 q4.lsn, .int .i64 q4.now, .slice a41 n41 p41, .slice a42 n42 p42, .slice a43 n43 p43] 36) = W := ⟨_, rfl⟩
          have b4 : Below w4.heap.size w4 W4 := by rw [← hW4]; exact (Below.refl _ _).alloc (Nat.le_refl _) _
          have C4 := hid (B4.out.trans (b4.mono B4.out.size))
          have HW4 := hid hW4
          clear hb b4 B4 hW4
          go_wp2
          go_ret
          rw [HW4.out]
          exact ⟨_, .inl rfl, fun h => rfl, rfl, C4.out⟩
end Go.Proofs.Ytfhicemfhkhjaaa
