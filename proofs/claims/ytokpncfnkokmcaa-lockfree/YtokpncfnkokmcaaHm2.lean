/-
  A handler's step in memory.
-/
import Derived.Test.YtokpncfnkokmcaaHm1
namespace Go.Proofs.Ytokpncfnkokmcaa
open Go.RowKit
set_option maxRecDepth 100000

/-- handlers and table in memory, and what holds of them -/
structure FSx (w0 w : World) (d hb : Nat) (v : Value) (n : Nat) (H : List Hn) (T : List Hd) (M : List Mh) : Prop where
  fi : FI n H T
  tp : TP w w0.heap.size d hb T
  hm : HM w w0.heap.size v M H
  below : Below w0.heap.size w0 w
theorem FSx.later {w0 w w' : World} {d hb : Nat} {v : Value} {n : Nat} {H : List Hn} {T : List Hd} {M : List Mh} (h : FSx w0 w d hb v n H T M) (k : Below w.heap.size w w') : FSx w0 w' d hb v n H T M :=
  ⟨h.fi, h.tp.below k, h.hm.later k, h.below.trans (k.mono h.below.size)⟩
/-- behind a call that wrote the table: the table's own row has turned -/
theorem FSx.table {w0 w w' : World} {d hb : Nat} {v : Value} {n : Nat} {H : List Hn} {T : List Hd} {M : List Mh} (h : FSx w0 w d hb v n H T M) (k : Kw (fun k => k = hb) w w') : HM w' w0.heap.size v M H ∧ Below w0.heap.size w0 w' :=
  ⟨h.hm.kt h.tp.row k (by decide) (by decide) (by decide), Kw.since h.below h.below.size k (fun k e => e ▸ h.tp.gh)⟩
theorem tg_at {T : List Hd} {s : Int} (h0 : 0 ≤ s) (h1 : s < (T.length : Int)) : T[s.toNat]? = some (tg T s) := by
  unfold tg
  rw [List.getD_eq_getElem?_getD, List.getElem?_eq_getElem (by omega)]
  rfl
/-- behind At's going up -/
theorem FSx.up {w0 w : World} {d hb : Nat} {v : Value} {n : Nat} {H : List Hn} {T : List Hd} {M : List Mh} {i : Nat} {m : Mh} {h : Hn} (tp : TP w w0.heap.size d hb T) (hm : HM w w0.heap.size v M H) (b : Below w0.heap.size w0 w) (fi : FI n (H.set i (nx h)) T) (h1 : M[i]? = some m) (h2 : H[i]? = some h) : FSx w0 (w.setCell ⟨m.1, 1, none⟩ (.int .i64 ((aa h : Int) + 1))) d hb v n (H.set i (nx h)) T M := by
  have hc := hm.cell i m h h1 h2
  have k := Kw.set (P := fun k => k = m.1) w ⟨m.1, 1, none⟩ (.int .i64 ((aa h : Int) + 1)) rfl
  exact ⟨fi, tp.kw k (ty_ne tp.top hc.2.1 (by decide)) (ty_ne tp.row hc.2.1 (by decide)), hm.up h1 h2, Kw.since b b.size k (fun k e => e ▸ hc.1)⟩
/-- what a step leaves -/
def SP (w0 : World) (d hb : Nat) (v : Value) (n : Nat) (H : List Hn) (T : List Hd) (h : Hn) (w' : World) : Prop :=
  ∃ H' T' M', FSx w0 w' d hb v n H' T' M' ∧ M'.map (·.1) = M'.map (·.1) ∧ H'.map (·.1) = H.map (·.1) ∧ sm aa H' = sm aa H + (if can T h then 1 else 0)
theorem map_set (H : List Hn) (i : Nat) (h h' : Hn) (hi : H[i]? = some h) (e : h'.1 = h.1) : (H.set i h').map (·.1) = H.map (·.1) := by
  rw [List.map_set, e]
  obtain ⟨hl, rfl⟩ := List.getElem?_eq_some_iff.1 hi
  have : H[i].1 = (H.map (·.1))[i]'(by simpa using hl) := by simp
  rw [this, List.set_getElem_self]
theorem sm_up (H : List Hn) (i : Nat) (h h' : Hn) (hi : H[i]? = some h) (e : aa h' = aa h + 1) : sm aa (H.set i h') = sm aa H + 1 := by
  have := sm_set aa h' H i h hi
  omega
set_option maxHeartbeats 1000000 in
theorem raw_leave (w : World) (b d g1 cap1 g2 cap2 N a k l2 : Nat) (s t : Int) (c0 : w.cell? ⟨b, 0, none⟩ = some (.slice (some ⟨g1, 0, none⟩) N cap1)) (c1 : w.cell? ⟨b, 1, none⟩ = some (.int .i64 (a : Int))) (c2 : w.cell? ⟨b, 2, none⟩ = some (.slice (some ⟨g2, 0, none⟩) l2 cap2)) (r1 : w.cell? ⟨g1, k, none⟩ = some (.int .i64 s)) (r2 : w.cell? ⟨g2, k, none⟩ = some (.int .i64 t)) (hk : k < N) (hl : k < l2) (hN : N ≤ 100) (ha : a = 4 * N + k) (Q : World → Prop) (hL : Calls Try.prog 16 #[.pointer (some ⟨d, 0, none⟩), .int .i64 s, .int .i64 t] w fun e w' => e = .returned (.int .i64 0) ∧ Q w') (hQ : ∀ w', Q w' → w'.cell? ⟨b, 1, none⟩ = some (.int .i64 (a : Int)) ∧ w'.frozen? ⟨b, 1, none⟩ = false) :
    Calls Try.prog 9 #[.pointer (some ⟨b, 0, none⟩), .pointer (some ⟨d, 0, none⟩)] w fun e w' => e = .returned (.tuple #[.bool true, .bool true]) ∧ ∃ w1, Q w1 ∧ w' = w1.setCell ⟨b, 1, none⟩ (.int .i64 ((a : Int) + 1)) := by
  have HL := hid hL
  have HQ := hid hQ
  have t1 : ¬ (a : Int) < 2 * (N : Int) := by omega
  have t2 : ¬ (a : Int) < 3 * (N : Int) := by omega
  have t3 : ¬ (a : Int) < 4 * (N : Int) := by omega
  have t4 : (a : Int) < 5 * (N : Int) := by omega
  have t5 : (a : Int) - 4 * (N : Int) = (k : Int) := by omega
  have hkN : (k : Int) < (N : Int) := by omega
  have hkl : (k : Int) < (l2 : Int) := by omega
  have ha1 : (a : Int) ≤ 500 := by omega
  clear hL hQ ha
  go_enter Try.func9, Try.ntmps9
  go_wp2_with fail
  refine Calls.mono HL.out ?_
  rintro e w1 ⟨rfl, hq⟩
  obtain ⟨q1, q2⟩ := HQ.out w1 hq
  have HW := hid hq
  clear hq HL HQ
  go_wp2
  go_ret2
  exact ⟨rfl, w1, HW.out, rfl⟩
set_option maxHeartbeats 1000000 in
theorem raw_odd (w : World) (b d g1 cap1 g2 cap2 N a k l2 : Nat) (s t : Int) (c0 : w.cell? ⟨b, 0, none⟩ = some (.slice (some ⟨g1, 0, none⟩) N cap1)) (c1 : w.cell? ⟨b, 1, none⟩ = some (.int .i64 (a : Int))) (c2 : w.cell? ⟨b, 2, none⟩ = some (.slice (some ⟨g2, 0, none⟩) l2 cap2)) (r1 : w.cell? ⟨g1, k, none⟩ = some (.int .i64 s)) (r2 : w.cell? ⟨g2, k, none⟩ = some (.int .i64 t)) (hk : k < N) (hl : k < l2) (hN : N ≤ 100) (ha : a = 2 * N + k) (q : Int) (hq0 : 0 ≤ q) (hq1 : q ≤ 1000) (hq2 : q % 2 = 0) (Q : World → Prop) (hS : Calls Try.prog 12 #[.pointer (some ⟨d, 0, none⟩), .int .i64 s] w fun e w' => e = .returned (.int .i64 q) ∧ w' = w) (hL : Calls Try.prog 17 #[.pointer (some ⟨d, 0, none⟩), .int .i64 s, .int .i64 t] w fun e w' => e = .returned (.int .i64 0) ∧ Q w') (hQ : ∀ w', Q w' → w'.cell? ⟨b, 1, none⟩ = some (.int .i64 (a : Int)) ∧ w'.frozen? ⟨b, 1, none⟩ = false)
    (hS2 : ∀ w', Q w' → Calls Try.prog 12 #[.pointer (some ⟨d, 0, none⟩), .int .i64 s] (w'.setCell ⟨b, 1, none⟩ (.int .i64 ((a : Int) + 1))) fun e w'' => e = .returned (.int .i64 (q + 1)) ∧ w'' = w'.setCell ⟨b, 1, none⟩ (.int .i64 ((a : Int) + 1))) :
    Calls Try.prog 9 #[.pointer (some ⟨b, 0, none⟩), .pointer (some ⟨d, 0, none⟩)] w fun e w' => e = .returned (.tuple #[.bool true, .bool true]) ∧ ∃ w1, Q w1 ∧ w' = w1.setCell ⟨b, 1, none⟩ (.int .i64 ((a : Int) + 1)) := by
  have HL := hid hL
  have HQ := hid hQ
  have HS := hid hS
  have HS2 := hid hS2
  have t1 : ¬ (a : Int) < 2 * (N : Int) := by omega
  have t2 : (a : Int) < 3 * (N : Int) := by omega
  have t5 : (a : Int) - 2 * (N : Int) = (k : Int) := by omega
  have hkN : (k : Int) < (N : Int) := by omega
  have hkl : (k : Int) < (l2 : Int) := by omega
  have ha1 : (a : Int) ≤ 500 := by omega
  have hq3 : q.tmod 2 = 0 := by rw [Int.tmod_eq_emod_of_nonneg hq0]; exact hq2
  clear hL hQ ha hS hS2
  go_enter Try.func9, Try.ntmps9
  go_wp2_with fail
  refine Calls.mono HS.out ?_
  rintro e w0 ⟨rfl, rfl⟩
  go_wp2_with fail
  refine Calls.mono HL.out ?_
  rintro e w1 ⟨rfl, hq⟩
  obtain ⟨q1, q2⟩ := HQ.out w1 hq
  have HW := hid hq
  have HT := hid (HS2.out w1 hq)
  clear hq HL HQ HS2 HS
  go_wp2_with fail
  refine Calls.mono HT.out ?_
  rintro e w2 ⟨rfl, rfl⟩
  go_wp2
  go_ret2
  exact ⟨rfl, w1, HW.out, rfl⟩
set_option maxHeartbeats 1000000 in
theorem raw_even (w : World) (b d g1 cap1 g2 cap2 N a k l2 : Nat) (s t : Int) (c0 : w.cell? ⟨b, 0, none⟩ = some (.slice (some ⟨g1, 0, none⟩) N cap1)) (c1 : w.cell? ⟨b, 1, none⟩ = some (.int .i64 (a : Int))) (c2 : w.cell? ⟨b, 2, none⟩ = some (.slice (some ⟨g2, 0, none⟩) l2 cap2)) (r1 : w.cell? ⟨g1, k, none⟩ = some (.int .i64 s)) (r2 : w.cell? ⟨g2, k, none⟩ = some (.int .i64 t)) (hk : k < N) (hl : k < l2) (hN : N ≤ 100) (ha : a = 3 * N + k) (q : Int) (hq0 : 0 ≤ q) (hq1 : q ≤ 1000) (hq2 : q % 2 = 1) (Q : World → Prop) (hS : Calls Try.prog 12 #[.pointer (some ⟨d, 0, none⟩), .int .i64 s] w fun e w' => e = .returned (.int .i64 q) ∧ w' = w) (hL : Calls Try.prog 18 #[.pointer (some ⟨d, 0, none⟩), .int .i64 s, .int .i64 t] w fun e w' => e = .returned (.int .i64 0) ∧ Q w') (hQ : ∀ w', Q w' → w'.cell? ⟨b, 1, none⟩ = some (.int .i64 (a : Int)) ∧ w'.frozen? ⟨b, 1, none⟩ = false)
    (hS2 : ∀ w', Q w' → Calls Try.prog 12 #[.pointer (some ⟨d, 0, none⟩), .int .i64 s] (w'.setCell ⟨b, 1, none⟩ (.int .i64 ((a : Int) + 1))) fun e w'' => e = .returned (.int .i64 (q + 1)) ∧ w'' = w'.setCell ⟨b, 1, none⟩ (.int .i64 ((a : Int) + 1))) :
    Calls Try.prog 9 #[.pointer (some ⟨b, 0, none⟩), .pointer (some ⟨d, 0, none⟩)] w fun e w' => e = .returned (.tuple #[.bool true, .bool true]) ∧ ∃ w1, Q w1 ∧ w' = w1.setCell ⟨b, 1, none⟩ (.int .i64 ((a : Int) + 1)) := by
  have HL := hid hL
  have HQ := hid hQ
  have HS := hid hS
  have HS2 := hid hS2
  have t1 : ¬ (a : Int) < 2 * (N : Int) := by omega
  have t2 : ¬ (a : Int) < 3 * (N : Int) := by omega
  have t3 : (a : Int) < 4 * (N : Int) := by omega
  have t5 : (a : Int) - 3 * (N : Int) = (k : Int) := by omega
  have hkN : (k : Int) < (N : Int) := by omega
  have hkl : (k : Int) < (l2 : Int) := by omega
  have ha1 : (a : Int) ≤ 500 := by omega
  have hq3 : q.tmod 2 = 1 := by rw [Int.tmod_eq_emod_of_nonneg hq0]; exact hq2
  clear hL hQ ha hS hS2
  go_enter Try.func9, Try.ntmps9
  go_wp2_with fail
  refine Calls.mono HS.out ?_
  rintro e w0 ⟨rfl, rfl⟩
  go_wp2_with fail
  refine Calls.mono HL.out ?_
  rintro e w1 ⟨rfl, hq⟩
  obtain ⟨q1, q2⟩ := HQ.out w1 hq
  have HW := hid hq
  have HT := hid (HS2.out w1 hq)
  clear hq HL HQ HS2 HS
  go_wp2_with fail
  refine Calls.mono HT.out ?_
  rintro e w2 ⟨rfl, rfl⟩
  go_wp2
  go_ret2
  exact ⟨rfl, w1, HW.out, rfl⟩
set_option maxHeartbeats 1000000 in
theorem raw_serve (w : World) (b d g1 cap1 g2 cap2 N a k l2 : Nat) (s t : Int) (c0 : w.cell? ⟨b, 0, none⟩ = some (.slice (some ⟨g1, 0, none⟩) N cap1)) (c1 : w.cell? ⟨b, 1, none⟩ = some (.int .i64 (a : Int))) (c2 : w.cell? ⟨b, 2, none⟩ = some (.slice (some ⟨g2, 0, none⟩) l2 cap2)) (r1 : w.cell? ⟨g1, k, none⟩ = some (.int .i64 s)) (r2 : w.cell? ⟨g2, k, none⟩ = some (.int .i64 t)) (hk : k < N) (hl : k < l2) (hN : N ≤ 100) (ha : a = 2 * k + 1) (bb : Bool) (f1 : w.frozen? ⟨b, 1, none⟩ = false) (hL : Calls Try.prog 15 #[.pointer (some ⟨d, 0, none⟩), .int .i64 s, .int .i64 t] w fun e w' => e = .returned (.bool bb) ∧ Below w.heap.size w w') :
    Calls Try.prog 9 #[.pointer (some ⟨b, 0, none⟩), .pointer (some ⟨d, 0, none⟩)] w fun e w' => e = .returned (.tuple #[.bool bb, .bool true]) ∧ ∃ w1, Below w.heap.size w w1 ∧ w' = if bb then w1.setCell ⟨b, 1, none⟩ (.int .i64 ((a : Int) + 1)) else w1 := by
  have HL := hid hL
  have t1 : (a : Int) < 2 * (N : Int) := by omega
  have t5 : (a : Int).tdiv 2 = (k : Int) := by rw [Int.tdiv_eq_ediv_of_nonneg (by omega)]; omega
  have t6 : (a : Int).tmod 2 = 1 := by rw [Int.tmod_eq_emod_of_nonneg (by omega)]; omega
  have t7 : (a : Int) / 2 = (k : Int) := by omega
  have t8 : (a : Int) % 2 = 1 := by omega
  have hkN : (k : Int) < (N : Int) := by omega
  have hkl : (k : Int) < (l2 : Int) := by omega
  have ha1 : (a : Int) ≤ 500 := by omega
  clear hL ha
  go_enter Try.func9, Try.ntmps9
  go_wp2_with fail
  refine Calls.mono HL.out ?_
  rintro e w1 ⟨rfl, hq⟩
  have q1 := below_cells hq _ _ c1
  have q2 : w1.frozen? ⟨b, 1, none⟩ = false := by rw [hq.frozen (p := ⟨b, 1, none⟩) (World.block_lt_of_cell? _ _ c1)]; exact f1
  have HW := hid hq
  clear hq HL
  cases bb with
  | true =>
    go_wp2
    go_ret2
    exact ⟨rfl, w1, HW.out, rfl⟩
  | false =>
    go_wp2
    go_ret2
    first | exact ⟨rfl, w1, HW.out, rfl⟩ | exact ⟨rfl, HW.out⟩ | (refine ⟨rfl, ?_⟩; simpa using HW.out)
theorem raw_done (w : World) (b d N a : Nat) (ao : Option Addr) (cap : Nat) (c0 : w.cell? ⟨b, 0, none⟩ = some (.slice ao N cap)) (c1 : w.cell? ⟨b, 1, none⟩ = some (.int .i64 (a : Int))) (hN : N ≤ 100) (ha : 5 * N ≤ a) :
    Calls Try.prog 9 #[.pointer (some ⟨b, 0, none⟩), .pointer (some ⟨d, 0, none⟩)] w fun e w' => e = .returned (.tuple #[.bool false, .bool true]) ∧ w' = w := by
  have t1 : ¬ (a : Int) < 2 * (N : Int) := by omega
  have t2 : ¬ (a : Int) < 3 * (N : Int) := by omega
  have t3 : ¬ (a : Int) < 4 * (N : Int) := by omega
  have t4 : ¬ (a : Int) < 5 * (N : Int) := by omega
  clear ha
  go_enter Try.func9, Try.ntmps9
  go_wp2
  go_ret2
  exact ⟨rfl, rfl⟩
theorem one_new (w : World) (x : Int) : ∀ j u, ([.int .i64 x] : List Value)[j]? = some u → (w.alloc (.cells #[.int .i64 x] 3)).cell? ((⟨w.heap.size, 0, none⟩ : Addr).add j) = some u := by
  intro j u hj
  match j, hj with
  | 0, hj => simp at hj; subst hj; simp [Addr.add]
  | n + 1, hj => simp at hj
theorem one_one (x : Int) : ∀ u ∈ ([.int .i64 x] : List Value), u.oneCell' = true := by
  intro u hu
  simp at hu
  subst hu
  rfl
set_option maxHeartbeats 2000000 in
theorem raw_ticket (w : World) (b d g1 cap1 N a k base : Nat) (s x : Int) (tv : Value) (tk : List Int) (c0 : w.cell? ⟨b, 0, none⟩ = some (.slice (some ⟨g1, 0, none⟩) N cap1)) (c1 : w.cell? ⟨b, 1, none⟩ = some (.int .i64 (a : Int))) (r1 : w.cell? ⟨g1, k, none⟩ = some (.int .i64 s)) (hk : k < N) (hN : N ≤ 100) (ha : a = 2 * k) (htk : tk.length ≤ 100) (Q : World → Prop)
    (hT : Calls Try.prog 14 #[.pointer (some ⟨d, 0, none⟩), .int .i64 s] w fun e w' => e = .returned (.tuple #[.int .i64 x, .int .i64 0]) ∧ Q w')
    (hQ : ∀ w', Q w' → w'.cell? ⟨b, 1, none⟩ = some (.int .i64 (a : Int)) ∧ w'.frozen? ⟨b, 1, none⟩ = false ∧ w'.cell? ⟨b, 2, none⟩ = some tv ∧ w'.frozen? ⟨b, 2, none⟩ = false ∧ OI w' base tv tk ∧ base ≤ w'.heap.size ∧ tv.ownBlock ≠ some b) :
    Calls Try.prog 9 #[.pointer (some ⟨b, 0, none⟩), .pointer (some ⟨d, 0, none⟩)] w fun e w' => e = .returned (.tuple #[.bool true, .bool true]) ∧ ∃ w1 w2 tv', Q w1 ∧ OI w2 base tv' (tk ++ [x]) ∧ (w1.alloc (.cells #[.int .i64 x] 3)).grownBy w2 tv.ownBlock ∧ (tv'.ownBlock = tv.ownBlock ∨ tv'.ownBlock = some (w1.heap.size + 1)) ∧ w' = (w2.setCell ⟨b, 2, none⟩ tv').setCell ⟨b, 1, none⟩ (.int .i64 ((a : Int) + 1)) := by
  obtain ⟨i0, hi0, hz0, hz1, hz2⟩ := info_parts intinfo
  have HI := hid hi0
  have HT := hid hT
  have HQ := hid hQ
  have t1 : (a : Int) < 2 * (N : Int) := by omega
  have t5 : (a : Int).tdiv 2 = (k : Int) := by rw [Int.tdiv_eq_ediv_of_nonneg (by omega)]; omega
  have t6 : (a : Int).tmod 2 = 0 := by rw [Int.tmod_eq_emod_of_nonneg (by omega)]; omega
  have t7 : (a : Int) / 2 = (k : Int) := by omega
  have t8 : (a : Int) % 2 = 0 := by omega
  have hkN : (k : Int) < (N : Int) := by omega
  have ha1 : (a : Int) ≤ 500 := by omega
  clear hT hQ ha
  go_enter Try.func9, Try.ntmps9
  go_wp2_with fail
  refine Calls.mono HT.out ?_
  rintro e w1 ⟨rfl, hq⟩
  obtain ⟨q1, q2, q3, q4, q5, q6, q7⟩ := HQ.out w1 hq
  have HW := hid hq
  have HO := hid q5
  have HB := hid q6
  have HN := hid q7
  have hbl : b < w1.heap.size := World.block_lt_of_cell? _ _ q1
  clear hq HT HQ q5 q6 q7
  go_wp2_with (at_builtin; refine wpList_append_own_at _ rfl _ _ 23 rfl base 3 i0 (.int .i64 0) 1 8 Try.underlying23 HI.out hz0 hz1 hz2 rfl (by decide) _ _ _ rfl (HO.out.alloc _) ⟨w1.heap.size, 0, none⟩ 1 1 [.int .i64 x] rfl rfl (one_new _ _) (one_one _) ?m1 ?m2 ?m3 ?hnext)
  case m1 => unfold maxLen; omega
  case m2 => omega
  case m3 => have := HB.out; simp; omega
  case hnext =>
    intro tv' w2 hown' hgrow _ hloc
    have hoi : OI w2 base tv' (tk ++ [x]) := by
      unfold OI
      rw [ic_app, List.length_append]
      exact hown'
    have e1 := (hgrow.block b (by simp; omega) (fun e => HN.out e.symm)).trans (((Below.refl w1.heap.size w1).alloc (Nat.le_refl _) (.cells #[.int .i64 x] 3)).block b hbl)
    have p1 : w2.cell? ⟨b, 1, none⟩ = some (.int .i64 (a : Int)) := (World.cell?_of_block (a := ⟨b, 1, none⟩) e1).trans q1
    have p2 : w2.frozen? ⟨b, 1, none⟩ = false := (World.frozen?_of_block (a := ⟨b, 1, none⟩) e1).trans q2
    have p3 : w2.cell? ⟨b, 2, none⟩ = some tv := (World.cell?_of_block (a := ⟨b, 2, none⟩) e1).trans q3
    have p4 : w2.frozen? ⟨b, 2, none⟩ = false := (World.frozen?_of_block (a := ⟨b, 2, none⟩) e1).trans q4
    obtain ⟨gg, cg, hvg, _, _, _⟩ := hoi.form (by simp)
    subst hvg
    have HOI := hid hoi
    have HG := hid hgrow
    have HL := hid hloc
    clear hown' hgrow hloc hoi e1 q1 q2 q3 q4 hbl
    go_wp2
    go_ret2
    exact ⟨rfl, w1, w2, _, HW.out, HOI.out, HG.out, by have := HL.out; simpa using this, by simp⟩
end Go.Proofs.Ytokpncfnkokmcaa
