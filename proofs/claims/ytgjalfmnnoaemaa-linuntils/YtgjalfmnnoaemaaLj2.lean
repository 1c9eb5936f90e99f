/-
  lin: clones of lists, an op as it is seen, copied; the document's twin of an op. Laid by mklj2.py.
-/
import Derived.Test.YtgjalfmnnoaemaaLj1
namespace Go.Proofs.Ytgjalfmnnoaemaa
open Go.RowKit
set_option maxRecDepth 100000

attribute [local go_sem ↓] opLd_op opSt_op bsO_op rySt_op
theorem eqInLn (w : World) (n : Nat) (ad : Addr) (l c : Nat) : (Op.equalIn (n + 1) 28 (.slice (some ad) l c) (.slice none 0 0)).run Try.prog w = .ok false w := by
  simp [Op.equalIn, run_underlying Try.underlying28]
theorem eqNilLn (w : World) (ad : Addr) (l c : Nat) : (binOp .eql 28 (.slice (some ad) l c) (.slice none 0 0)).run Try.prog w = .ok (.bool false) w := by
  simp only [binOp]
  simp [Op.equal, Op.maxDepth, eqInLn w 9999 ad l c]
theorem eqInLv (w : World) (n : Nat) (ad : Addr) (l c : Nat) : (Op.equalIn (n + 1) 31 (.slice (some ad) l c) (.slice none 0 0)).run Try.prog w = .ok false w := by
  simp [Op.equalIn, run_underlying Try.underlying31]
theorem eqNilLv (w : World) (ad : Addr) (l c : Nat) : (binOp .eql 31 (.slice (some ad) l c) (.slice none 0 0)).run Try.prog w = .ok (.bool false) w := by
  simp only [binOp]
  simp [Op.equal, Op.maxDepth, eqInLv w 9999 ad l c]
set_option maxHeartbeats 2000000 in
theorem cloneLn_any (v : Value) (L : List Ln) (w : World) (h : RLn w v L) (hl : L.length ≤ 5864062014634) :
    Calls Try.prog 30 #[v] w fun e w' => (∃ v', e = .returned v' ∧ OLn w' w.heap.size v' L) ∧ Below w.heap.size w w' := by
  rcases h.src with ⟨rfl, h0⟩ | ⟨ad, cp, rfl, hc⟩
  · obtain rfl : L = [] := List.eq_nil_of_length_eq_zero h0
    have hs : ∀ w : World, (binOp .eql 28 (.slice none 0 0) (.slice none 0 0)).run Try.prog w = .ok (.bool true) w := fun w => by kernel_rfl
    clear h hl h0
    go_enter Try.func30, Try.ntmps30
    go_wp2_with fail
    go_ret
    exact ⟨⟨_, rfl, World.ownsRow_nil _ _ _ _⟩, Below.refl _ _⟩
  · obtain ⟨W, hW⟩ : ∃ W, w.alloc (.cells #[] 40) = W := ⟨_, rfl⟩
    have BW := hid (show Below w.heap.size w W by rw [← hW]; exact (Below.refl _ _).alloc (Nat.le_refl _) _)
    have OW := hid (show W.ownsRow w.heap.size 40 2 (.slice (some ⟨w.heap.size, 0, none⟩) 0 0) 0 [] from ⟨rfl, .inr ⟨w.heap.size, 0, #[], rfl, Nat.le_refl _, by rw [← hW]; exact heap_alloc_new w _, Nat.le_refl _, Nat.zero_le _, rfl, rfl⟩⟩)
    have HC := hid (show ∀ j u, (lc L)[j]? = some u → W.cell? (ad.add j) = some u from fun j u hj => below_cells BW.out _ _ (hc j u hj))
    have hs : ∀ w : World, (binOp .eql 28 (.slice (some ad) L.length cp) (.slice none 0 0)).run Try.prog w = .ok (.bool false) w := fun w => eqNilLn w ad _ _
    clear h hc
    go_enter Try.func30, Try.ntmps30
    go_wp2_with (at_builtin; refine wpList_appX lninfo Try.underlying28 rfl (by decide) rfl (.tmp 5) (.tmp 6) rfl w.heap.size _ 0 [] rfl OW.out _ L.length (lc L) rfl (lc_len _) (.inr ⟨_, _, rfl, HC.out⟩) (lc_one _) (by unfold maxLen; omega) (by omega) BW.out.size ?n1)
    case n1 =>
    intro u1 w1 ho1 hg1 _
    have O1 := hid (show OLn w1 w.heap.size u1 L by simpa [OLn] using ho1)
    have B1 := hid (show Below w.heap.size w w1 from BW.out.grown hg1 BW.out.size (by intro k hk; cases hk; exact Nat.le_refl _))
    clear ho1 hg1 OW HC
    go_wp2_with fail
    go_ret
    exact ⟨⟨_, rfl, O1.out⟩, B1.out⟩
set_option maxHeartbeats 2000000 in
theorem cloneLv_any (v : Value) (L : List Lv) (w : World) (h : RLv w v L) (hl : L.length ≤ 4398046510976) :
    Calls Try.prog 31 #[v] w fun e w' => (∃ v', e = .returned v' ∧ OLv w' w.heap.size v' L) ∧ Below w.heap.size w w' := by
  rcases h.src with ⟨rfl, h0⟩ | ⟨ad, cp, rfl, hc⟩
  · obtain rfl : L = [] := List.eq_nil_of_length_eq_zero h0
    have hs : ∀ w : World, (binOp .eql 31 (.slice none 0 0) (.slice none 0 0)).run Try.prog w = .ok (.bool true) w := fun w => by kernel_rfl
    clear h hl h0
    go_enter Try.func31, Try.ntmps31
    go_wp2_with fail
    go_ret
    exact ⟨⟨_, rfl, World.ownsRow_nil _ _ _ _⟩, Below.refl _ _⟩
  · obtain ⟨W, hW⟩ : ∃ W, w.alloc (.cells #[] 42) = W := ⟨_, rfl⟩
    have BW := hid (show Below w.heap.size w W by rw [← hW]; exact (Below.refl _ _).alloc (Nat.le_refl _) _)
    have OW := hid (show W.ownsRow w.heap.size 42 3 (.slice (some ⟨w.heap.size, 0, none⟩) 0 0) 0 [] from ⟨rfl, .inr ⟨w.heap.size, 0, #[], rfl, Nat.le_refl _, by rw [← hW]; exact heap_alloc_new w _, Nat.le_refl _, Nat.zero_le _, rfl, rfl⟩⟩)
    have HC := hid (show ∀ j u, (vc L)[j]? = some u → W.cell? (ad.add j) = some u from fun j u hj => below_cells BW.out _ _ (hc j u hj))
    have hs : ∀ w : World, (binOp .eql 31 (.slice (some ad) L.length cp) (.slice none 0 0)).run Try.prog w = .ok (.bool false) w := fun w => eqNilLv w ad _ _
    clear h hc
    go_enter Try.func31, Try.ntmps31
    go_wp2_with (at_builtin; refine wpList_appX lvinfo Try.underlying31 rfl (by decide) rfl (.tmp 5) (.tmp 6) rfl w.heap.size _ 0 [] rfl OW.out _ L.length (vc L) rfl (vc_len _) (.inr ⟨_, _, rfl, HC.out⟩) (vc_one _) (by unfold maxLen; omega) (by omega) BW.out.size ?n1)
    case n1 =>
    intro u1 w1 ho1 hg1 _
    have O1 := hid (show OLv w1 w.heap.size u1 L by simpa [OLv] using ho1)
    have B1 := hid (show Below w.heap.size w w1 from BW.out.grown hg1 BW.out.size (by intro k hk; cases hk; exact Nat.le_refl _))
    clear ho1 hg1 OW HC
    go_wp2_with fail
    go_ret
    exact ⟨⟨_, rfl, O1.out⟩, B1.out⟩
/-- where the levels of an op as it is seen lie -/
def sv (m : Int) (x : Opx) (v : Value) : Value := if m < x.fin then .slice none 0 0 else v
set_option maxHeartbeats 4000000 in
theorem seenAt_any (x : Opx) (v1 v2 : Value) (m : Int) (w : World) (h1 : v1.oneCell' = true) (h2 : v2.oneCell' = true) :
    Calls Try.prog 21 #[opA x v1 v2, .int .i64 m] w fun e w' => e = .returned (opA (sn m x) v1 (sv m x v2)) ∧ Below w.heap.size w w' := by
  have hop : opA x v1 v2 = .agg #[.string x.req.id, .int .i64 x.req.kind, v1, .string x.req.hold, .int .i64 x.req.ttl, .int .i64 x.req.now, .string x.rep.id, .int .i64 x.rep.err, .int .i64 x.rep.line, v2, .int .i64 x.rep.now, .int .i64 x.beg, .int .i64 x.fin, .bool x.opn] := rfl
  rw [hop]
  obtain ⟨W, hW⟩ : ∃ W, (w.alloc (.cells #[.string x.req.id, .int .i64 x.req.kind, v1, .string x.req.hold, .int .i64 x.req.ttl, .int .i64 x.req.now, .string x.rep.id, .int .i64 x.rep.err, .int .i64 x.rep.line, v2, .int .i64 x.rep.now, .int .i64 x.beg, .int .i64 x.fin, .bool x.opn] 35)).alloc (.cells #[.string ⟨#[]⟩, .int .i64 0, .slice none 0 0, .string ⟨#[]⟩, .int .i64 0, .int .i64 0, .string ⟨#[]⟩, .int .i64 0, .int .i64 0, .slice none 0 0, .int .i64 0, .int .i64 0, .int .i64 0, .bool false] 35) = W := ⟨_, rfl⟩
  have zW : W.heap.size = w.heap.size + 2 := by rw [← hW]; simp
  have BW := hid (show Below w.heap.size w W by rw [← hW]; exact ((Below.refl _ _).alloc (Nat.le_refl _) _).alloc (by simp) _)
  have H1 := hid (show OB W w.heap.size x v1 v2 by
    rw [← hW]
    exact (((Below.refl (w.alloc (.cells #[.string x.req.id, .int .i64 x.req.kind, v1, .string x.req.hold, .int .i64 x.req.ttl, .int .i64 x.req.now, .string x.rep.id, .int .i64 x.rep.err, .int .i64 x.rep.line, v2, .int .i64 x.rep.now, .int .i64 x.beg, .int .i64 x.fin, .bool x.opn] 35)).heap.size _).alloc (Nat.le_refl _) _).block w.heap.size (by simp)).trans (heap_alloc_new w _))
  have H2 := hid (show OB W (w.heap.size + 1) ⟨⟨⟨#[]⟩, 0, [], ⟨#[]⟩, 0, 0⟩, ry0, 0, 0, false⟩ (.slice none 0 0) (.slice none 0 0) by
    rw [← hW]
    have := heap_alloc_new (w.alloc (.cells #[.string x.req.id, .int .i64 x.req.kind, v1, .string x.req.hold, .int .i64 x.req.ttl, .int .i64 x.req.now, .string x.rep.id, .int .i64 x.rep.err, .int .i64 x.rep.line, v2, .int .i64 x.rep.now, .int .i64 x.beg, .int .i64 x.fin, .bool x.opn] 35)) (.cells #[.string ⟨#[]⟩, .int .i64 0, .slice none 0 0, .string ⟨#[]⟩, .int .i64 0, .int .i64 0, .string ⟨#[]⟩, .int .i64 0, .int .i64 0, .slice none 0 0, .int .i64 0, .int .i64 0, .int .i64 0, .bool false] 35)
    rw [World.size_alloc] at this
    exact this)
  by_cases hm : m < x.fin
  · have hs : sn m x = ⟨x.req, ry0, x.beg, 4611686018427387904, true⟩ := if_pos hm
    have hv : sv m x v2 = .slice none 0 0 := if_pos hm
    rw [hs, hv]
    obtain ⟨W1, E1, O1, G1, z1⟩ := run_rySt H1.out
    have f12 : W1.frozen? ⟨w.heap.size, 12, none⟩ = false := Lib.frozen_of_heap O1 12
    have c12 := O1.at 12 _ rfl
    have c12b := H1.out.at 12 _ rfl
    rw [Nat.zero_add] at c12 c12b
    obtain ⟨W2, hW2⟩ : ∃ W2, W1.setCell ⟨w.heap.size, 12, none⟩ (.int .i64 4611686018427387904) = W2 := ⟨_, rfl⟩
    have O2 := hid (show OB W2 w.heap.size ⟨x.req, ry0, x.beg, 4611686018427387904, x.opn⟩ v1 (.slice none 0 0) by rw [← hW2]; exact O1.fin _)
    have f13 : W2.frozen? ⟨w.heap.size, 13, none⟩ = false := Lib.frozen_of_heap O2.out 13
    have c13 := O2.out.at 13 _ rfl
    rw [Nat.zero_add] at c13
    obtain ⟨W3, hW3⟩ : ∃ W3, W2.setCell ⟨w.heap.size, 13, none⟩ (.bool true) = W3 := ⟨_, rfl⟩
    have O3 := hid (show OB W3 w.heap.size ⟨x.req, ry0, x.beg, 4611686018427387904, true⟩ v1 (.slice none 0 0) by rw [← hW3]; exact O2.out.opn _)
    have B3 := hid (show Below w.heap.size w W3 by
      rw [← hW3, ← hW2]
      exact below_put (below_put (below_gb BW.out G1 (Nat.le_refl _) (by omega)) (Nat.le_refl _)) (Nat.le_refl _))
    have R3 := hid (show OB W3 (w.heap.size + 1) ⟨⟨⟨#[]⟩, 0, [], ⟨#[]⟩, 0, 0⟩, ry0, 0, 0, false⟩ (.slice none 0 0) (.slice none 0 0) by
      rw [← hW3, ← hW2]
      exact ((H2.out.gb G1 (by omega)).gb (gb_put _ _ _ _) (by omega)).gb (gb_put _ _ _ _) (by omega))
    have E3 := run_opLd O3.out.at
    obtain ⟨W4, E4, O4, G4, z4⟩ := run_opSt R3.out ⟨x.req, ry0, x.beg, 4611686018427387904, true⟩ h1 (show (Value.slice none 0 0).oneCell' = true from rfl)
    have E5 := run_opLd O4.at
    have B4 := hid (below_gb B3.out G4 (by omega) B3.out.size)
    generalize opA ⟨x.req, ry0, x.beg, 4611686018427387904, true⟩ v1 (.slice none 0 0) = X at E3 E4 E5 ⊢
    clear O1 G1 z1 O4 G4 z4 H1 H2 hs hv hop zW
    go_enter Try.func21, Try.ntmps21
    go_wp2_with fail
    refine bodyPost_ret (v := X) (by simp [results, Try.results21, asAddr, ↓opLd_op, E5]) rfl ?_
    exact ⟨rfl, B4.out⟩
  · have hs : sn m x = x := if_neg hm
    have hv : sv m x v2 = v2 := if_neg hm
    rw [hs, hv]
    have c12 := H1.out.at 12 _ rfl
    rw [Nat.zero_add] at c12
    have E3 := run_opLd H1.out.at
    obtain ⟨W4, E4, O4, G4, z4⟩ := run_opSt H2.out x h1 h2
    have E5 := run_opLd O4.at
    have B4 := hid (below_gb BW.out G4 (by omega) BW.out.size)
    obtain ⟨X, hX⟩ : ∃ X, X = opA x v1 v2 := ⟨_, rfl⟩
    rw [← hX] at E3 E4 E5 ⊢
    clear O4 G4 z4 H1 H2 hs hv zW hop hX
    go_enter Try.func21, Try.ntmps21
    go_wp2_with fail
    refine bodyPost_ret (v := X) (by simp [results, Try.results21, asAddr, ↓opLd_op, E5]) rfl ?_
    exact ⟨rfl, B4.out⟩
theorem own_gb {w W : World} {base : Nat} {e : TypeId} {size : Nat} {v : Value} {n : Nat} {xs : List Value} {g : Nat} (h : w.ownsRow base e size v n xs) (hg : w.grownBy W (some g)) (hlt : g < base) : W.ownsRow base e size v n xs := by
  refine World.ownsRow.kept h hg ?_
  cases hv : v.ownBlock with
  | none => exact .inl rfl
  | some k => exact .inr fun e => by cases e; have := (World.ownsRow.lt h _ hv).1; omega
theorem own_lower {w : World} {base base' : Nat} {e : TypeId} {size : Nat} {v : Value} {n : Nat} {xs : List Value} (h : w.ownsRow base e size v n xs) (hb : base' ≤ base) : w.ownsRow base' e size v n xs := by
  refine ⟨h.1, ?_⟩
  rcases h.2 with h2 | ⟨g, cap, cur, hv, hg, r⟩
  · exact .inl h2
  · exact .inr ⟨g, cap, cur, hv, Nat.le_trans hb hg, r⟩
set_option maxHeartbeats 4000000 in
theorem copied_any (x : Opx) (v1 v2 : Value) (w : World) (h1 : RLn w v1 x.req.lines) (h2 : RLv w v2 x.rep.levels) (hl : x.req.lines.length ≤ 5864062014634 ∧ x.rep.levels.length ≤ 4398046510976) :
    Calls Try.prog 20 #[opA x v1 v2] w fun e w' => (∃ u1 u2, e = .returned (opA x u1 u2) ∧ OLn w' w.heap.size u1 x.req.lines ∧ OLv w' w.heap.size u2 x.rep.levels) ∧ Below w.heap.size w w' := by
  have hop : opA x v1 v2 = .agg #[.string x.req.id, .int .i64 x.req.kind, v1, .string x.req.hold, .int .i64 x.req.ttl, .int .i64 x.req.now, .string x.rep.id, .int .i64 x.rep.err, .int .i64 x.rep.line, v2, .int .i64 x.rep.now, .int .i64 x.beg, .int .i64 x.fin, .bool x.opn] := rfl
  rw [hop]
  clear hop
  obtain ⟨W, hW⟩ : ∃ W, (w.alloc (.cells #[.string x.req.id, .int .i64 x.req.kind, v1, .string x.req.hold, .int .i64 x.req.ttl, .int .i64 x.req.now, .string x.rep.id, .int .i64 x.rep.err, .int .i64 x.rep.line, v2, .int .i64 x.rep.now, .int .i64 x.beg, .int .i64 x.fin, .bool x.opn] 35)).alloc (.cells #[.string ⟨#[]⟩, .int .i64 0, .slice none 0 0, .string ⟨#[]⟩, .int .i64 0, .int .i64 0, .string ⟨#[]⟩, .int .i64 0, .int .i64 0, .slice none 0 0, .int .i64 0, .int .i64 0, .int .i64 0, .bool false] 35) = W := ⟨_, rfl⟩
  have zW : W.heap.size = w.heap.size + 2 := by rw [← hW]; simp
  have BW := hid (show Below w.heap.size w W by rw [← hW]; exact ((Below.refl _ _).alloc (Nat.le_refl _) _).alloc (by simp) _)
  have H1 := hid (show OB W w.heap.size x v1 v2 by
    rw [← hW]
    exact (((Below.refl (w.alloc (.cells #[.string x.req.id, .int .i64 x.req.kind, v1, .string x.req.hold, .int .i64 x.req.ttl, .int .i64 x.req.now, .string x.rep.id, .int .i64 x.rep.err, .int .i64 x.rep.line, v2, .int .i64 x.rep.now, .int .i64 x.beg, .int .i64 x.fin, .bool x.opn] 35)).heap.size _).alloc (Nat.le_refl _) _).block w.heap.size (by simp)).trans (heap_alloc_new w _))
  have H2 := hid (show OB W (w.heap.size + 1) ⟨⟨⟨#[]⟩, 0, [], ⟨#[]⟩, 0, 0⟩, ry0, 0, 0, false⟩ (.slice none 0 0) (.slice none 0 0) by
    rw [← hW]
    have := heap_alloc_new (w.alloc (.cells #[.string x.req.id, .int .i64 x.req.kind, v1, .string x.req.hold, .int .i64 x.req.ttl, .int .i64 x.req.now, .string x.rep.id, .int .i64 x.rep.err, .int .i64 x.rep.line, v2, .int .i64 x.rep.now, .int .i64 x.beg, .int .i64 x.fin, .bool x.opn] 35)) (.cells #[.string ⟨#[]⟩, .int .i64 0, .slice none 0 0, .string ⟨#[]⟩, .int .i64 0, .int .i64 0, .string ⟨#[]⟩, .int .i64 0, .int .i64 0, .slice none 0 0, .int .i64 0, .int .i64 0, .int .i64 0, .bool false] 35)
    rw [World.size_alloc] at this
    exact this)
  obtain ⟨s1, t1, rfl⟩ := h1.form
  obtain ⟨s2, t2, rfl⟩ := h2.form
  have c2 := H1.out.at 2 _ rfl
  rw [Nat.zero_add] at c2
  have G1 := hid (h1.below BW.out)
  have G2 := hid h2
  have ZW := hid zW
  clear h1 h2 zW
  have C1 := hid (cloneLn_any _ x.req.lines W G1.out hl.1)
  go_enter Try.func20, Try.ntmps20
  go_wp2_with fail
  refine Calls.mono C1.out ?_
  rintro e w1 ⟨⟨u1, rfl, o1⟩, hb1⟩
  have O1 := hid (show OLn w1 W.heap.size u1 x.req.lines from o1)
  have B1 := hid hb1
  clear o1 hb1 C1 c2 hW
  obtain ⟨s3, t3, rfl⟩ := O1.out.reads.form
  have H11 := hid (H1.out.later B1.out)
  have H21 := hid (H2.out.later B1.out)
  have d2 := H11.out.at 2 _ rfl
  rw [Nat.zero_add] at d2
  have f2 : w1.frozen? ⟨w.heap.size, 2, none⟩ = false := Lib.frozen_of_heap H11.out 2
  obtain ⟨W2, hW2⟩ : ∃ W2, w1.setCell ⟨w.heap.size, 2, none⟩ (.slice s3 x.req.lines.length t3) = W2 := ⟨_, rfl⟩
  have H12 := hid (show OB W2 w.heap.size x (.slice s3 x.req.lines.length t3) (.slice s2 x.rep.levels.length t2) by rw [← hW2]; exact H11.out.lines _)
  have H22 := hid (show OB W2 (w.heap.size + 1) ⟨⟨⟨#[]⟩, 0, [], ⟨#[]⟩, 0, 0⟩, ry0, 0, 0, false⟩ (.slice none 0 0) (.slice none 0 0) by rw [← hW2]; exact H21.out.gb (gb_put _ _ _ _) (by omega))
  have O2 := hid (show OLn W2 W.heap.size (.slice s3 x.req.lines.length t3) x.req.lines by rw [← hW2]; exact own_gb O1.out (gb_put _ _ _ _) (by have := ZW.out; omega))
  have B2 := hid (show Below w.heap.size w W2 by rw [← hW2]; exact below_put (BW.out.trans (B1.out.mono BW.out.size)) (Nat.le_refl _))
  have z2 := hid (show W.heap.size ≤ W2.heap.size by rw [← hW2, World.size_setCell]; exact B1.out.size)
  have c9 := H12.out.at 9 _ rfl
  rw [Nat.zero_add] at c9
  have G22 := hid (G2.out.below B2.out)
  clear O1 B1 H1 H2 H11 H21 G1 G2
  have C2 := hid (cloneLv_any _ x.rep.levels W2 G22.out hl.2)
  go_wp2_with fail
  refine Calls.mono C2.out ?_
  rintro e w3 ⟨⟨u2, rfl, o3⟩, hb3⟩
  have O3 := hid (show OLv w3 W2.heap.size u2 x.rep.levels from o3)
  have B3 := hid hb3
  clear o3 hb3 C2 c9 hW2 d2 f2
  obtain ⟨s4, t4, rfl⟩ := O3.out.reads.form
  have H13 := hid (H12.out.later B3.out)
  have H23 := hid (H22.out.later B3.out)
  have d9 := H13.out.at 9 _ rfl
  rw [Nat.zero_add] at d9
  have f9 : w3.frozen? ⟨w.heap.size, 9, none⟩ = false := Lib.frozen_of_heap H13.out 9
  obtain ⟨W4, hW4⟩ : ∃ W4, w3.setCell ⟨w.heap.size, 9, none⟩ (.slice s4 x.rep.levels.length t4) = W4 := ⟨_, rfl⟩
  have H14 := hid (show OB W4 w.heap.size x (.slice s3 x.req.lines.length t3) (.slice s4 x.rep.levels.length t4) by rw [← hW4]; exact H13.out.levels _)
  have H24 := hid (show OB W4 (w.heap.size + 1) ⟨⟨⟨#[]⟩, 0, [], ⟨#[]⟩, 0, 0⟩, ry0, 0, 0, false⟩ (.slice none 0 0) (.slice none 0 0) by rw [← hW4]; exact H23.out.gb (gb_put _ _ _ _) (by omega))
  have O4 := hid (show OLv W4 W2.heap.size (.slice s4 x.rep.levels.length t4) x.rep.levels by rw [← hW4]; exact own_gb O3.out (gb_put _ _ _ _) (by have := ZW.out; have := z2.out; omega))
  have P4 := hid (show OLn W4 W.heap.size (.slice s3 x.req.lines.length t3) x.req.lines by rw [← hW4]; exact own_gb (own_later O2.out B3.out) (gb_put _ _ _ _) (by have := ZW.out; omega))
  have B4 := hid (show Below w.heap.size w W4 by rw [← hW4]; exact below_put (B2.out.trans (B3.out.mono B2.out.size)) (Nat.le_refl _))
  have E4 := run_opLd H14.out.at
  obtain ⟨W5, E5, R5, K5, z5⟩ := run_opSt H24.out x (show (Value.slice s3 x.req.lines.length t3).oneCell' = true from rfl) (show (Value.slice s4 x.rep.levels.length t4).oneCell' = true from rfl)
  have E6 := run_opLd R5.at
  have O5 := hid (show OLv W5 w.heap.size (.slice s4 x.rep.levels.length t4) x.rep.levels from own_lower (own_gb O4.out K5 (by have := ZW.out; have := z2.out; omega)) B2.out.size)
  have P5 := hid (show OLn W5 w.heap.size (.slice s3 x.req.lines.length t3) x.req.lines from own_lower (own_gb P4.out K5 (by have := ZW.out; omega)) BW.out.size)
  have B5 := hid (below_gb B4.out K5 (by omega) B4.out.size)
  obtain ⟨X, hX⟩ : ∃ X, X = opA x (.slice s3 x.req.lines.length t3) (.slice s4 x.rep.levels.length t4) := ⟨_, rfl⟩
  rw [← hX] at E4 E5 E6
  have HX := hid hX
  clear O3 B3 H12 H22 H13 H23 H14 H24 O4 P4 B4 R5 K5 z5 hX G22 O2
  go_wp2_with fail
  refine bodyPost_ret (v := X) (by simp [results, Try.results20, asAddr, ↓opLd_op, E6]) rfl ?_
  exact ⟨⟨_, _, by rw [HX.out], P5.out, O5.out⟩, B5.out⟩
set_option maxHeartbeats 4000000 in
theorem rtwin_any (x : Opx) (v1 v2 : Value) (w : World) (h1 : RLn w v1 x.req.lines) (h2 : RLv w v2 x.rep.levels) (hl : x.req.lines.length ≤ 5864062014634 ∧ x.rep.levels.length ≤ 4398046510976) :
    Calls Try.prog 22 #[opA x v1 v2] w fun e w' => (∃ u1 u2, e = .returned (opA x u1 u2) ∧ OLn w' w.heap.size u1 x.req.lines ∧ OLv w' w.heap.size u2 x.rep.levels) ∧ Below w.heap.size w w' := by
  have hop : opA x v1 v2 = .agg #[.string x.req.id, .int .i64 x.req.kind, v1, .string x.req.hold, .int .i64 x.req.ttl, .int .i64 x.req.now, .string x.rep.id, .int .i64 x.rep.err, .int .i64 x.rep.line, v2, .int .i64 x.rep.now, .int .i64 x.beg, .int .i64 x.fin, .bool x.opn] := rfl
  rw [hop]
  clear hop
  obtain ⟨W, hW⟩ : ∃ W, (w.alloc (.cells #[.string x.req.id, .int .i64 x.req.kind, v1, .string x.req.hold, .int .i64 x.req.ttl, .int .i64 x.req.now, .string x.rep.id, .int .i64 x.rep.err, .int .i64 x.rep.line, v2, .int .i64 x.rep.now, .int .i64 x.beg, .int .i64 x.fin, .bool x.opn] 35)).alloc (.cells #[.string ⟨#[]⟩, .int .i64 0, .slice none 0 0, .string ⟨#[]⟩, .int .i64 0, .int .i64 0, .string ⟨#[]⟩, .int .i64 0, .int .i64 0, .slice none 0 0, .int .i64 0, .int .i64 0, .int .i64 0, .bool false] 35) = W := ⟨_, rfl⟩
  have zW : W.heap.size = w.heap.size + 2 := by rw [← hW]; simp
  have BW := hid (show Below w.heap.size w W by rw [← hW]; exact ((Below.refl _ _).alloc (Nat.le_refl _) _).alloc (by simp) _)
  have H1 := hid (show OB W w.heap.size x v1 v2 by
    rw [← hW]
    exact (((Below.refl (w.alloc (.cells #[.string x.req.id, .int .i64 x.req.kind, v1, .string x.req.hold, .int .i64 x.req.ttl, .int .i64 x.req.now, .string x.rep.id, .int .i64 x.rep.err, .int .i64 x.rep.line, v2, .int .i64 x.rep.now, .int .i64 x.beg, .int .i64 x.fin, .bool x.opn] 35)).heap.size _).alloc (Nat.le_refl _) _).block w.heap.size (by simp)).trans (heap_alloc_new w _))
  have H2 := hid (show OB W (w.heap.size + 1) ⟨⟨⟨#[]⟩, 0, [], ⟨#[]⟩, 0, 0⟩, ry0, 0, 0, false⟩ (.slice none 0 0) (.slice none 0 0) by
    rw [← hW]
    have := heap_alloc_new (w.alloc (.cells #[.string x.req.id, .int .i64 x.req.kind, v1, .string x.req.hold, .int .i64 x.req.ttl, .int .i64 x.req.now, .string x.rep.id, .int .i64 x.rep.err, .int .i64 x.rep.line, v2, .int .i64 x.rep.now, .int .i64 x.beg, .int .i64 x.fin, .bool x.opn] 35)) (.cells #[.string ⟨#[]⟩, .int .i64 0, .slice none 0 0, .string ⟨#[]⟩, .int .i64 0, .int .i64 0, .string ⟨#[]⟩, .int .i64 0, .int .i64 0, .slice none 0 0, .int .i64 0, .int .i64 0, .int .i64 0, .bool false] 35)
    rw [World.size_alloc] at this
    exact this)
  obtain ⟨s1, t1, rfl⟩ := h1.form
  obtain ⟨s2, t2, rfl⟩ := h2.form
  have c2 := H1.out.at 2 _ rfl
  rw [Nat.zero_add] at c2
  have G1 := hid (h1.below BW.out)
  have G2 := hid h2
  have ZW := hid zW
  clear h1 h2 zW
  go_enter Try.func22, Try.ntmps22
  go_wp2_with (at_builtin; refine wpList_appX lninfo Try.underlying28 rfl (by decide) rfl (.tmp 5) (.tmp 8) rfl W.heap.size _ 0 [] rfl (World.ownsRow_nil _ _ _ _) _ x.req.lines.length (lc x.req.lines) rfl (lc_len _) G1.out.src (lc_one _) (by unfold maxLen; omega) (by omega) (Nat.le_refl _) ?n1)
  case n1 =>
  intro u1 w1 ho1 hg1 _
  have O1 := hid (show OLn w1 W.heap.size u1 x.req.lines by simpa [OLn] using ho1)
  have B1 := hid (show Below W.heap.size W w1 from (Below.refl W.heap.size W).grown hg1 (Nat.le_refl _) (by intro k hk; cases hk))
  clear ho1 hg1 c2 hW
  obtain ⟨s3, t3, rfl⟩ := O1.out.reads.form
  have H11 := hid (H1.out.later B1.out)
  have H21 := hid (H2.out.later B1.out)
  have d2 := H11.out.at 2 _ rfl
  rw [Nat.zero_add] at d2
  have f2 : w1.frozen? ⟨w.heap.size, 2, none⟩ = false := Lib.frozen_of_heap H11.out 2
  obtain ⟨W2, hW2⟩ : ∃ W2, w1.setCell ⟨w.heap.size, 2, none⟩ (.slice s3 x.req.lines.length t3) = W2 := ⟨_, rfl⟩
  have H12 := hid (show OB W2 w.heap.size x (.slice s3 x.req.lines.length t3) (.slice s2 x.rep.levels.length t2) by rw [← hW2]; exact H11.out.lines _)
  have H22 := hid (show OB W2 (w.heap.size + 1) ⟨⟨⟨#[]⟩, 0, [], ⟨#[]⟩, 0, 0⟩, ry0, 0, 0, false⟩ (.slice none 0 0) (.slice none 0 0) by rw [← hW2]; exact H21.out.gb (gb_put _ _ _ _) (by omega))
  have O2 := hid (show OLn W2 W.heap.size (.slice s3 x.req.lines.length t3) x.req.lines by rw [← hW2]; exact own_gb O1.out (gb_put _ _ _ _) (by have := ZW.out; omega))
  have B2 := hid (show Below w.heap.size w W2 by rw [← hW2]; exact below_put (BW.out.trans (B1.out.mono BW.out.size)) (Nat.le_refl _))
  have z2 := hid (show W.heap.size ≤ W2.heap.size by rw [← hW2, World.size_setCell]; exact B1.out.size)
  have c9 := H12.out.at 9 _ rfl
  rw [Nat.zero_add] at c9
  have G22 := hid (G2.out.below B2.out)
  clear O1 B1 H1 H2 H11 H21 G1 G2
  go_wp2_with (at_builtin; refine wpList_appX lvinfo Try.underlying31 rfl (by decide) rfl (.tmp 13) (.tmp 16) rfl W2.heap.size _ 0 [] rfl (World.ownsRow_nil _ _ _ _) _ x.rep.levels.length (vc x.rep.levels) rfl (vc_len _) G22.out.src (vc_one _) (by unfold maxLen; omega) (by omega) (Nat.le_refl _) ?n2)
  case n2 =>
  intro u2 w3 ho3 hg3 _
  have O3 := hid (show OLv w3 W2.heap.size u2 x.rep.levels by simpa [OLv] using ho3)
  have B3 := hid (show Below W2.heap.size W2 w3 from (Below.refl W2.heap.size W2).grown hg3 (Nat.le_refl _) (by intro k hk; cases hk))
  clear ho3 hg3 c9 hW2 d2 f2
  obtain ⟨s4, t4, rfl⟩ := O3.out.reads.form
  have H13 := hid (H12.out.later B3.out)
  have H23 := hid (H22.out.later B3.out)
  have d9 := H13.out.at 9 _ rfl
  rw [Nat.zero_add] at d9
  have f9 : w3.frozen? ⟨w.heap.size, 9, none⟩ = false := Lib.frozen_of_heap H13.out 9
  obtain ⟨W4, hW4⟩ : ∃ W4, w3.setCell ⟨w.heap.size, 9, none⟩ (.slice s4 x.rep.levels.length t4) = W4 := ⟨_, rfl⟩
  have H14 := hid (show OB W4 w.heap.size x (.slice s3 x.req.lines.length t3) (.slice s4 x.rep.levels.length t4) by rw [← hW4]; exact H13.out.levels _)
  have H24 := hid (show OB W4 (w.heap.size + 1) ⟨⟨⟨#[]⟩, 0, [], ⟨#[]⟩, 0, 0⟩, ry0, 0, 0, false⟩ (.slice none 0 0) (.slice none 0 0) by rw [← hW4]; exact H23.out.gb (gb_put _ _ _ _) (by omega))
  have O4 := hid (show OLv W4 W2.heap.size (.slice s4 x.rep.levels.length t4) x.rep.levels by rw [← hW4]; exact own_gb O3.out (gb_put _ _ _ _) (by have := ZW.out; have := z2.out; omega))
  have P4 := hid (show OLn W4 W.heap.size (.slice s3 x.req.lines.length t3) x.req.lines by rw [← hW4]; exact own_gb (own_later O2.out B3.out) (gb_put _ _ _ _) (by have := ZW.out; omega))
  have B4 := hid (show Below w.heap.size w W4 by rw [← hW4]; exact below_put (B2.out.trans (B3.out.mono B2.out.size)) (Nat.le_refl _))
  have E4 := run_opLd H14.out.at
  obtain ⟨W5, E5, R5, K5, z5⟩ := run_opSt H24.out x (show (Value.slice s3 x.req.lines.length t3).oneCell' = true from rfl) (show (Value.slice s4 x.rep.levels.length t4).oneCell' = true from rfl)
  have E6 := run_opLd R5.at
  have O5 := hid (show OLv W5 w.heap.size (.slice s4 x.rep.levels.length t4) x.rep.levels from own_lower (own_gb O4.out K5 (by have := ZW.out; have := z2.out; omega)) B2.out.size)
  have P5 := hid (show OLn W5 w.heap.size (.slice s3 x.req.lines.length t3) x.req.lines from own_lower (own_gb P4.out K5 (by have := ZW.out; omega)) BW.out.size)
  have B5 := hid (below_gb B4.out K5 (by omega) B4.out.size)
  obtain ⟨X, hX⟩ : ∃ X, X = opA x (.slice s3 x.req.lines.length t3) (.slice s4 x.rep.levels.length t4) := ⟨_, rfl⟩
  rw [← hX] at E4 E5 E6
  have HX := hid hX
  clear O3 B3 H12 H22 H13 H23 H14 H24 O4 P4 B4 R5 K5 z5 hX G22 O2
  go_wp2_with fail
  refine bodyPost_ret (v := X) (by simp [results, Try.results22, asAddr, ↓opLd_op, E6]) rfl ?_
  exact ⟨⟨_, _, by rw [HX.out], P5.out, O5.out⟩, B5.out⟩
end Go.Proofs.Ytgjalfmnnoaemaa
