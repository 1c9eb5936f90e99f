/-
  some: the first picks of a sequence, in a list of one's own.
-/
import Derived.Maps.AppendAt
import Derived.Test.YtecjpjjcahanoabSr1
namespace Go.Proofs.Ytecjpjjcahanoab
open Go.RowKit Go.Shelf
set_option maxRecDepth 100000
attribute [local go_sem] Oper.semAt_some

theorem equalIn_func_nil {P : Program} (w : World) (n : Nat) {t : TypeId} {ps rs : Array TypeId} {vd : Bool} (h : P.underlying t = some (.func ps rs vd)) (fn : Fn) (fi ca : Array Value) :
    (Op.equalIn (n + 1) t (.func fn fi ca) .nilFunc).run P w = .ok false w := by
  simp [Op.equalIn, run_underlying h]
theorem eql_func_nil {P : Program} (w : World) {t : TypeId} {ps rs : Array TypeId} {vd : Bool} (h : P.underlying t = some (.func ps rs vd)) (fn : Fn) (fi ca : Array Value) :
    (binOp .eql t (.func fn fi ca) .nilFunc).run P w = .ok (.bool false) w := by
  simp only [binOp]
  simp [Op.equal, Op.maxDepth, equalIn_func_nil w 9999 h fn fi ca]
theorem seq_notnil (fn : Fn) (fi ca : Array Value) (w : World) : (binOp .eql 45 (.func fn fi ca) .nilFunc).run Try.prog w = .ok (.bool false) w := eql_func_nil w Try.underlying45 fn fi ca

theorem ic_snoc (L : List Int) (x : Int) : ic (L ++ [x]) = ic L ++ [.int .i64 x] := by simp [ic]
theorem one_new (w : World) (x : Int) : ∀ j u, ([.int .i64 x] : List Value)[j]? = some u → (w.alloc (.cells #[.int .i64 x] 3)).cell? ((⟨w.heap.size, 0, none⟩ : Addr).add j) = some u := by
  intro j u hj
  match j, hj with
  | 0, hj => simp at hj; subst hj; simp [Addr.add]
  | n + 1, hj => simp at hj
theorem one_one (x : Int) : ∀ u ∈ ([.int .i64 x] : List Value), u.oneCell' = true := by
  intro u hu
  simp at hu
  subst hu
  rfl

set_option maxHeartbeats 2000000 in
theorem some_any (gf : Nat) (lb : Array Value) (YS : List Int) (most : Nat) (w : World) (eg : ∀ args w, (callFunc gf args).run Try.prog w = .ok (.enter gf args) w)
    (hseq : SeqStopsK Fence.wide 4 Try.prog gf lb (fun x : Int => #[.int .i64 x]) (KpB w.heap.size) (fun ys => ys = YS) (fun pre => ∃ k, k ≤ YS.length ∧ pre = YS.take k) YS.length w) (hN : YS.length ≤ 65536) (hmost : most ≤ 65537) :
    Calls Try.prog 22 #[.func (.func gf) #[] lb, .int .i64 (most : Int)] w fun e w' => (∃ v, e = .returned v ∧ OI w' w.heap.size v (YS.take most)) ∧ Below w.heap.size w w' := by
  obtain ⟨i0, hi, hz0, hz1, hz2⟩ := info_parts intinfo
  have hnn := seq_notnil (.func gf) #[] lb
  have HS := hid hseq
  have HN := hid hN
  have HM := hid hmost
  clear hseq hN hmost
  obtain ⟨W3, hW3⟩ : ∃ W3, (w.alloc (.cells #[.int .i64 (most : Int)] 3)).alloc (.cells #[.slice none 0 0] 22) = W3 := ⟨_, rfl⟩
  have hB3 : Below w.heap.size w W3 := by
    rw [← hW3]
    exact ((Below.refl _ _).alloc (Nat.le_refl _) _).alloc (by simp) _
  have hz3 : W3.heap.size = w.heap.size + 2 := by rw [← hW3]; simp
  have bM := hid (show Boxed W3 w.heap.size 3 (.int .i64 (most : Int)) by
    rw [← hW3]
    have h := Boxed.new w 3 (.int .i64 (most : Int))
    exact h.alloc _)
  have bL := hid (show Boxed W3 (w.heap.size + 1) 22 (.slice none 0 0) by
    rw [← hW3]
    have h := Boxed.new (w.alloc (.cells #[.int .i64 (most : Int)] 3)) 22 (.slice none 0 0)
    simp only [World.size_alloc] at h
    exact h)
  have cM := bM.out.cell
  have cL := bL.out.cell
  refine (callsIn_wide (n := 5)).1 ?_
  refine callsIn_of_wp_marks Try.func22 rfl trivial ?_ rfl
  simp only [Try.ntmps22, List.size_toArray, List.length_cons, List.length_nil, Nat.reduceAdd, Nat.reduceSub, Array.replicate_succ, Array.replicate_zero, List.push_toArray, List.append_toArray, List.nil_append, List.cons_append]
  have HB3 := hid hB3
  clear hB3
  by_cases hm0 : most = 0
  · have hb : ((most : Int) == 0) = true := by simp [hm0]
    have H0 := hid hm0
    clear hm0
    gi_wp2
    refine ⟨_, results_tmp rfl _ _ _, ?_⟩
    rw [H0.out, List.take_zero]
    exact ⟨⟨_, rfl, OI.nil _ _⟩, HB3.out⟩
  · have hb : ((most : Int) == 0) = false := by simp [hm0]
    have H0 := hid hm0
    clear hm0
    gi_wp2_with fail
    refine wpIn_rangeFunc_ownH rfl (show 1 ≤ 5 by omega) (gf := gf) (lb := lb) rfl trivial eg
      HS.out KpB.trans ?kb HB3.out (fun _ => rfl)
      (fun pre W => ((∃ v, Boxed W (w.heap.size + 1) 22 v ∧ W.ownsRow (w.heap.size + 1) 3 1 v pre.length (ic pre) ∧ True) ∧ Boxed W w.heap.size 3 (.int .i64 (most : Int))) ∧ ((pre.length < most) ∧ Below w.heap.size w W))
      (fun c pre W => ((∃ v, Boxed W (w.heap.size + 1) 22 v ∧ W.ownsRow (w.heap.size + 1) 3 1 v pre.length (ic pre) ∧ True) ∧ Boxed W w.heap.size 3 (.int .i64 (most : Int))) ∧ ((c = .exit 0 ∧ pre.length = most) ∧ Below w.heap.size w W))
      (OwnFrom.and (OwnFrom.and (Own.from (holdsRow_own (w.heap.size + 1) (w.heap.size + 1) 22 3 1 (fun pre : List Int => pre.length) ic (fun _ _ => True)) _) (Own.from (boxed_own _ _ _) _)) (OwnFrom.and (ownFrom_pure _ (fun pre : List Int => pre.length < most)) (ownFrom_below (Nat.le_refl _) (by omega))))
      (fun c => (OwnFrom.and (OwnFrom.and (Own.from (holdsRow_own (w.heap.size + 1) (w.heap.size + 1) 22 3 1 (fun pre : List Int => pre.length) ic (fun _ _ => True)) _) (Own.from (boxed_own _ _ _) _)) (OwnFrom.and (ownFrom_pure _ (fun pre : List Int => c = .exit 0 ∧ pre.length = most)) (ownFrom_below (Nat.le_refl _) (by omega)))))
      ⟨⟨⟨_, bL.out, World.ownsRow_nil _ _ _ _, trivial⟩, bM.out⟩, (by have := H0.out; simp; omega), HB3.out⟩
      (fun x a' _ => a' = { tmps := #[.func (.func gf) #[] lb, .int .i64 (most : Int), undef, .pointer (some ⟨w.heap.size, 0, none⟩), .slice none 0 0, .pointer (some ⟨w.heap.size + 1, 0, none⟩), .int .i64 x, .func (.func gf) #[] lb, .bool false, .bool false, .int .i64 (most : Int), .bool false, .bool false, undef, .func (.func gf) #[] lb, .int .i64 x, undef, undef, undef, undef, undef, undef, undef, undef, undef, undef, undef, undef, undef, undef], defers := [] })
      (fun x a' _ X Y row hs hg hr => hs)
      ?assign ?body ?done ?stop
    case kb =>
      intro W l o o' hl hW _ _ k hk
      exact World.putObj_heap_other (by omega)
    case assign =>
      rintro l pre x W K ⟨⟨⟨v, bv, hrow, _⟩, b1⟩, hlen, hB⟩ hK
      have HKK := hid hK
      have HB := hid hB
      clear hK hB
      gi_wp2
      exact HKK.out _ _ (KeepsFrom.refl _ _) (KpB.refl _ _) ⟨⟨⟨v, bv, hrow, trivial⟩, b1⟩, hlen, HB.out⟩ rfl
    case body =>
      rintro l pre x a' W hl _ ⟨⟨⟨v, bv, hrow, _⟩, b1⟩, hlen, hB⟩ rfl hlt
      have cv := bv.cell
      have HB := hid hB
      have hl6 : pre.length + 1 ≤ 65536 := by have := HN.out; omega
      have HL := hid hlen
      have HLT := hid hlt
      clear hB hlen hlt
      by_cases hcon : pre.length + 1 = most
      · have hcb : ((pre.length : Int) + 1 == (most : Int)) = true := by simp; omega
        have HC := hid hcon
        clear hcon
        gi_wp2_with (gi_at_builtin; refine wpListIn_append_own _ rfl _ _ 22 rfl (w.heap.size + 1) 3 i0 (.int .i64 0) 1 8 Try.underlying22 hi hz0 hz1 hz2 rfl (by decide) _ _ _ rfl (hrow.alloc _) ⟨W.heap.size, 0, none⟩ 1 1 [.int .i64 x] rfl rfl (one_new W x) (one_one x) (by unfold maxLen; omega) (by omega) (by have := HB.out.size; simp; omega) ?_; intro v' w1 hown' hgrow _; obtain ⟨g', cap', rfl⟩ := ownsRow_succ hown'; obtain ⟨hv1, hv2, hr2, hk2, hb2⟩ := bv.appended (by decide) hrow (by have := b1.lt; omega) (Nat.le_refl _) hown' hgrow; have hc1 := hv1.cell; have hf1 := hv1.frozen; have hc2 := hv2.cell; have e1 : Boxed _ w.heap.size 3 (.int .i64 (most : Int)) := (hb2.block w.heap.size (by omega)).trans b1; have ce1 := e1.cell)
        exact ⟨hk2.from _, ⟨⟨⟨_, hv2, by rw [ic_snoc, List.length_append]; exact hr2, trivial⟩, e1⟩, ⟨rfl, by rw [List.length_append]; exact HC.out⟩, HB.out.trans (hb2.mono (by omega))⟩⟩
      · have hcb : ((pre.length : Int) + 1 == (most : Int)) = false := by simp; omega
        have HC := hid hcon
        have hcI : ¬ (65536 : Int) < (pre.length : Int) + 1 := by omega
        clear hcon
        gi_wp2_with (gi_at_builtin; refine wpListIn_append_own _ rfl _ _ 22 rfl (w.heap.size + 1) 3 i0 (.int .i64 0) 1 8 Try.underlying22 hi hz0 hz1 hz2 rfl (by decide) _ _ _ rfl (hrow.alloc _) ⟨W.heap.size, 0, none⟩ 1 1 [.int .i64 x] rfl rfl (one_new W x) (one_one x) (by unfold maxLen; omega) (by omega) (by have := HB.out.size; simp; omega) ?_; intro v' w1 hown' hgrow _; obtain ⟨g', cap', rfl⟩ := ownsRow_succ hown'; obtain ⟨hv1, hv2, hr2, hk2, hb2⟩ := bv.appended (by decide) hrow (by have := b1.lt; omega) (Nat.le_refl _) hown' hgrow; have hc1 := hv1.cell; have hf1 := hv1.frozen; have hc2 := hv2.cell; have e1 : Boxed _ w.heap.size 3 (.int .i64 (most : Int)) := (hb2.block w.heap.size (by omega)).trans b1; have ce1 := e1.cell)
        exact ⟨hk2.from _, (fun k hk => hb2.block k (by omega)), ⟨⟨⟨_, hv2, by rw [ic_snoc, List.length_append]; exact hr2⟩, e1⟩, by rw [List.length_append]; have := HC.out; have := HL.out; simp; omega, HB.out.trans (hb2.mono (by omega))⟩⟩
    case done =>
      rintro D ys W hD rfl ⟨⟨⟨v, bv, hrow, _⟩, b1⟩, hlen, hB⟩ hK
      have cv := bv.cell
      have HB := hid hB
      have HL := hid hlen
      clear hB hlen
      gi_wp2
      refine ⟨by simp, .inl ⟨_, _, rfl, run_takeDeferred hK, ?_⟩⟩
      rw [List.take_of_length_le (Nat.le_of_lt HL.out)]
      exact ⟨_, results_tmp rfl _ _ _, ⟨v, rfl, OI.mono (ownsRow_putObj hrow _ hK rfl) (by omega)⟩, HB.out.trans (belowK_b (w := w) (Nat.le_refl _) W D _ _ (by omega) hK rfl rfl)⟩
    case stop =>
      rintro D c pre W hD ⟨k, hk, rfl⟩ ⟨⟨⟨v, bv, hrow, _⟩, b1⟩, ⟨rfl, hlen⟩, hB⟩ hK
      have cv := bv.cell
      have HB := hid hB
      rw [List.length_take, Nat.min_eq_left hk] at hlen
      subst hlen
      have HL := hid hk
      clear hB hk
      gi_wp2
      refine ⟨by simp, .inl ⟨_, _, rfl, run_takeDeferred hK, ?_⟩⟩
      exact ⟨_, results_tmp rfl _ _ _, ⟨v, rfl, OI.mono (ownsRow_putObj hrow _ hK rfl) (by omega)⟩, HB.out.trans (belowK_b (w := w) (Nat.le_refl _) W D _ _ (by omega) hK rfl rfl)⟩
end Go.Proofs.Ytecjpjjcahanoab
