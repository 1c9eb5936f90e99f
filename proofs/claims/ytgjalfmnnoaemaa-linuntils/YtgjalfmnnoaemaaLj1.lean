/-
  lin: an op's block written over in parts and whole; lists of ops that grow, their lists in blocks of their own.
-/
import Derived.Test.YtgjalfmnnoaemaaLh7
import Derived.Test.YtgjalfmnnoaemaaLh9
import Derived.Laws.CopyRow
namespace Go.Proofs.Ytgjalfmnnoaemaa
open Go.RowKit
set_option maxRecDepth 100000

/-- the zero reply -/
def ry0 : Ry := ⟨⟨#[]⟩, 0, 0, [], 0⟩
theorem OB.lt {W : World} {b : Nat} {x : Opx} {v1 v2 : Value} (h : OB W b x v1 v2) : b < W.heap.size := (Array.getElem?_eq_some_iff.1 h).1
/-- the whole op into a block that holds one -/
theorem run_opSt {w : World} {g : Nat} {x0 : Opx} {a1 a2 : Value} (h : OB w g x0 a1 a2) (x : Opx) {v1 v2 : Value} (h1 : v1.oneCell' = true) (h2 : v2.oneCell' = true) :
    ∃ W, (opSt ⟨g, 0, none⟩ (opA x v1 v2)).run Try.prog w = .ok () W ∧ OB W g x v1 v2 ∧ w.grownBy W (some g) ∧ W.heap.size = w.heap.size := by
  refine ⟨w.setRow g (opC x v1 v2).toArray, run_storeVar_row w g _ _ (opC x0 a1 a2).toArray (opC x v1 v2).toArray h opsize rfl (by rw [Array.all_eq_true_iff_forall_mem]; intro u hu; exact opC_one h1 h2 u (by simpa using hu)), ?_, ⟨rfl, rfl, rfl, by simp [World.setRow], fun k _ hk => ?_⟩, by simp [World.setRow]⟩
  · unfold OB at *
    simp [World.setRow, Array.getElem?_modify, h]
  · have : g ≠ k := fun e => hk (by rw [e])
    simp [World.setRow, Array.getElem?_modify, this]
/-- the zero reply into an op's block -/
def rySt (a : Addr) (v : Value) : Sem Unit := storeVar 33 a v
theorem rySt_op (a : Addr) (v : Value) : storeVar 33 a v = rySt a v := rfl
theorem run_rySt {w : World} {b : Nat} {x : Opx} {v1 v2 : Value} (h : OB w b x v1 v2) :
    ∃ W, (rySt ⟨b, 6, none⟩ (.agg #[.string ⟨#[]⟩, .int .i64 0, .int .i64 0, .slice none 0 0, .int .i64 0])).run Try.prog w = .ok () W ∧ OB W b ⟨x.req, ry0, x.beg, x.fin, x.opn⟩ v1 (.slice none 0 0) ∧ w.grownBy W (some b) ∧ W.heap.size = w.heap.size := by
  have hr := run_storeCells_at (P := Try.prog) b 6 35 [Value.string ⟨#[]⟩, .int .i64 0, .int .i64 0, .slice none 0 0, .int .i64 0] 0 _ w h (by simp [opC]) (by simp [Value.oneCell'])
  have ha : ((opC x v1 v2).toArray.toList.take (6 + 0) ++ [Value.string ⟨#[]⟩, .int .i64 0, .int .i64 0, .slice none 0 0, .int .i64 0] ++ (opC x v1 v2).toArray.toList.drop (6 + 0 + [Value.string ⟨#[]⟩, .int .i64 0, .int .i64 0, .slice none 0 0, .int .i64 0].length)).toArray = (opC ⟨x.req, ry0, x.beg, x.fin, x.opn⟩ v1 (.slice none 0 0)).toArray := rfl
  rw [ha] at hr
  refine ⟨w.setRow b (opC ⟨x.req, ry0, x.beg, x.fin, x.opn⟩ v1 (.slice none 0 0)).toArray, ?_, ?_, ⟨rfl, rfl, rfl, by simp [World.setRow], fun k _ hk => ?_⟩, by simp [World.setRow]⟩
  · unfold rySt
    simp only [storeVar, sizeOf, typeInfo, Value.cells]
    simp
    exact hr
  · unfold OB at *
    simp [World.setRow, Array.getElem?_modify, h]
  · have : b ≠ k := fun e => hk (by rw [e])
    simp [World.setRow, Array.getElem?_modify, this]
theorem OB.fin {W : World} {b : Nat} {x : Opx} {v1 v2 : Value} (h : OB W b x v1 v2) (n : Int) : OB (W.setCell ⟨b, 12, none⟩ (.int .i64 n)) b ⟨x.req, x.rep, x.beg, n, x.opn⟩ v1 v2 := Lib.heap_setCell_same h _
theorem OB.opn {W : World} {b : Nat} {x : Opx} {v1 v2 : Value} (h : OB W b x v1 v2) (q : Bool) : OB (W.setCell ⟨b, 13, none⟩ (.bool q)) b ⟨x.req, x.rep, x.beg, x.fin, q⟩ v1 v2 := Lib.heap_setCell_same h _
theorem OB.gb {w W : World} {b g : Nat} {x : Opx} {v1 v2 : Value} (h : OB w b x v1 v2) (hg : w.grownBy W (some g)) (hne : b ≠ g) : OB W b x v1 v2 := (hg.block b h.lt (fun e => hne (by cases e; rfl))).trans h
theorem below_gb {w0 w W : World} {B g : Nat} (h : Below B w0 w) (hg : w.grownBy W (some g)) (hB : B ≤ g) (hs : B ≤ w.heap.size) : Below B w0 W := h.grown hg hs (fun k hk => by cases hk; exact hB)
theorem gb_put (w : World) (g o : Nat) (u : Value) : w.grownBy (w.setCell ⟨g, o, none⟩ u) (some g) := ⟨rfl, rfl, rfl, by simp, fun k _ hk => heap_setCell_other _ _ _ _ (fun e => hk (by rw [show k = g from e]))⟩
/-- nil, or not in out's block -/
def NE (v out : Value) : Prop := v.ownBlock = none ∨ v.ownBlock ≠ out.ownBlock
/-- ops' lists in blocks of the call's own, none in out's -/
def UE (w : World) (base : Nat) (out : Value) (E : List Opv) : Prop := ∀ y ∈ E, OLn w base y.2.1 y.1.req.lines ∧ OLv w base y.2.2 y.1.rep.levels ∧ NE y.2.1 out ∧ NE y.2.2 out
theorem UE.later {w w' : World} {base : Nat} {out : Value} {E : List Opv} (h : UE w base out E) (hb : Below w.heap.size w w') : UE w' base out E := fun y hy => by
  obtain ⟨h1, h2, h3, h4⟩ := h y hy
  exact ⟨own_later h1 hb, own_later h2 hb, h3, h4⟩
theorem NE.grow {w : World} {base : Nat} {e : TypeId} {size n : Nat} {xs : List Value} {v out out' : Value} (h : NE v out) (ho : w.ownsRow base e size v n xs) (k : out'.ownBlock = out.ownBlock ∨ out'.ownBlock = some w.heap.size) : NE v out' := by
  rcases h with h | h
  · exact .inl h
  · rcases k with k | k
    · right; rw [k]; exact h
    · right
      rw [k]
      intro e2
      have := (World.ownsRow.lt ho _ e2).2
      omega
theorem UE.grow {w w' : World} {base : Nat} {out out' : Value} {E : List Opv} (h : UE w base out E) (hg : w.grownBy w' out.ownBlock) (ho : out'.ownBlock = out.ownBlock ∨ out'.ownBlock = some w.heap.size) : UE w' base out' E := fun y hy => by
  obtain ⟨h1, h2, h3, h4⟩ := h y hy
  exact ⟨World.ownsRow.kept h1 hg h3, World.ownsRow.kept h2 hg h4, h3.grow h1 ho, h4.grow h2 ho⟩
theorem UE.snoc {w : World} {base : Nat} {out : Value} {E : List Opv} {y : Opv} (h : UE w base out E) (h1 : OLn w base y.2.1 y.1.req.lines) (h2 : OLv w base y.2.2 y.1.rep.levels) (h3 : NE y.2.1 out) (h4 : NE y.2.2 out) : UE w base out (E ++ [y]) := fun z hz => by
  rcases List.mem_append.1 hz with hz | hz
  · exact h z hz
  · rw [List.mem_singleton.1 hz]
    exact ⟨h1, h2, h3, h4⟩
/-- what Until answers lies so -/
def UO (w : World) (base : Nat) (v : Value) (R : List Opx) : Prop := ∃ E : List Opv, E.map (·.1) = R ∧ w.ownsRow base 35 14 v E.length (E.flatMap encO) ∧ UE w base v E
theorem UO.reads {w : World} {base : Nat} {v : Value} {R : List Opx} (h : UO w base v R) : RO w v R := by
  obtain ⟨E, rfl, ho, hu⟩ := h
  have hc := fun g hg => World.ownsRow.cells ho (g := g) hg
  rcases ho.2 with ⟨rfl, h0⟩ | ⟨g, cap, cur, rfl, _, hgg, hn, hm, _⟩
  · exact .inl ⟨by rw [List.eq_nil_of_length_eq_zero h0]; rfl, none, 0, rfl, fun _ => rfl⟩
  · have hm2 : cap ≤ 9223372036854775807 := hm
    refine .inr ⟨g, 0, cap, by rw [List.length_map], ⟨by rw [List.length_map]; exact hn, hm2⟩, fun j hj => ?_⟩
    rw [List.length_map] at hj
    obtain ⟨h1, h2, _⟩ := hu E[j] (List.getElem_mem hj)
    rw [List.getElem_map]
    refine ⟨_, _, fun i u hu => ?_, h1.reads, h2.reads⟩
    have hi : i < 14 := by have := (List.getElem?_eq_some_iff.1 hu).1; rwa [opC_len] at this
    have := hc g rfl (j * 14 + i) u (by rw [eo_at E j hj i hi]; exact hu)
    rw [Addr.add_lit, Nat.zero_add] at this
    rw [Nat.zero_add]
    exact this
theorem UO.later {w w' : World} {base : Nat} {v : Value} {R : List Opx} (h : UO w base v R) (hb : Below w.heap.size w w') : UO w' base v R := by
  obtain ⟨E, e, ho, hu⟩ := h
  exact ⟨E, e, own_later ho hb, hu.later hb⟩
theorem UO.nil (w : World) (base : Nat) : UO w base (.slice none 0 0) [] := ⟨[], rfl, World.ownsRow_nil _ _ _ _, fun y hy => by simp at hy⟩
/-- an op as it is seen when a moment has passed -/
def sn (m : Int) (x : Opx) : Opx := if m < x.fin then ⟨x.req, ry0, x.beg, 4611686018427387904, true⟩ else x
/-- a history as it is seen -/
def un (m : Int) (L : List Opx) : List Opx := (L.filter fun x => decide (x.beg ≤ m)).map (sn m)
def UR (L : List Opx) (m : Int) (R : List Opx) : Prop := (∃ e n, CkR L e n ∧ e ≠ 0 ∧ R = []) ∨ ∃ n, CkR L 0 n ∧ R = un m L
theorem UR.same {L : List Opx} {m : Int} {R R' : List Opx} (h : UR L m R) (k : UR L m R') : R = R' := by
  rcases h with ⟨e, n, h1, h2, rfl⟩ | ⟨n, h1, rfl⟩ <;> rcases k with ⟨e', n', k1, k2, rfl⟩ | ⟨n', k1, rfl⟩
  · rfl
  · exact absurd (h1.same k1).1 h2
  · exact absurd (k1.same h1).1 k2
  · rfl
theorem un_snoc (m : Int) (L : List Opx) (x : Opx) : un m (L ++ [x]) = if x.beg ≤ m then un m L ++ [sn m x] else un m L := by
  unfold un
  rw [List.filter_append, List.map_append]
  by_cases h : x.beg ≤ m
  · rw [if_pos h]; simp [h]
  · rw [if_neg h]; simp [h]
end Go.Proofs.Ytgjalfmnnoaemaa
