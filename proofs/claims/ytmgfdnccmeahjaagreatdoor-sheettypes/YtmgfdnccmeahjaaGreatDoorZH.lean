/-
  Sq2: Sheets: the Reader's Builder, which lies in its tenth cell. Laid by v18.py.
  Sq3: Sheets: the Reader's states in memory. Laid by v18.py.
  Sq4: Sheets: the Reader's steps: a byte added, a cell ended. Laid by v18.py and mksq4.py.
  Sf1: Sheets: errors.Is of a Fault.
  Snt: Sheets: the errors of reading, as package-level variables hold them.
  Sq5: Sheets: a cell ended. Laid by v18.py.
  Sq6: Sheets: a cell ended, a row ended. Laid by v18.py.
-/
import Derived.Test.YtmgfdnccmeahjaaGreatDoorZF
import Derived.LaidEql
import Derived.Stop.Asserts
import Derived.RowKitTokens
import Derived.Stop.LaidErr
import Derived.Deep.RegionLaw
namespace Go.Proofs.YtmgfdnccmeahjaaGreatDoor
open Go.RowKit
set_option maxRecDepth 100000
set_option linter.unusedVariables false
set_option linter.unusedSimpArgs false

theorem Kg.drew {G : Nat → Prop} {a w : World} (h : Kg G a w) : Kg G a w.drew := ⟨h.os, h.tape, h.output, h.size, h.block⟩
theorem R18.drew {w : World} {b : Nat} {v0 v1 v2 v3 v4 v5 v6 v7 v8 v9 v10 v11 v12 v13 v14 v15 v16 v17 : Value} (h : R18 w b v0 v1 v2 v3 v4 v5 v6 v7 v8 v9 v10 v11 v12 v13 v14 v15 v16 v17) : R18 w.drew b v0 v1 v2 v3 v4 v5 v6 v7 v8 v9 v10 v11 v12 v13 v14 v15 v16 v17 := h
theorem u8i : (Tryz.prog.info? 5).map (fun i => (i.zero, i.size, i.bytes)) = some (some (.int .u8 0), 1, 1) := by kernel_rfl

theorem cells_snoc (l : List UInt8) (c : UInt8) : Lib.byteCells (l ++ [c]) = Lib.byteCells l ++ [.int .u8 (c.toNat : Int)] := by simp [Lib.byteCells]
theorem own_ne {w : World} {b : Nat} {base e size n : Nat} {v : Value} {xs : List Value} {cs : Array Value} {t : TypeId} {fr : Nat × Nat} (h : w.ownsRow base e size v n xs) (hb : w.heap[b]? = some (.cells cs t fr)) (hne : t ≠ e) : v.ownBlock ≠ some b := by
  rcases h.2 with ⟨rfl, _⟩ | ⟨g, cap, cur, rfl, _, hg, _⟩
  · simp [Value.ownBlock]
  · intro hh
    have : g = b := by simpa [Value.ownBlock] using hh
    subst this
    rw [hb] at hg
    cases hg
    exact hne rfl
theorem own_slice {w : World} {base e size n : Nat} {v : Value} {xs : List Value} (h : w.ownsRow base e size v n xs) : ∃ ao cap, v = .slice ao n cap := by
  rcases h.2 with ⟨rfl, h0⟩ | ⟨g, cap, cur, rfl, _⟩
  · subst h0; exact ⟨_, _, rfl⟩
  · exact ⟨_, _, rfl⟩
theorem Kg.freeze {G : Nat → Prop} {a w : World} (h : Kg G a w) {g : Nat} (hg : ¬ G g) (n : Nat) : Kg G a (w.freeze ⟨g, 0, none⟩ n) := by
  have hb := fun B (hB : B ≤ g) => Lib.below_freeze (Below.refl B w) (p := ⟨g, 0, none⟩) hB n
  have h0 := hb 0 (Nat.zero_le _)
  refine ⟨h0.os.trans h.os, h0.tape.trans h.tape, h0.output.trans h.output, Nat.le_trans h.size h0.size, fun k hk => ?_⟩
  refine Eq.trans ?_ (h.block k hk)
  have hkg : k ≠ g := by rintro rfl; exact hg hk
  unfold World.freeze
  split
  · rfl
  · simp only [Array.getElem?_modify]
    rw [if_neg (fun e => hkg e.symm)]
end Go.Proofs.YtmgfdnccmeahjaaGreatDoor

namespace Go.Proofs.YtmgfdnccmeahjaaGreatDoor
open Go.RowKit
set_option maxRecDepth 100000
set_option linter.unusedVariables false
set_option linter.unusedSimpArgs false

/-- texts as cells -/
def tl (L : List (List UInt8)) : List Value := L.map fun l => .string ⟨l.toArray⟩
/-- the errors: nil, or one of errors.New's make in block A c -/
def erV (A : Nat → Addr) (c : Nat) : Value := if c = 0 then .nilIface else .iface 312 (.pointer (some (A c)))
theorem erV_zero (A : Nat → Addr) : erV A 0 = .nilIface := rfl
theorem erV_pos (A : Nat → Addr) {c : Nat} (h : c ≠ 0) : erV A c = .iface 312 (.pointer (some (A c))) := if_neg h
/-- the rows of V read as the lists of T -/
structure RwS (w : World) (V : List Value) (T : List (List (List UInt8))) : Prop where
  len : V.length = T.length
  row : ∀ j (hj : j < T.length) (hv : j < V.length), w.ownsRow 0 9 1 V[j] T[j].length (tl T[j])
theorem RwS.nil (w : World) : RwS w [] [] := ⟨rfl, fun j hj => absurd hj (Nat.not_lt_zero _)⟩
theorem RwS.snoc {w : World} {V : List Value} {T : List (List (List UInt8))} (h : RwS w V T) {v : Value} {t : List (List UInt8)} (hv : w.ownsRow 0 9 1 v t.length (tl t)) : RwS w (V ++ [v]) (T ++ [t]) := by
  refine ⟨by simp [h.len], fun j hj hj2 => ?_⟩
  have hl := h.len
  by_cases hlt : j < T.length
  · have e1 : (T ++ [t])[j] = T[j] := List.getElem_append_left hlt
    have e2 : (V ++ [v])[j] = V[j]'(by omega) := List.getElem_append_left (by omega)
    rw [e1, e2]
    exact h.row j hlt (by omega)
  · have he : j = T.length := by simp at hj; omega
    subst he
    have e1 : (T ++ [t])[T.length] = t := by simp
    have e2 : (V ++ [v])[T.length] = v := by simp [← hl]
    rw [e1, e2]
    exact hv
theorem RwS.kept {w w' : World} {V : List Value} {T : List (List (List UInt8))} (h : RwS w V T) (hk : ∀ k, (∃ v ∈ V, v.ownBlock = some k) → w'.heap[k]? = w.heap[k]?) : RwS w' V T := by
  refine ⟨h.len, fun j hj hv => ?_⟩
  have hr := h.row j hj hv
  refine ⟨hr.1, ?_⟩
  rcases hr.2 with hn | ⟨g, cap, cur, e, h0, hg, h1⟩
  · exact .inl hn
  · refine .inr ⟨g, cap, cur, e, h0, ?_, h1⟩
    rw [hk g ⟨_, List.getElem_mem hv, by rw [e]; rfl⟩]
    exact hg

/-- no two of these slices share a block -/
def Dj (V : List Value) : Prop := V.Pairwise fun a b => ∀ g, a.ownBlock = some g → b.ownBlock ≠ some g
theorem Dj.nil : Dj [] := List.Pairwise.nil
theorem Dj.snoc {V : List Value} {v : Value} (h : Dj V) (hv : ∀ u ∈ V, ∀ g, u.ownBlock = some g → v.ownBlock ≠ some g) : Dj (V ++ [v]) := by
  unfold Dj
  rw [List.pairwise_append]
  refine ⟨h, List.pairwise_singleton _ _, fun a ha b hb => ?_⟩
  rw [List.mem_singleton.1 hb]
  exact hv a ha
/-- the Reader in block b is in state s; the blocks of G are not its own -/
structure RM (A : Nat → Addr) (G : Nat → Prop) (w : World) (b : Nat) (s : Rs) (bp bv cv tv : Value) (V : List Value) : Prop where
  gs : ∀ k, G k → k < w.heap.size
  nb : ¬ G b
  nbv : ∀ g, bv.ownBlock = some g → ¬ G g
  ncv : ∀ g, cv.ownBlock = some g → ¬ G g
  ntv : ∀ g, tv.ownBlock = some g → ¬ G g
  top : RB w b (nxV b s.md) s.sz s.hp s.op s.ep s.rw s.wd bp bv cv tv s.fp (erV A s.er) false
  bpo : bp = .pointer none ∨ bp = .pointer (some ⟨b, 10, none⟩)
  bz : s.cur = [] → bv = .slice none 0 0
  buf : w.ownsRow 0 5 1 bv s.cur.length (Lib.byteCells s.cur)
  cel : w.ownsRow 0 9 1 cv s.cs.length (tl s.cs)
  tol : w.ownsRow 0 32 1 tv V.length V
  rws : RwS w V s.td
  ap : ∀ v ∈ V, ∀ g, v.ownBlock = some g → cv.ownBlock ≠ some g
  vlt : ∀ v ∈ V, ∀ g, v.ownBlock = some g → ¬ G g
  dis : Dj V
def RX (A : Nat → Addr) (G : Nat → Prop) (w : World) (b : Nat) (s : Rs) : Prop := ∃ bp bv cv tv V, RM A G w b s bp bv cv tv V

/-- another owned row's block is another block -/
theorem own_two {w : World} {b1 e1 s1 n1 b2 e2 s2 n2 : Nat} {v1 v2 : Value} {x1 x2 : List Value} (h1 : w.ownsRow b1 e1 s1 v1 n1 x1) (h2 : w.ownsRow b2 e2 s2 v2 n2 x2) (hne : e1 ≠ e2) : ∀ g, v1.ownBlock = some g → v2.ownBlock ≠ some g := by
  intro g hg
  rcases h1.2 with ⟨rfl, _⟩ | ⟨g1, cap, cur, rfl, _, hb, _⟩
  · simp [Value.ownBlock] at hg
  · have : g1 = g := by simpa [Value.ownBlock] using hg
    subst this
    exact own_ne h2 hb hne
theorem own_of {w w' : World} {base e size n : Nat} {v : Value} {xs : List Value} (h : w.ownsRow base e size v n xs) (hk : ∀ g, v.ownBlock = some g → w'.heap[g]? = w.heap[g]?) : w'.ownsRow base e size v n xs := by
  refine ⟨h.1, ?_⟩
  rcases h.2 with hn | ⟨g, cap, cur, rfl, h0, hg, h1⟩
  · exact .inl hn
  · refine .inr ⟨g, cap, cur, rfl, h0, ?_, h1⟩
    rw [hk g rfl]
    exact hg

/-- only the Reader's block has turned: its rows lie as they lay -/
theorem RM.rows {A : Nat → Addr} {G : Nat → Prop} {w w' : World} {b : Nat} {s : Rs} {bp bv cv tv : Value} {V : List Value} (h : RM A G w b s bp bv cv tv V) (hk : Kg (But w b) w w') :
    w'.ownsRow 0 5 1 bv s.cur.length (Lib.byteCells s.cur) ∧ w'.ownsRow 0 9 1 cv s.cs.length (tl s.cs) ∧ w'.ownsRow 0 32 1 tv V.length V ∧ RwS w' V s.td := by
  have ne : ∀ {e n : Nat} {v : Value} {xs : List Value}, w.ownsRow 0 e 1 v n xs → 179 ≠ e → w'.ownsRow 0 e 1 v n xs := fun {e n v xs} ho hne => own_of ho fun g hg => hk.block g ⟨(World.ownsRow.lt ho g hg).2, fun e => own_ne ho h.top hne (e ▸ hg)⟩
  refine ⟨ne h.buf (by decide), ne h.cel (by decide), ne h.tol (by decide), h.rws.len, fun j hj hv => ne (h.rws.row j hj hv) (by decide)⟩
theorem RM.kg {A : Nat → Addr} {G : Nat → Prop} {w w' : World} {b : Nat} {s : Rs} {bp bv cv tv : Value} {V : List Value} (h : RM A G w b s bp bv cv tv V) (hk : Kg (But w b) w w') : Kg G w w' := hk.mono fun k hG => ⟨h.gs k hG, fun e => h.nb (e ▸ hG)⟩

end Go.Proofs.YtmgfdnccmeahjaaGreatDoor

namespace Go.Proofs.YtmgfdnccmeahjaaGreatDoor
open Go.RowKit
set_option maxRecDepth 100000
set_option linter.unusedVariables false
set_option linter.unusedSimpArgs false

/-- the variables of reading -/
def gls : List Nat := [8, 4, 3, 9, 10, 11, 12, 5, 13, 0]
/-- the variables of reading hold errors of errors.New's make, each in its block -/
structure HE (A : Nat → Addr) (w : World) : Prop where
  e1 : w.cell? ⟨8, 0, none⟩ = some (.iface 312 (.pointer (some (A 1))))
  e2 : w.cell? ⟨4, 0, none⟩ = some (.iface 312 (.pointer (some (A 2))))
  e3 : w.cell? ⟨3, 0, none⟩ = some (.iface 312 (.pointer (some (A 3))))
  e4 : w.cell? ⟨9, 0, none⟩ = some (.iface 312 (.pointer (some (A 4))))
  e5 : w.cell? ⟨10, 0, none⟩ = some (.iface 312 (.pointer (some (A 5))))
  e6 : w.cell? ⟨11, 0, none⟩ = some (.iface 312 (.pointer (some (A 6))))
  e7 : w.cell? ⟨12, 0, none⟩ = some (.iface 312 (.pointer (some (A 7))))
  e8 : w.cell? ⟨5, 0, none⟩ = some (.iface 312 (.pointer (some (A 8))))
  e9 : w.cell? ⟨13, 0, none⟩ = some (.iface 312 (.pointer (some (A 9))))
  e20 : w.cell? ⟨0, 0, none⟩ = some (.iface 312 (.pointer (some (A 20))))
theorem HE.kept {A : Nat → Addr} {G : Nat → Prop} {w w' : World} (h : HE A w) (hk : Kg G w w') (hG : ∀ k, k ∈ gls → G k) : HE A w' where
  e1 := hk.cell (p := ⟨8, 0, none⟩) (hG _ (by decide)) h.e1
  e2 := hk.cell (p := ⟨4, 0, none⟩) (hG _ (by decide)) h.e2
  e3 := hk.cell (p := ⟨3, 0, none⟩) (hG _ (by decide)) h.e3
  e4 := hk.cell (p := ⟨9, 0, none⟩) (hG _ (by decide)) h.e4
  e5 := hk.cell (p := ⟨10, 0, none⟩) (hG _ (by decide)) h.e5
  e6 := hk.cell (p := ⟨11, 0, none⟩) (hG _ (by decide)) h.e6
  e7 := hk.cell (p := ⟨12, 0, none⟩) (hG _ (by decide)) h.e7
  e8 := hk.cell (p := ⟨5, 0, none⟩) (hG _ (by decide)) h.e8
  e9 := hk.cell (p := ⟨13, 0, none⟩) (hG _ (by decide)) h.e9
  e20 := hk.cell (p := ⟨0, 0, none⟩) (hG _ (by decide)) h.e20
theorem HE.lt {A : Nat → Addr} {w : World} (h : HE A w) : ∀ k, k ∈ gls → k < w.heap.size := by
  intro k hk
  simp only [gls, List.mem_cons, List.not_mem_nil, or_false] at hk
  rcases hk with rfl | rfl | rfl | rfl | rfl | rfl | rfl | rfl | rfl | rfl
  · exact World.block_lt_of_cell? _ _ h.e1
  · exact World.block_lt_of_cell? _ _ h.e2
  · exact World.block_lt_of_cell? _ _ h.e3
  · exact World.block_lt_of_cell? _ _ h.e4
  · exact World.block_lt_of_cell? _ _ h.e5
  · exact World.block_lt_of_cell? _ _ h.e6
  · exact World.block_lt_of_cell? _ _ h.e7
  · exact World.block_lt_of_cell? _ _ h.e8
  · exact World.block_lt_of_cell? _ _ h.e9
  · exact World.block_lt_of_cell? _ _ h.e20
/-- what every step leans on -/
structure Lea (A : Nat → Addr) (G : Nat → Prop) (w : World) : Prop where
  er : HE A w
  gl : ∀ k, k ∈ gls → G k
theorem Lea.kept {A : Nat → Addr} {G : Nat → Prop} {w w' : World} (h : Lea A G w) (hk : Kg G w w') : Lea A G w' := ⟨h.er.kept hk h.gl, h.gl⟩

theorem RX.drew {A : Nat → Addr} {G : Nat → Prop} {w : World} {b : Nat} {s : Rs} (h : RX A G w b s) : RX A G w.drew b s := by
  obtain ⟨bp, bv, cv, tv, V, h⟩ := h
  exact ⟨bp, bv, cv, tv, V, ⟨h.gs, h.nb, h.nbv, h.ncv, h.ntv, h.top, h.bpo, h.bz, h.buf, h.cel, h.tol, ⟨h.rws.len, h.rws.row⟩, h.ap, h.vlt, h.dis⟩⟩
end Go.Proofs.YtmgfdnccmeahjaaGreatDoor

namespace Go.Proofs.YtmgfdnccmeahjaaGreatDoor
open Go.RowKit Go.Extern.Stop Go.Stop Go.Extern
set_option maxRecDepth 100000
set_option linter.unusedVariables false
set_option linter.unusedSimpArgs false

theorem isTypeOf (v : Value) (w : World) : (callFunc 40 #[.iface 312 v]).run Tryz.prog w = .ok (.value (.iface 158 (.agg #[.pointer (some ⟨35, 312, none⟩)]))) w := by kernel_rfl
theorem isComparable (w : World) : (callFunc 303 #[.agg #[.pointer (some ⟨35, 312, none⟩)]]).run Tryz.prog w = .ok (.value (.bool true)) w := by kernel_rfl
theorem isComp : (Tryz.prog.info? 312).map (·.comparable) = some true := by kernel_rfl
theorem isSize : (Tryz.prog.info? 314).map (·.size) = some 1 := by kernel_rfl
theorem noIsE (v : Value) (xT : TypeId) (w : World) : (Instr.typeAssert (.iface 312 v) xT 160 true).run Tryz.prog w = .ok (.tuple #[.nilIface, .bool false]) w := run_typeAssert_lacksB Tryz.underlying160 (by kernel_rfl) (by kernel_rfl) v xT w
theorem noUnwrapE (v : Value) (xT : TypeId) (w : World) : (Instr.typeAssert (.iface 312 v) xT 163 true).run Tryz.prog w = .ok (.tuple #[.nilIface, .bool false]) w := run_typeAssert_lacksB Tryz.underlying163 (by kernel_rfl) (by kernel_rfl) v xT w
theorem noUnwrapsE (v : Value) (xT : TypeId) (w : World) : (Instr.typeAssert (.iface 312 v) xT 164 true).run Tryz.prog w = .ok (.tuple #[.nilIface, .bool false]) w := run_typeAssert_lacksB Tryz.underlying164 (by kernel_rfl) (by kernel_rfl) v xT w
theorem noIsF (v : Value) (xT : TypeId) (w : World) : (Instr.typeAssert (.iface 38 v) xT 160 true).run Tryz.prog w = .ok (.tuple #[.nilIface, .bool false]) w := run_typeAssert_lacksB Tryz.underlying160 (by kernel_rfl) (by kernel_rfl) v xT w
theorem hasUnwrapF (v : Value) (xT : TypeId) (w : World) : (Instr.typeAssert (.iface 38 v) xT 163 true).run Tryz.prog w = .ok (.tuple #[.iface 38 v, .bool true]) w := run_typeAssert_hasB Tryz.underlying163 (by kernel_rfl) v xT w
theorem faultVs (vx vy : Value) (w : World) : (binOp .eql 27 (.iface 38 vx) (.iface 312 vy)).run Tryz.prog w = .ok (.bool false) w := run_eql_iface_types _ _ vx vy Tryz.underlying27 (by decide) w

set_option maxHeartbeats 1000000 in
theorem unwrap_any (f : Nat) (x y : Value) (t : TypeId) (v : Value) (w : World) (h : w.heap[f]? = some (.cells #[x, y, .iface t v] 42 (0, 0))) :
    Calls Tryz.prog 58 #[.pointer (some ⟨f, 0, none⟩)] w fun e w' => e = .returned (.iface t v) ∧ w' = w := by
  have c2 : w.cell? ⟨f, 2, none⟩ = some (.iface t v) := by rw [Lib.cell_of_heap h]; rfl
  clear h
  go_enter Tryz.func58, Tryz.ntmps58
  go_wp2
  go_ret
  exact ⟨rfl, rfl⟩

set_option maxHeartbeats 2000000 in
theorem is0_fault_same (f : Nat) (a : Addr) (x y : Value) (w : World) (h : w.heap[f]? = some (.cells #[x, y, .iface 312 (.pointer (some a))] 42 (0, 0))) :
    Calls Tryz.prog 41 #[.iface 38 (.pointer (some ⟨f, 0, none⟩)), .iface 312 (.pointer (some a)), .bool true] w fun e w' => e = .returned (.bool true) ∧ w' = w := by
  obtain ⟨i, hi, hcmp⟩ := Option.map_eq_some_iff.1 isComp
  obtain ⟨j, hj, hjs⟩ := Option.map_eq_some_iff.1 isSize
  have heq := run_eql_iface_ptr_same (P := Tryz.prog) w a Tryz.underlying27 Tryz.underlying312 hi hcmp hj
  have nF := noIsF
  have uF := hasUnwrapF
  have qF := faultVs
  have HU := hid (unwrap_any f x y _ _ w h)
  clear h
  go_enter Tryz.func41, Tryz.ntmps41
  go_wp2
  refine wp_loop_rounds 2 ?_
  rw [rounds_succ]
  go_wp2_with fail
  refine Calls.mono HU.out ?_
  rintro e w1 ⟨rfl, hw⟩
  replace hw := hw.symm
  subst hw
  go_wp2
  rw [rounds_succ]
  go_wp2
  go_ret
  exact ⟨rfl, rfl⟩
set_option maxHeartbeats 2000000 in
theorem is0_fault_other (f : Nat) (a b : Addr) (x y : Value) (ca cb : Array Value) (ta tb : TypeId) (w : World) (h : w.heap[f]? = some (.cells #[x, y, .iface 312 (.pointer (some a))] 42 (0, 0))) (hne : a ≠ b) (ha : w.heap[a.block]? = some (.cells ca ta (0, 0))) (hb : w.heap[b.block]? = some (.cells cb tb (0, 0))) :
    Calls Tryz.prog 41 #[.iface 38 (.pointer (some ⟨f, 0, none⟩)), .iface 312 (.pointer (some b)), .bool true] w fun e w' => e = .returned (.bool false) ∧ w' = w := by
  obtain ⟨i, hi, hcmp⟩ := Option.map_eq_some_iff.1 isComp
  obtain ⟨j, hj, hjs⟩ := Option.map_eq_some_iff.1 isSize
  have heq := run_eql_iface_ptr_other (P := Tryz.prog) w Tryz.underlying27 Tryz.underlying312 hi hcmp hj (by rw [hjs]; decide) hne ha hb
  have nF := noIsF
  have uF := hasUnwrapF
  have qF := faultVs
  have nE := noIsE
  have uE := noUnwrapE
  have vE := noUnwrapsE
  have HU := hid (unwrap_any f x y _ _ w h)
  clear h ha hb
  go_enter Tryz.func41, Tryz.ntmps41
  go_wp2
  refine wp_loop_rounds 2 ?_
  rw [rounds_succ]
  go_wp2_with fail
  refine Calls.mono HU.out ?_
  rintro e w1 ⟨rfl, hw⟩
  replace hw := hw.symm
  subst hw
  go_wp2
  rw [rounds_succ]
  go_wp2
  go_ret
  exact ⟨rfl, rfl⟩
set_option maxHeartbeats 1000000 in
theorem is_of (x : Value) (p : Addr) (r : Bool) (w : World) (tx : TypeId)
    (h : Calls Tryz.prog 41 #[.iface tx x, .iface 312 (.pointer (some p)), .bool true] w fun e w' => e = .returned (.bool r) ∧ w' = w) :
    Calls Tryz.prog 13 #[.iface tx x, .iface 312 (.pointer (some p))] w fun e w' => e = .returned (.bool r) ∧ w' = w := by
  have tT := isTypeOf
  have cT := isComparable
  have H := hid h
  clear h
  go_enter Tryz.func13, Tryz.ntmps13
  go_wp2_with fail
  refine H.out.mono ?_
  rintro e w1 ⟨rfl, rfl⟩
  go_wp2
  go_ret
  exact ⟨rfl, rfl⟩
/-- a fault of reading -/
def Cod (c : Nat) : Prop := (1 ≤ c ∧ c ≤ 9) ∨ c = 20
theorem Cod.pos {c : Nat} (h : Cod c) : c ≠ 0 := by unfold Cod at h; omega
end Go.Proofs.YtmgfdnccmeahjaaGreatDoor

namespace Go.Proofs.YtmgfdnccmeahjaaGreatDoor
open Go.RowKit Go.ChangeShapes
set_option maxRecDepth 100000
set_option linter.unusedVariables false

theorem laid_one {P : Program} {n nm : String} {text : List UInt8} {r : List (String × DataW Unit)} {W : World} {g : Nat} {ti tp te ts : TypeId} {ms : Array (String × TypeId)} {f : Field}
    (h : laidMet P ((n, .iface nm (.ptr (.agg [.lit (.string text)]))) :: r) W)
    (hg : P.globalNamed n = some g) (ht : (P.globals[g]?).map (·.type) = some ti) (hi : P.underlying ti = some (.interface ms)) (hrow : ∀ u, P.typeName? 3 u = some nm → u = tp)
    (hp : P.underlying tp = some (.pointer te)) (he : P.underlying te = some (.struct #[f])) (hft : f.type = ts) (hfo : f.offset = 0) (hs : P.underlying ts = some .string) (hc : P.cellsOf te = 1) (hcs : P.cellsOf ts = 1) :
    ∃ (a : Addr) (s : ByteArray) (c : Array Value) (t : TypeId), W.cell? ⟨g, 0, none⟩ = some (.iface tp (.pointer (some a))) ∧ W.cell? a = some (.string s) ∧ s.data.toList = text ∧ W.heap[a.block]? = some (.cells c t (0, 0)) := by
  obtain ⟨ps, ⟨g0, t0, cs0, f0, p0, q0, hg0, ht0, hv0, hd0, _, e0⟩, _, hrows⟩ := h
  obtain rfl := Option.some.inj (hg.symm.trans hg0)
  obtain rfl := Option.some.inj (ht.symm.trans ht0)
  subst e0
  obtain ⟨l0⟩ := cs0
  have ok0 : ∀ u v, l0 = [.iface u v] → Value.okWide P W .any 0 u v := fun u v e => by
    subst e
    exact (hrows g 0 (by simp [MemPlace.row])).2 u v (by simpa using World.var?_cell hg0 hv0 0)
  obtain ⟨a0, s0, rfl, hc0, hs0, hz0, rfl⟩ := errorString_of_trod hi hrow hp he hft hfo hs hc hcs hd0 ok0
  obtain ⟨c0, t0, hb0⟩ := (hrows a0.block a0.off (by simp [MemPlace.row])).1
  exact ⟨a0, s0, c0, t0, by simpa using World.var?_cell hg0 hv0 0, hc0, hs0, hb0⟩

theorem starE : "*" ++ "errors.errorString" = "*errors.errorString" := by decide
theorem rowE (u : TypeId) (h : Tryz.prog.typeName? 3 u = some "*errors.errorString") : u = 312 :=
  typeName_ptr_named (nm := "errors.errorString") (by rw [starE]; kernel_rfl) (by kernel_rfl) (by decide) u (by rw [starE]; exact h)

/-- variable g holds an error of errors.New's make with this text, at a -/
def SE (w : World) (g : Nat) (a : Addr) (l : List UInt8) : Prop :=
  w.cell? ⟨g, 0, none⟩ = some (.iface 312 (.pointer (some a))) ∧ (∃ s : ByteArray, w.cell? a = some (.string s) ∧ s.data.toList = l) ∧ ∃ c t, w.heap[a.block]? = some (.cells c t (0, 0))

theorem sent_of {n : String} {text : List UInt8} {r : List (String × DataW Unit)} {W : World} {g : Nat} (h : laidMet Tryz.prog ((n, .iface "*errors.errorString" (.ptr (.agg [.lit (.string text)]))) :: r) W)
    (hg : Tryz.prog.globalNamed n = some g) (ht : (Tryz.prog.globals[g]?).map (·.type) = some 27) : ∃ a, SE W g a text := by
  obtain ⟨a, s, c, t, h1, h2, h3, h4⟩ := laid_one h hg ht Tryz.underlying27 rowE Tryz.underlying312 Tryz.underlying314 rfl rfl Tryz.underlying9 (by kernel_rfl) (by kernel_rfl)
  exact ⟨a, h1, ⟨s, h2, h3⟩, c, t, h4⟩

theorem SE.below {w w' : World} {g : Nat} {a : Addr} {l : List UInt8} (h : SE w g a l) (hb : Below w.heap.size w w') : SE w' g a l := by
  obtain ⟨h1, ⟨s, h2, h3⟩, c, t, h4⟩ := h
  exact ⟨(hb.cell (p := ⟨g, 0, none⟩) (World.block_lt_of_cell? _ _ h1)).trans h1, ⟨s, (hb.cell (p := a) (World.block_lt_of_cell? _ _ h2)).trans h2, h3⟩, c, t, (hb.block _ (Array.getElem?_eq_some_iff.1 h4).1).trans h4⟩
theorem SE.ne {w : World} {g g' : Nat} {a a' : Addr} {l l' : List UInt8} (h : SE w g a l) (h' : SE w g' a' l') (hl : l ≠ l') : a ≠ a' := by
  rintro rfl
  obtain ⟨_, ⟨s, h2, h3⟩, _⟩ := h
  obtain ⟨_, ⟨s', h2', h3'⟩, _⟩ := h'
  rw [h2] at h2'
  have : s = s' := by simpa using h2'
  subst this
  exact hl (h3.symm.trans h3')

end Go.Proofs.YtmgfdnccmeahjaaGreatDoor

namespace Go.Proofs.YtmgfdnccmeahjaaGreatDoor
open Go.RowKit
set_option maxRecDepth 100000
set_option linter.unusedVariables false
set_option linter.unusedSimpArgs false

theorem ssi : (Tryz.prog.info? 32).map (fun i => (i.zero, i.size, i.bytes)) = some (some (.slice none 0 0), 1, 24) := by kernel_rfl
end Go.Proofs.YtmgfdnccmeahjaaGreatDoor

namespace Go.Proofs.YtmgfdnccmeahjaaGreatDoor
open Go.RowKit
set_option maxRecDepth 100000
set_option linter.unusedVariables false
set_option linter.unusedSimpArgs false

/-- behind a new block -/
theorem RX.alloc {A : Nat → Addr} {G : Nat → Prop} {w : World} {b : Nat} {s : Rs} (h : RX A G w b s) (o : Obj) : RX A G (w.alloc o) b s := by
  obtain ⟨bp, bv, cv, tv, V, h⟩ := h
  exact ⟨bp, bv, cv, tv, V, ⟨fun k hk => Nat.lt_of_lt_of_le (h.gs k hk) (by simp), h.nb, h.nbv, h.ncv, h.ntv, h.top.alloc _, h.bpo, h.bz, h.buf.alloc _, h.cel.alloc _, h.tol.alloc _, ⟨h.rws.len, fun j hj hv => (h.rws.row j hj hv).alloc _⟩, h.ap, h.vlt, h.dis⟩⟩
theorem RX.drewN {A : Nat → Addr} {G : Nat → Prop} {w : World} {b : Nat} {s : Rs} (h : RX A G w b s) : ∀ n, RX A G (w.drewN n) b s
  | 0 => h
  | n + 1 => RX.drew (RX.drewN h n)
theorem drewN_heap (w : World) : ∀ n, (w.drewN n).heap = w.heap
  | 0 => rfl
  | n + 1 => drewN_heap w n
theorem Kg.drewN {G : Nat → Prop} {a w : World} (h : Kg G a w) : ∀ n, Kg G a (w.drewN n)
  | 0 => h
  | n + 1 => Kg.drew (Kg.drewN h n)
end Go.Proofs.YtmgfdnccmeahjaaGreatDoor
