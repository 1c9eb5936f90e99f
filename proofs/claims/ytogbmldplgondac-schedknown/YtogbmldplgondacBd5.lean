/-
  A board: Block.
-/
import Derived.Test.YtogbmldplgondacBd4
import Derived.Deep.RegionLaw
namespace Go.Proofs.Ytogbmldplgondac
open Go.RowKit Go.Maps
set_option maxRecDepth 100000

def updL (L : Int → List Int) (k : Int) (l : List Int) : Int → List Int := fun x => if x = k then l else L x
theorem Kb.grown {d hb mb : Nat} {M : Int → Value} {w w' : World} {r : Option Nat} (hg : w.grownBy w' r) (hr : ∀ k, r = some k → ofB d hb mb M k) : Kb d hb mb M w w' :=
  ⟨hg.os, hg.tape, hg.output, hg.size, fun k hk hn => hg.block k hk (fun e => hn (hr k e.symm))⟩
theorem BD.waits {w : World} {base d hb mb N : Nat} {S : List Hd} {p : Int} {M : Int → Value} {L : Int → List Int} (H : BD w base d hb mb N S p M L) (on : Int) (hon : i64 on) (x : Int) (T : Nat) (hT : w.cell? ⟨T, 0, none⟩ = some (.int .i64 x)) (hN : N < maxLen) (hl : (L on).length ≤ 17592186043904) :
    ∃ v' w3 w4, (Builtin.append_ #[22, 22] 22 #[M on, .slice (some ⟨T, 0, none⟩) 1 1]).run Try.prog w = .ok v' w3 ∧ (Instr.mapUpdate 90 (.map (some mb)) (.int .i64 on) v').run Try.prog w3 = .ok () w4 ∧
      BD w4 base d hb mb (N + 1) S p (upd M on v') (updL L on (L on ++ [x])) ∧ Kb d hb mb M w w4 ∧ (∃ g, v'.ownBlock = some g ∧ ((M on).ownBlock = some g ∨ w.heap.size ≤ g)) ∧ w3.cell? ⟨d, 1, none⟩ = some (.map (some mb)) := by
  have hlt := H.lt
  obtain ⟨n1, n2, n3, n4⟩ := H.ne
  have hbase : base ≤ w.heap.size := by have := (hlt d (.inl rfl)); omega
  obtain ⟨v', w3, hrun, hlr, hgr, g, hg1, hg2⟩ := (H.lists on).app x T hT hl hbase
  have hmb : some mb ≠ (M on).ownBlock := fun e => (n4 on mb e.symm).2.2 rfl
  obtain ⟨w4, hrun4, hmp4, hgr4⟩ := (H.map.kept hgr hmb).put hon hN v'
  have hk34 : ∀ k, k < w3.heap.size → k ≠ mb → w4.heap[k]? = w3.heap[k]? := fun k hk hne => hgr4.block k hk (fun e => hne (by cases e; rfl))
  have hk : ∀ k, k < w.heap.size → k ≠ mb → (M on).ownBlock ≠ some k → w4.heap[k]? = w.heap[k]? := fun k hk h1 h2 => by
    rw [hk34 k (by have := hgr.size; omega) h1, hgr.block k hk (fun e => h2 e.symm)]
  have hd := hlt d (.inl rfl)
  have hh := hlt hb (.inr (.inl rfl))
  have hv4 : w4.heap[g]? = w3.heap[g]? := by
    obtain ⟨_, row, hr⟩ := hlr.typ hg1
    refine hk34 g (Array.getElem?_eq_some_iff.1 hr).1 (fun e => ?_)
    exact (H.map.kept hgr hmb).notcells _ _ _ (e ▸ hr)
  have hold : ∀ k, k ≠ on → ∀ g', (M k).ownBlock = some g' → w4.heap[g']? = w.heap[g']? := fun k hne g' hg' =>
    hk g' (hlt g' (.inr (.inr (.inr ⟨k, hg'⟩)))).1 (n4 k g' hg').2.2 (fun e => hne (H.apart k on g' hg' e))
  refine ⟨v', w3, w4, hrun, hrun4, ⟨H.gd, H.gh, H.gm, ?_, ?_, H.many, hmp4, fun k => ?_, fun k k' g0 h0 h0' => ?_⟩, ?_, ⟨g, hg1, hg2⟩, ?_⟩
  · rw [hk d hd.1 n2 (fun e => (n4 on d e).1 rfl)]; exact H.top
  · rw [hk hb hh.1 n3 (fun e => (n4 on hb e).2.1 rfl)]; exact H.row
  · unfold upd updL
    by_cases e : k = on
    · rw [if_pos e, if_pos e]
      exact hlr.kept fun g' hg' => by rw [hg1] at hg'; cases hg'; exact hv4
    · rw [if_neg e, if_neg e]
      exact (H.lists k).kept fun g' hg' => hold k e g' hg'
  · unfold upd at h0 h0'
    by_cases e : k = on
    · by_cases e' : k' = on
      · rw [e, e']
      · rw [if_pos e] at h0
        rw [if_neg e'] at h0'
        rw [hg1] at h0
        cases h0
        rcases hg2 with hg2 | hg2
        · exact absurd (H.apart k' on g h0' hg2) e'
        · have := (hlt g (.inr (.inr (.inr ⟨k', h0'⟩)))).1
          omega
    · by_cases e' : k' = on
      · rw [if_neg e] at h0
        rw [if_pos e', hg1] at h0'
        cases h0'
        rcases hg2 with hg2 | hg2
        · exact absurd (H.apart k on g h0 hg2) e
        · have := (hlt g (.inr (.inr (.inr ⟨k, h0⟩)))).1
          omega
      · rw [if_neg e] at h0
        rw [if_neg e'] at h0'
        exact H.apart k k' g0 h0 h0'
  rotate_left
  · rw [World.cell?_of_block (a := ⟨d, 1, none⟩) (hgr.block d hd.1 (fun e => (n4 on d e.symm).1 rfl))]
    exact H.cells.2.1
  · exact (Kb.grown hgr (fun k e => .inr (.inr (.inr ⟨on, e⟩)))).trans (Kb.grown hgr4 (fun k e => by cases e; exact .inr (.inr (.inl rfl))))

theorem step_app {ops : Array Oper} {o : Oper} {a : Act} {w : World} {K : Act → World → Prop} {Q : Exit → Act → World → Prop} {E : Prop} (hg : o.guard = none) (s x : Operand) (hop : o.op = Op.call { callee := Callee.builtin Builtin.append, args := #[s, x], argTypes := #[22, 22] }) (hty : o.type = 22)
    {v xv v' : Value} {w' : World} (hs : a.eval s = v) (hx : a.eval x = xv) (hrun : (Builtin.append_ #[22, 22] 22 #[v, xv]).run Try.prog w = .ok v' w') (hK : K (a.put o.dst v') w') :
    if Region.wanted o (yielded ops a.tmps) = true then Oper.wp Try.prog o a w K Q else E := by
  rw [if_pos (show Region.wanted o (yielded ops a.tmps) = true by simp [Region.wanted, hg])]
  unfold Oper.wp
  simp [execOp, hop, hty, resolve, invoke, builtin, hs, hx, hrun, Result.andThen]
  exact hK
set_option maxHeartbeats 1000000 in
theorem block_yes (i : Nat) (on : Int) (w : World) {base d hb mb N : Nat} {S : List Hd} {p : Int} {M : Int → Value} {L : Int → List Int} (H : BD w base d hb mb N S p M L) (hi : i < S.length) (hr : nRd S (i : Int) = 0) (hon : i64 on) (hN : N < maxLen) (hl : (L on).length ≤ 17592186043904) :
    Calls Try.prog 20 #[.pointer (some ⟨d, 0, none⟩), .int .i64 (i : Int), .int .i64 on] w fun e w' => e = .returned (.int .i64 0) ∧ ∃ v', BD w' base d hb mb (N + 1) (S.set i (2, on, 0)) p (upd M on v') (updL L on (L on ++ [(i : Int)])) ∧ Kb d hb mb M w w' ∧ ∃ g, v'.ownBlock = some g ∧ ((M on).ownBlock = some g ∨ w.heap.size ≤ g) := by
  have HR := hid (notReady_any (i : Int) w H)
  rw [hr] at HR
  obtain ⟨c0, c1, _, _⟩ := H.cells
  obtain ⟨a1, a2, a3, a4⟩ := H.hand i hi
  have f1 := a4 (i * 3)
  have f2 := a4 (i * 3 + 1)
  have f3 := a4 (i * 3 + 2)
  obtain ⟨h1, k1⟩ := H.turn i hi (2, on, 0)
  have hI : (i : Int) < (S.length : Int) := by omega
  generalize S[i].1 = x1 at a1
  generalize S[i].2.1 = x2 at a2
  generalize S[i].2.2 = x3 at a3
  obtain ⟨W, hW⟩ : ∃ W, putH w hb i (2, on, 0) = W := ⟨_, rfl⟩
  rw [hW] at h1 k1
  have hW' : ((w.setCell ⟨hb, i * 3, none⟩ (.int .i64 2)).setCell ⟨hb, i * 3 + 1, none⟩ (.int .i64 on)).setCell ⟨hb, i * 3 + 2, none⟩ (.int .i64 0) = W := hW
  obtain ⟨_, d1, _, _⟩ := h1.cells
  have hlk1 := h1.drew.map.look hon
  have h2 := (h1.later ((Below.refl _ _).alloc (Nat.le_refl _) (.cells #[.int .i64 (i : Int)] 3))).drew
  have hlk2 := h2.map.look hon
  have hT : (W.alloc (.cells #[.int .i64 (i : Int)] 3)).drew.cell? ⟨W.heap.size, 0, none⟩ = some (.int .i64 (i : Int)) := by simp
  obtain ⟨v', wA, w4, hap, hpt, hbd, hkb, ⟨g, hg1, hg2⟩, d3⟩ := h2.waits on hon (i : Int) W.heap.size hT hN hl
  have d2 := h2.cells.2.1
  have HAP := hid hap
  clear hap
  have HBD := hid hbd
  have HKB := hid hkb
  have HG := hid hg2
  have HG1 := hid hg1
  have K1 := hid k1
  clear hbd hkb hg1 hg2 h1 h2 hT H a4 k1 hr hW
  go_enter Try.func20, Try.ntmps20
  go_wp2_with (go_at_call 55; refine HR.out.mono ?_; rintro e w3 ⟨rfl, rfl⟩)
  have HF := hid (show ∃ v', BD w4 base d hb mb (N + 1) (S.set i (2, on, 0)) p (upd M on v') (updL L on (L on ++ [(i : Int)])) ∧ Kb d hb mb M w3 w4 ∧ ∃ g, v'.ownBlock = some g ∧ ((M on).ownBlock = some g ∨ w3.heap.size ≤ g) from
    ⟨v', HBD.out, (K1.out.trans (Kb.below ((Below.refl _ _).alloc (Nat.le_refl _) _))).trans ((Kb.drew _ _ _ _ _).trans HKB.out), g, HG1.out, HG.out.imp id (fun h => by have := K1.out.size; simp at h; omega)⟩)
  go_region_law (refine step_app rfl _ _ rfl rfl rfl rfl HAP.out ?_)
  all_goals
    go_wp2
    go_ret
    exact ⟨rfl, HF.out⟩
end Go.Proofs.Ytogbmldplgondac
