/-
  Sq7: Sheets: the Reader's states, one step each. Laid by mksq7.py.
  Sq8: Sheets: the Reader's states, one step each: plain, quoted, behind a quote, behind a return, the beginnings. Laid by mksq8.py.
  Sq9: Sheets: the Reader's states, one step each: behind a quote, behind a return, the beginnings. Laid by mksq9.py.
  Sqa: Sheets: a byte is taken; what is told. Laid by mksqa.py.
  Sqb: Sheets: what is told. Laid by v18.py.
-/
import Derived.Test.YtmgfdnccmeahjaaGreatDoorZH
namespace Go.Proofs.YtmgfdnccmeahjaaGreatDoor
open Go.RowKit
set_option maxRecDepth 100000
set_option linter.unusedVariables false
set_option linter.unusedSimpArgs false

theorem RM.re {A : Nat → Addr} {G : Nat → Prop} {w w' : World} {b : Nat} {s s' : Rs} {bp bv cv tv : Value} {V : List Value} (h : RM A G w b s bp bv cv tv V) (hk : Kg (But w b) w w')
    (ht : RB w' b (nxV b s'.md) s'.sz s'.hp s'.op s'.ep s'.rw s'.wd bp bv cv tv s'.fp (erV A s'.er) false) (h1 : s'.cur = s.cur) (h2 : s'.cs = s.cs) (h3 : s'.td = s.td) : RX A G w' b s' ∧ Kg G w w' := by
  obtain ⟨r1, r2, r3, r4⟩ := h.rows hk
  refine ⟨⟨bp, bv, cv, tv, V, ?_⟩, h.kg hk⟩
  exact { gs := fun k hG => Nat.lt_of_lt_of_le (h.gs k hG) hk.size, nb := h.nb, nbv := h.nbv, ncv := h.ncv, ntv := h.ntv, top := ht, bpo := h.bpo, bz := fun hz => h.bz (h1 ▸ hz), buf := by rw [h1]; exact r1, cel := by rw [h2]; exact r2, tol := r3, rws := by rw [h3]; exact r4, ap := h.ap, vlt := h.vlt, dis := h.dis }

set_option maxHeartbeats 1000000 in
theorem mayStand_any (c : UInt8) (w : World) : Calls Tryz.prog 139 #[.int .u8 (c.toNat : Int)] w fun e w' => e = .returned (.bool (mayB c.toNat)) ∧ w' = w := by
  by_cases h9 : c.toNat = 9
  · have HV := hid (show mayB c.toNat = true by unfold mayB; rw [h9]; rfl)
    have e9 : ((c.toNat : Int) == 9) = true := by rw [beq_iff_eq]; omega
    rw [HV.out]
    go_enter Tryz.func139, Tryz.ntmps139
    go_wp2
    go_ret
    exact ⟨rfl, rfl⟩
  · skip
    by_cases h10 : c.toNat = 10
    · have HV := hid (show mayB c.toNat = true by unfold mayB; rw [h10]; rfl)
      have e9 : ((c.toNat : Int) == 9) = false := by rw [beq_eq_false_iff_ne]; omega
      have e10 : ((c.toNat : Int) == 10) = true := by rw [beq_iff_eq]; omega
      rw [HV.out]
      go_enter Tryz.func139, Tryz.ntmps139
      go_wp2
      go_ret
      exact ⟨rfl, rfl⟩
    · skip
      by_cases h13 : c.toNat = 13
      · have HV := hid (show mayB c.toNat = true by unfold mayB; rw [h13]; rfl)
        have e9 : ((c.toNat : Int) == 9) = false := by rw [beq_eq_false_iff_ne]; omega
        have e10 : ((c.toNat : Int) == 10) = false := by rw [beq_eq_false_iff_ne]; omega
        have e13 : ((c.toNat : Int) == 13) = true := by rw [beq_iff_eq]; omega
        rw [HV.out]
        go_enter Tryz.func139, Tryz.ntmps139
        go_wp2
        go_ret
        exact ⟨rfl, rfl⟩
      · skip
        by_cases h127 : c.toNat = 127
        · have HV := hid (show mayB c.toNat = false by unfold mayB; rw [h127]; rfl)
          have e9 : ((c.toNat : Int) == 9) = false := by rw [beq_eq_false_iff_ne]; omega
          have e10 : ((c.toNat : Int) == 10) = false := by rw [beq_eq_false_iff_ne]; omega
          have e13 : ((c.toNat : Int) == 13) = false := by rw [beq_eq_false_iff_ne]; omega
          have e127 : ((c.toNat : Int) == 127) = true := by rw [beq_iff_eq]; omega
          rw [HV.out]
          go_enter Tryz.func139, Tryz.ntmps139
          go_wp2
          go_ret
          exact ⟨rfl, rfl⟩
        · skip
          by_cases h32 : 32 ≤ c.toNat
          · have HV := hid (show mayB c.toNat = true by unfold mayB; simp; omega)
            have d32 : decide ((32 : Int) ≤ (c.toNat : Int)) = true := by simp; omega
            have i32 : (32 : Int) ≤ (c.toNat : Int) := by omega
            have e9 : ((c.toNat : Int) == 9) = false := by rw [beq_eq_false_iff_ne]; omega
            have e10 : ((c.toNat : Int) == 10) = false := by rw [beq_eq_false_iff_ne]; omega
            have e13 : ((c.toNat : Int) == 13) = false := by rw [beq_eq_false_iff_ne]; omega
            have e127 : ((c.toNat : Int) == 127) = false := by rw [beq_eq_false_iff_ne]; omega
            rw [HV.out]
            go_enter Tryz.func139, Tryz.ntmps139
            go_wp2
            go_ret
            exact ⟨rfl, rfl⟩
          · have HV := hid (show mayB c.toNat = false by unfold mayB; simp; omega)
            have d32 : decide ((32 : Int) ≤ (c.toNat : Int)) = false := by simp; omega
            have i32 : ¬ (32 : Int) ≤ (c.toNat : Int) := by omega
            have e9 : ((c.toNat : Int) == 9) = false := by rw [beq_eq_false_iff_ne]; omega
            have e10 : ((c.toNat : Int) == 10) = false := by rw [beq_eq_false_iff_ne]; omega
            have e13 : ((c.toNat : Int) == 13) = false := by rw [beq_eq_false_iff_ne]; omega
            have e127 : ((c.toNat : Int) == 127) = false := by rw [beq_eq_false_iff_ne]; omega
            rw [HV.out]
            go_enter Tryz.func139, Tryz.ntmps139
            go_wp2
            go_ret
            exact ⟨rfl, rfl⟩
end Go.Proofs.YtmgfdnccmeahjaaGreatDoor

namespace Go.Proofs.YtmgfdnccmeahjaaGreatDoor
open Go.RowKit
set_option maxRecDepth 100000
set_option linter.unusedVariables false
set_option linter.unusedSimpArgs false

/-- what is laid of a state -/
theorem RX.parts {A : Nat → Addr} {G : Nat → Prop} {w : World} {b : Nat} {s : Rs} (h : RX A G w b s) : w.cell? ⟨b, 2, none⟩ = some (.int .i64 (s.hp.1 : Int)) ∧ w.cell? ⟨b, 3, none⟩ = some (.int .i64 (s.hp.2 : Int)) ∧ w.cell? ⟨b, 4, none⟩ = some (.int .i64 (s.op.1 : Int)) ∧ w.cell? ⟨b, 5, none⟩ = some (.int .i64 (s.op.2 : Int)) ∧ w.cell? ⟨b, 6, none⟩ = some (.int .i64 (s.ep.1 : Int)) ∧ w.cell? ⟨b, 7, none⟩ = some (.int .i64 (s.ep.2 : Int)) ∧ w.cell? ⟨b, 8, none⟩ = some (.int .i64 (s.rw : Int)) ∧ w.cell? ⟨b, 0, none⟩ = some (nxV b s.md) ∧ ∀ j, w.frozen? ⟨b, j, none⟩ = false := by
  obtain ⟨bp, bv, cv, tv, V, h⟩ := h
  exact ⟨h.top.c2, h.top.c3, h.top.c4, h.top.c5, h.top.c6, h.top.c7, h.top.c8, h.top.c0, fun j => h.top.fr j⟩
/-- the next state's function laid down -/
theorem RX.next {A : Nat → Addr} {G : Nat → Prop} {w : World} {b : Nat} {s : Rs} (h : RX A G w b s) (m : Nat) : RX A G (w.setCell ⟨b, 0, none⟩ (nxV b m)) b { s with md := m } ∧ Kg G w (w.setCell ⟨b, 0, none⟩ (nxV b m)) := by
  obtain ⟨bp, bv, cv, tv, V, h⟩ := h
  exact RM.re (s' := { s with md := m }) h ((Kg.refl (But w b) w).set (But.not w b) _) (h.top.put0 _) rfl rfl rfl

end Go.Proofs.YtmgfdnccmeahjaaGreatDoor

namespace Go.Proofs.YtmgfdnccmeahjaaGreatDoor
open Go.RowKit
set_option maxRecDepth 100000
set_option linter.unusedVariables false
set_option linter.unusedSimpArgs false

end Go.Proofs.YtmgfdnccmeahjaaGreatDoor

namespace Go.Proofs.YtmgfdnccmeahjaaGreatDoor
open Go.RowKit
set_option maxRecDepth 100000
set_option linter.unusedVariables false
set_option linter.unusedSimpArgs false

/-- numbers that stay small -/
structure Bdd (s : Rs) : Prop where
  cur : s.cur.length ≤ 4096
  cs : s.cs.length ≤ s.sz
  rw : s.rw ≤ s.sz
  td : s.td.length ≤ s.sz
  l : s.hp.1 ≤ s.sz + 1
  c : s.hp.2 ≤ s.sz
/-- what a step does to the numbers -/
structure Nxt (s s' : Rs) : Prop where
  sz : s'.sz = s.sz
  hp : s'.hp = s.hp
  cur : s'.cur.length ≤ 4096
  cs : s'.cs.length ≤ s.cs.length + 1
  rw : s'.rw ≤ s.rw + 1
  td : s'.td.length ≤ s.td.length + 1
theorem nxt_fail (s : Rs) (c : Nat) (p : Nat × Nat) : Nxt s (s.fail c p) := ⟨rfl, rfl, by simp [Rs.fail], by simp [Rs.fail], by simp [Rs.fail], by simp [Rs.fail]⟩
theorem nxt_add (s : Rs) (c : UInt8) (h : s.cur.length ≤ 4096) : Nxt s (s.add c) := by
  unfold Rs.add
  split
  · exact nxt_fail _ _ _
  · exact ⟨rfl, rfl, by simp; omega, by simp, by simp, by simp⟩
theorem nxt_row (s t : Rs) (p : Nat × Nat) (h1 : t.sz = s.sz) (h2 : t.hp = s.hp) (h3 : t.rw = s.rw) (h4 : t.td = s.td) : Nxt s (t.endRow p) := by
  unfold Rs.endRow
  split
  · exact ⟨h1, h2, by simp [Rs.fail], by simp [Rs.fail], by simp [Rs.fail]; omega, by simp [Rs.fail, h4]⟩
  · exact ⟨h1, h2, by simp, by simp, by simp; omega, by simp [h4]⟩
theorem nxt_endCell (s : Rs) (c : Option UInt8) : Nxt s (s.endCell c) := by
  unfold Rs.endCell
  cases c with
  | none => exact nxt_row s s.cel s.hp rfl rfl rfl rfl
  | some c =>
    simp only []
    split
    · exact ⟨rfl, rfl, by simp [Rs.cel], by simp [Rs.cel], by simp [Rs.cel], by simp [Rs.cel]⟩
    · split
      · exact ⟨rfl, rfl, by simp [Rs.fail], by simp [Rs.fail], by simp [Rs.fail, Rs.cel], by simp [Rs.fail, Rs.cel]⟩
      · exact ⟨rfl, rfl, by simp [Rs.cel], by simp [Rs.cel], by simp [Rs.cel], by simp [Rs.cel]⟩
theorem nxt_md {s t : Rs} {m : Nat} (h : Nxt { s with md := m } t) : Nxt s t := ⟨h.sz, h.hp, h.cur, h.cs, h.rw, h.td⟩
theorem nxt_plain (s : Rs) (c : Option UInt8) (h : s.cur.length ≤ 4096) : Nxt s (s.plain c) := by
  unfold Rs.plain
  cases c with
  | none => exact nxt_endCell s none
  | some c =>
    simp only []
    split
    · exact nxt_endCell s _
    · split
      · exact nxt_fail _ _ _
      · split
        · exact nxt_fail _ _ _
        · split
          · exact nxt_fail _ _ _
          · exact nxt_add s c h
theorem nxt_quoted (s : Rs) (c : Option UInt8) (h : s.cur.length ≤ 4096) : Nxt s (s.quoted c) := by
  unfold Rs.quoted
  cases c with
  | none => exact nxt_fail _ _ _
  | some c =>
    simp only []
    split
    · exact ⟨rfl, rfl, h, by simp, by simp, by simp⟩
    · split
      · exact nxt_fail _ _ _
      · exact nxt_add s c h
theorem nxt_behindQuote (s : Rs) (c : Option UInt8) (h : s.cur.length ≤ 4096) : Nxt s (s.behindQuote c) := by
  unfold Rs.behindQuote
  cases c with
  | none => exact nxt_endCell s none
  | some c =>
    simp only []
    split
    · exact nxt_md (nxt_add { s with md := 4 } c h)
    · split
      · exact nxt_endCell s _
      · split
        · exact nxt_fail _ _ _
        · exact nxt_fail _ _ _
theorem nxt_behindReturn (s : Rs) (c : Option UInt8) : Nxt s (s.behindReturn c) := by
  unfold Rs.behindReturn
  cases c with
  | none => exact nxt_fail _ _ _
  | some c =>
    simp only []
    split
    · exact nxt_row s s _ rfl rfl rfl rfl
    · exact nxt_fail _ _ _
theorem nxt_beginCell (s : Rs) (c : Option UInt8) (h : s.cur.length ≤ 4096) : Nxt s (s.beginCell c) := by
  unfold Rs.beginCell
  cases c with
  | none => exact nxt_md (nxt_plain { s with md := 3 } none h)
  | some c =>
    simp only []
    split
    · exact ⟨rfl, rfl, h, by simp, by simp, by simp⟩
    · exact nxt_md (nxt_plain { s with md := 3 } (some c) h)
theorem nxt_any (s : Rs) (c : Option UInt8) (h : s.cur.length ≤ 4096) : Nxt s (s.next c) := by
  unfold Rs.next
  split
  · unfold Rs.beginRow
    cases c with
    | none => exact ⟨rfl, rfl, h, by simp, by simp, by simp⟩
    | some c =>
      simp only []
      split
      · exact nxt_fail _ _ _
      · exact nxt_beginCell s _ h
  · split
    · exact nxt_beginCell s c h
    · split
      · exact nxt_plain s c h
      · split
        · exact nxt_quoted s c h
        · split
          · exact nxt_behindQuote s c h
          · exact nxt_behindReturn s c
theorem Bdd.take {s : Rs} (h : Bdd s) (c : UInt8) : Bdd (s.take c) := by
  unfold Rs.take
  split
  · exact ⟨by simp [Rs.fail], by simp [Rs.fail], h.rw, h.td, h.l, h.c⟩
  · have n := nxt_any s (some c) h.cur
    have h1 := h.cs
    have h2 := h.rw
    have h3 := h.td
    have h4 := h.l
    have h5 := h.c
    have n1 := n.cs
    have n2 := n.rw
    have n3 := n.td
    refine ⟨n.cur, ?_, ?_, ?_, ?_, ?_⟩
    · show (s.next (some c)).cs.length ≤ (s.next (some c)).sz + 1
      rw [n.sz]; omega
    · show (s.next (some c)).rw ≤ (s.next (some c)).sz + 1
      rw [n.sz]; omega
    · show (s.next (some c)).td.length ≤ (s.next (some c)).sz + 1
      rw [n.sz]; omega
    · show (adv (s.next (some c)).hp c.toNat).1 ≤ (s.next (some c)).sz + 1 + 1
      rw [n.sz, n.hp]
      unfold adv
      split <;> simp <;> omega
    · show (adv (s.next (some c)).hp c.toNat).2 ≤ (s.next (some c)).sz + 1
      rw [n.sz, n.hp]
      unfold adv
      split <;> simp <;> omega

end Go.Proofs.YtmgfdnccmeahjaaGreatDoor

namespace Go.Proofs.YtmgfdnccmeahjaaGreatDoor
open Go.RowKit
set_option maxRecDepth 100000
set_option linter.unusedVariables false
set_option linter.unusedSimpArgs false

/-- rows that were told -/
structure TR (w : World) (tv : Value) (V : List Value) (T : List (List (List UInt8))) : Prop where
  own : w.ownsRow 0 32 1 tv V.length V
  rws : RwS w V T
/-- an error: none, or a Fault in a block -/
def FT (A : Nat → Addr) (w : World) (e : Value) (c : Nat) (p : Nat × Nat) : Prop :=
  (c = 0 ∧ e = .nilIface) ∨ (c ≠ 0 ∧ ∃ f, e = .iface 38 (.pointer (some ⟨f, 0, none⟩)) ∧ w.heap[f]? = some (.cells #[.int .i64 (p.1 : Int), .int .i64 (p.2 : Int), erV A c] 42 (0, 0)))
/-- the blocks of rows, beside others -/
def Gs (G : Nat → Prop) (tv : Value) (V : List Value) : Nat → Prop := fun k => G k ∨ tv.ownBlock = some k ∨ ∃ v ∈ V, v.ownBlock = some k

theorem RM.told {A : Nat → Addr} {G : Nat → Prop} {w : World} {b : Nat} {s : Rs} {bp bv cv tv : Value} {V : List Value} (h : RM A G w b s bp bv cv tv V) :
    RM A (Gs G tv V) (w.setCell ⟨b, 13, none⟩ (.slice none 0 0)) b { s with td := [] } bp bv cv (.slice none 0 0) [] ∧ Kg G w (w.setCell ⟨b, 13, none⟩ (.slice none 0 0)) ∧ TR (w.setCell ⟨b, 13, none⟩ (.slice none 0 0)) tv V s.td := by
  have hk : Kg (But w b) w (w.setCell ⟨b, 13, none⟩ (.slice none 0 0)) := (Kg.refl _ w).set (But.not w b) _
  obtain ⟨r1, r2, r3, r4⟩ := h.rows hk
  have nV : ∀ v ∈ V, ∀ g, v.ownBlock = some g → ∃ j, ∃ (hj : j < s.td.length) (hv : j < V.length), V[j] = v := by
    intro v hv g hg
    obtain ⟨j, hj, rfl⟩ := List.mem_iff_getElem.1 hv
    exact ⟨j, by rw [← h.rws.len]; exact hj, hj, rfl⟩
  refine ⟨?_, h.kg hk, ⟨r3, r4⟩⟩
  have lt : ∀ k, Gs G tv V k → k < w.heap.size := by
    rintro k (hk | hk | ⟨v, hv, hg⟩)
    · exact h.gs k hk
    · exact (World.ownsRow.lt h.tol k hk).2
    · obtain ⟨j, hj, hv', rfl⟩ := nV v hv k hg
      exact (World.ownsRow.lt (h.rws.row j hj hv') k hg).2
  exact { gs := fun k hG => Nat.lt_of_lt_of_le (lt k hG) hk.size,
          nb := by
            rintro (hk | hk | ⟨v, hv, hg⟩)
            · exact h.nb hk
            · exact own_ne h.tol h.top (by decide) hk
            · obtain ⟨j, hj, hv', rfl⟩ := nV v hv b hg
              exact own_ne (h.rws.row j hj hv') h.top (by decide) hg,
          nbv := by
            rintro g hb (hk | hk | ⟨v, hv, hg⟩)
            · exact h.nbv g hb hk
            · exact own_two h.buf h.tol (by decide) g hb hk
            · obtain ⟨j, hj, hv', rfl⟩ := nV v hv g hg
              exact own_two h.buf (h.rws.row j hj hv') (by decide) g hb hg,
          ncv := by
            rintro g hb (hk | hk | ⟨v, hv, hg⟩)
            · exact h.ncv g hb hk
            · exact own_two h.cel h.tol (by decide) g hb hk
            · exact h.ap v hv g hg hb,
          ntv := by simp [Value.ownBlock], top := h.top.put13 _, bpo := h.bpo, bz := h.bz, buf := r1, cel := r2, tol := World.ownsRow_nil _ _ _ _, rws := RwS.nil _, ap := by simp, vlt := by simp, dis := Dj.nil }
theorem RX.of {A : Nat → Addr} {G : Nat → Prop} {w : World} {b : Nat} {s : Rs} {bp bv cv tv : Value} {V : List Value} (h : RM A G w b s bp bv cv tv V) : RX A G w b s := ⟨bp, bv, cv, tv, V, h⟩
theorem TR.alloc {w : World} {tv : Value} {V : List Value} {T : List (List (List UInt8))} (h : TR w tv V T) (o : Obj) : TR (w.alloc o) tv V T := ⟨h.own.alloc _, h.rws.len, fun j hj hv => (h.rws.row j hj hv).alloc _⟩
theorem TR.kept {w w' : World} {tv : Value} {V : List Value} {T : List (List (List UInt8))} (h : TR w tv V T) {G : Nat → Prop} (hk : Kg (Gs G tv V) w w') : TR w' tv V T :=
  ⟨own_of h.own fun g hg => hk.block g (.inr (.inl hg)), h.rws.kept fun k hv => hk.block k (.inr (.inr hv))⟩

end Go.Proofs.YtmgfdnccmeahjaaGreatDoor
