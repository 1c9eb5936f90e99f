/-
  Bytes in memory: slices of bytes that can be read ('Reads'), those that a call has made and may append to ('Owns'), and the laws of append and make for them. No function of the program in sight.
-/
import Derived.Test.YtjaopckdhohpbaaDoorRows
import Derived.WalkKit
import Derived.ProofKit
import Derived.Laws.AppendOwnNone
import Derived.Laws.IdiomStrings
import Derived.OpenShut
namespace Go.Proofs.YtjaopckdhohpbaaDoor
open Go.RowKit

/-- bytes as cells -/
def bc (l : List UInt8) : List Value := l.map fun b => .int .u8 (b.toNat : Int)

theorem bc_length (l : List UInt8) : (bc l).length = l.length := by simp [bc]
theorem bc_append (l m : List UInt8) : bc (l ++ m) = bc l ++ bc m := by simp [bc]
theorem bc_one (l : List UInt8) : ∀ u ∈ bc l, u.oneCell' = true := by
  intro u hu
  obtain ⟨_, _, rfl⟩ := List.mem_map.1 hu
  rfl
theorem bc_at (l : List UInt8) (j : Nat) (hj : j < l.length) : (bc l)[j]? = some (.int .u8 (l[j].toNat : Int)) := by
  simp [bc, hj]

/-- the slice v reads as the bytes l -/
def Reads (w : World) (v : Value) (l : List UInt8) : Prop :=
  (l = [] ∧ ∃ ao cap, v = .slice ao 0 cap ∧ (ao = none → cap = 0)) ∨
  ∃ b off cap, v = .slice (some ⟨b, off, none⟩) l.length cap ∧ l.length ≤ cap ∧ ∀ j (hj : j < l.length), w.cell? ⟨b, off + j, none⟩ = some (.int .u8 (l[j].toNat : Int))

theorem Reads.nil (w : World) : Reads w (.slice none 0 0) [] := .inl ⟨rfl, none, 0, rfl, fun _ => rfl⟩

theorem Reads.form {w : World} {v : Value} {l : List UInt8} (h : Reads w v l) : ∃ ao cap, v = .slice ao l.length cap := by
  rcases h with ⟨rfl, ao, cap, rfl, _⟩ | ⟨b, off, cap, rfl, _, _⟩
  · exact ⟨ao, cap, rfl⟩
  · exact ⟨_, cap, rfl⟩

theorem Reads.carry {w w' : World} {v : Value} {l : List UInt8} (h : Reads w v l) (hc : ∀ p : Addr, ∀ u, w.cell? p = some u → w'.cell? p = some u) : Reads w' v l := by
  rcases h with h | ⟨b, off, cap, hv, hl, hcell⟩
  · exact .inl h
  · exact .inr ⟨b, off, cap, hv, hl, fun j hj => hc _ _ (hcell j hj)⟩

theorem below_cells {w w' : World} (hb : Below w.heap.size w w') : ∀ p : Addr, ∀ u, w.cell? p = some u → w'.cell? p = some u :=
  fun p _ h => (hb.cell (p := p) (World.block_lt_of_cell? _ _ h)).trans h

theorem Reads.below {w w' : World} {v : Value} {l : List UInt8} (h : Reads w v l) (hb : Below w.heap.size w w') : Reads w' v l := h.carry (below_cells hb)

theorem Reads.alloc {w : World} {v : Value} {l : List UInt8} (h : Reads w v l) (o : Obj) : Reads (w.alloc o) v l :=
  h.below ((Below.refl _ _).alloc (Nat.le_refl _) _)

theorem Reads.drew {w : World} {v : Value} {l : List UInt8} (h : Reads w v l) : Reads w.drew v l := h.below ((Below.refl _ _).drew)

/-- a slice of bytes that lies in a block of the call's own -/
def Owns (w : World) (base : Nat) (v : Value) (l : List UInt8) : Prop := w.ownsRow base 5 1 v l.length (bc l)

theorem Owns.nil (w : World) (base : Nat) : Owns w base (.slice none 0 0) [] := World.ownsRow_nil _ _ _ _

theorem Owns.reads {w : World} {base : Nat} {v : Value} {l : List UInt8} (h : Owns w base v l) : Reads w v l := by
  have hc := fun g hg => World.ownsRow.cells h (g := g) hg
  rcases h.2 with ⟨rfl, hl⟩ | ⟨g, cap, cur, rfl, _, hgg, hn, _⟩
  · have : l = [] := List.eq_nil_of_length_eq_zero hl
    subst this
    exact Reads.nil w
  · refine .inr ⟨g, 0, cap, rfl, hn, fun j hj => ?_⟩
    have := hc g rfl j _ (bc_at l j hj)
    rw [Addr.add_lit] at this
    exact this

theorem Owns.form {w : World} {base : Nat} {v : Value} {l : List UInt8} (h : Owns w base v l) (hl : 0 < l.length) :
    ∃ g cap, v = .slice (some ⟨g, 0, none⟩) l.length cap ∧ l.length ≤ cap ∧ cap ≤ maxLen ∧ ∀ j (hj : j < l.length), w.cell? ⟨g, j, none⟩ = some (.int .u8 (l[j].toNat : Int)) := by
  have hc := fun g hg => World.ownsRow.cells h (g := g) hg
  rcases h.2 with ⟨_, h0⟩ | ⟨g, cap, cur, rfl, _, hgg, hn, hm, _⟩
  · omega
  · refine ⟨g, cap, rfl, hn, hm, fun j hj => ?_⟩
    have := hc g rfl j _ (bc_at l j hj)
    rw [Addr.add_lit, Nat.zero_add] at this
    exact this

theorem Owns.block_ge {w : World} {base : Nat} {v : Value} {l : List UInt8} (h : Owns w base v l) : ∀ k, v.ownBlock = some k → base ≤ k := fun k hk => (World.ownsRow.lt h k hk).1

theorem Owns.mono {w : World} {base base' : Nat} {v : Value} {l : List UInt8} (h : Owns w base v l) (hb : base' ≤ base) : Owns w base' v l := by
  refine ⟨h.1, ?_⟩
  rcases h.2 with h2 | ⟨g, cap, cur, hv, hg, r⟩
  · exact .inl h2
  · exact .inr ⟨g, cap, cur, hv, Nat.le_trans hb hg, r⟩

theorem Owns.alloc {w : World} {base : Nat} {v : Value} {l : List UInt8} (h : Owns w base v l) (o : Obj) : Owns (w.alloc o) base v l := World.ownsRow.alloc h o

/-- the one-element slice that a call of append lays first -/
theorem reads_one (w : World) (c : UInt8) (x : Int) (hx : x = (c.toNat : Int)) : Reads (w.alloc (.cells #[.int .u8 x] 5)) (.slice (some ⟨w.heap.size, 0, none⟩) 1 1) [c] := by
  subst hx
  refine .inr ⟨w.heap.size, 0, 1, rfl, Nat.le_refl _, fun j hj => ?_⟩
  have : j = 0 := by simpa using hj
  subst this
  simp

theorem wpList_app {P : Program} {w : World} {ops : Array Oper} {rest : List Oper} {o : Oper} {a : Act} {Q : Exit → Act → World → Prop} (hgd : o.guard = none) (s x : Operand) (t : TypeId)
    (ho : o.op = .call { callee := .builtin .append, args := #[s, x], argTypes := #[t, t] })
    (ht : P.underlying t = some (.slice 5)) (hinfo : (P.info? 5).map (fun i => (i.zero, i.size, i.bytes)) = some (some (.int .u8 0), 1, 1))
    (base : Nat) (v : Value) (l : List UInt8) (hs : a.eval s = v) (hown : Owns w base v l) (xv : Value) (m : List UInt8) (hx : a.eval x = xv) (hr : Reads w xv m)
    (hlen : l.length + m.length ≤ 140737488355328) (hbase : base ≤ w.heap.size)
    (h : ∀ v' w', Owns w' base v' (l ++ m) → w.grownBy w' v.ownBlock → wpList P ops Q rest (a.put o.dst v') w') : wpList P ops Q (o :: rest) a w := by
  obtain ⟨i, hi, hz, hsz, hby⟩ := info_parts hinfo
  have key : ∀ ad cap, xv = .slice (some ad) m.length cap → (∀ j u, (bc m)[j]? = some u → w.cell? (ad.add j) = some u) → wpList P ops Q (o :: rest) a w := by
    intro ad cap hxv hnews
    refine wpList_append_own w hgd s x t ho base 5 i (.int .u8 0) 1 1 ht hi hz hsz hby rfl (by decide) v l.length (bc l) hs hown ad m.length cap (bc m) (hx.trans hxv) (by rw [bc_length, Nat.mul_one]) hnews (bc_one m) (by unfold maxLen; omega) (by omega) hbase ?_
    intro v' w' ho' hg _
    refine h v' w' ?_ hg
    unfold Owns
    rw [bc_append, List.length_append]
    exact ho'
  rcases hr with ⟨rfl, ao, cap, rfl, hcap⟩ | ⟨b, off, cap, rfl, hl, hcell⟩
  · cases ao with
    | none =>
      obtain rfl := hcap rfl
      refine wpList_append_own_none hgd s x t ho base 5 i 1 ht hi v l.length (bc l) hs hown hx ?_
      exact h v w (by rw [List.append_nil]; exact hown) ⟨rfl, rfl, rfl, Nat.le_refl _, fun _ _ _ => rfl⟩
    | some ad => exact key ad cap rfl (fun j u hj => by simp [bc] at hj)
  · refine key _ cap rfl fun j u hj => ?_
    have hj' : j < m.length := by
      have := (List.getElem?_eq_some_iff.1 hj).1
      simpa [bc_length] using this
    rw [bc_at m j hj'] at hj
    cases hj
    rw [Addr.add_lit]
    exact hcell j hj'

theorem wpList_mk {P : Program} {w : World} {ops : Array Oper} {rest : List Oper} {o : Oper} {a : Act} {Q : Exit → Act → World → Prop} (hg : o.guard = none) (l c : Operand) (t : TypeId) (hop : o.op = Op.makeSlice t l c)
    (ht : P.underlying t = some (.slice 5)) (hinfo : (P.info? 5).map (fun i => (i.zero, i.size, i.bytes)) = some (some (.int .u8 0), 1, 1))
    (base : Nat) (kl kc : IntKind) (C : Int) (hl : a.eval l = .int kl 0) (hc : a.eval c = .int kc C) (hC : 0 ≤ C) (b2 : C ≤ 281474976710656) (b4 : base ≤ w.heap.size)
    (hK : ∀ v' w', Owns w' base v' [] → w.grownBy w' none → wpList P ops Q rest (a.put o.dst v') w') :
    wpList P ops Q (o :: rest) a w := by
  obtain ⟨i, hi, hz, hsz, hby⟩ := info_parts hinfo
  exact wpList_make_own w hg l c t hop base 5 i (.int .u8 0) 1 ht hi hz hsz kl kc C C.toNat hl hc (by omega) (by rw [hby]; omega) (by unfold maxLen; omega) b4 (fun w' h1 h2 => hK _ w' h1 h2)

/-- 'string(v)' -/
theorem run_text {P : Program} {w : World} {v : Value} {l : List UInt8} (src dst : TypeId) (hs : P.underlying src = some (.slice 5)) (he : P.underlying 5 = some (.int .u8)) (hd : P.underlying dst = some .string) (h : Reads w v l) :
    (convert src dst v).run P w = .ok (.string ⟨l.toArray⟩) w := by
  rcases h with ⟨rfl, ao, cap, rfl, _⟩ | ⟨b, off, cap, rfl, _, hcell⟩
  · cases ao with
    | none =>
      rw [run_convert_bytes_string w src dst 5 none 0 cap hs he hd]
      simp [Conv.bytesToString]
      rfl
    | some ad => exact run_convert_bytes_back w src dst 5 ad cap [] hs he hd (fun j hj => by simp at hj)
  · exact run_convert_bytes_back w src dst 5 _ cap l hs he hd (fun j hj => by rw [Addr.add_lit]; exact hcell j hj)

end Go.Proofs.YtjaopckdhohpbaaDoor
