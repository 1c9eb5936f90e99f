/-
  Sheets: what is told. Laid by v18.py.
-/
import Derived.Test.YtpgpeafmlijfkaaGreatDoorSqa
namespace Go.Proofs.YtpgpeafmlijfkaaGreatDoor
open Go.RowKit
set_option maxRecDepth 100000
set_option linter.unusedVariables false
set_option linter.unusedSimpArgs false

/-- rows that were told -/
structure TR (w : World) (tv : Value) (V : List Value) (T : List (List (List UInt8))) : Prop where
  own : w.ownsRow 0 28 1 tv V.length V
  rws : RwS w V T
/-- an error: none, or a Fault in a block -/
def FT (A : Nat → Addr) (w : World) (e : Value) (c : Nat) (p : Nat × Nat) : Prop :=
  (c = 0 ∧ e = .nilIface) ∨ (c ≠ 0 ∧ ∃ f, e = .iface 59 (.pointer (some ⟨f, 0, none⟩)) ∧ w.heap[f]? = some (.cells #[.int .i64 (p.1 : Int), .int .i64 (p.2 : Int), erV A c] 64 (0, 0)))
/-- the blocks of rows, beside others -/
def Gs (G : Nat → Prop) (tv : Value) (V : List Value) : Nat → Prop := fun k => G k ∨ tv.ownBlock = some k ∨ ∃ v ∈ V, v.ownBlock = some k

/-- what is told lies outside of G, its rows apart -/
def NvD (G : Nat → Prop) (tv : Value) (V : List Value) : Prop := (∀ g, tv.ownBlock = some g → ¬ G g) ∧ (∀ v ∈ V, ∀ g, v.ownBlock = some g → ¬ G g) ∧ Dj V
theorem RM.told {A : Nat → Addr} {G : Nat → Prop} {w : World} {b : Nat} {s : Rs} {bp bv cv tv : Value} {V : List Value} (h : RM A G w b s bp bv cv tv V) :
    RM A (Gs G tv V) (w.setCell ⟨b, 13, none⟩ (.slice none 0 0)) b { s with td := [] } bp bv cv (.slice none 0 0) [] ∧ Kg G w (w.setCell ⟨b, 13, none⟩ (.slice none 0 0)) ∧ TR (w.setCell ⟨b, 13, none⟩ (.slice none 0 0)) tv V s.td := by
  have hk : Kg (But w b) w (w.setCell ⟨b, 13, none⟩ (.slice none 0 0)) := (Kg.refl _ w).set (But.not w b) _
  obtain ⟨r1, r2, r3, r4⟩ := h.rows hk
  have nV : ∀ v ∈ V, ∀ g, v.ownBlock = some g → ∃ j, ∃ (hj : j < s.td.length) (hv : j < V.length), V[j] = v := by
    intro v hv g hg
    obtain ⟨j, hj, rfl⟩ := List.mem_iff_getElem.1 hv
    exact ⟨j, by rw [← h.rws.len]; exact hj, hj, rfl⟩
  refine ⟨?_, h.kg hk, ⟨r3, r4⟩⟩
  have lt : ∀ k, Gs G tv V k → k < w.heap.size := by
    rintro k (hk | hk | ⟨v, hv, hg⟩)
    · exact h.gs k hk
    · exact (World.ownsRow.lt h.tol k hk).2
    · obtain ⟨j, hj, hv', rfl⟩ := nV v hv k hg
      exact (World.ownsRow.lt (h.rws.row j hj hv') k hg).2
  exact { gs := fun k hG => Nat.lt_of_lt_of_le (lt k hG) hk.size,
          nb := by
            rintro (hk | hk | ⟨v, hv, hg⟩)
            · exact h.nb hk
            · exact own_ne h.tol h.top (by decide) hk
            · obtain ⟨j, hj, hv', rfl⟩ := nV v hv b hg
              exact own_ne (h.rws.row j hj hv') h.top (by decide) hg,
          nbv := by
            rintro g hb (hk | hk | ⟨v, hv, hg⟩)
            · exact h.nbv g hb hk
            · exact own_two h.buf h.tol (by decide) g hb hk
            · obtain ⟨j, hj, hv', rfl⟩ := nV v hv g hg
              exact own_two h.buf (h.rws.row j hj hv') (by decide) g hb hg,
          ncv := by
            rintro g hb (hk | hk | ⟨v, hv, hg⟩)
            · exact h.ncv g hb hk
            · exact own_two h.cel h.tol (by decide) g hb hk
            · exact h.ap v hv g hg hb,
          ntv := by simp [Value.ownBlock], top := h.top.put13 _, bpo := h.bpo, bz := h.bz, buf := r1, cel := r2, tol := World.ownsRow_nil _ _ _ _, rws := RwS.nil _, ap := by simp, vlt := by simp, dis := Dj.nil }
theorem RX.of {A : Nat → Addr} {G : Nat → Prop} {w : World} {b : Nat} {s : Rs} {bp bv cv tv : Value} {V : List Value} (h : RM A G w b s bp bv cv tv V) : RX A G w b s := ⟨bp, bv, cv, tv, V, h⟩
theorem TR.alloc {w : World} {tv : Value} {V : List Value} {T : List (List (List UInt8))} (h : TR w tv V T) (o : Obj) : TR (w.alloc o) tv V T := ⟨h.own.alloc _, h.rws.len, fun j hj hv => (h.rws.row j hj hv).alloc _⟩
theorem TR.kept {w w' : World} {tv : Value} {V : List Value} {T : List (List (List UInt8))} (h : TR w tv V T) {G : Nat → Prop} (hk : Kg (Gs G tv V) w w') : TR w' tv V T :=
  ⟨own_of h.own fun g hg => hk.block g (.inr (.inl hg)), h.rws.kept fun k hv => hk.block k (.inr (.inr hv))⟩

set_option maxHeartbeats 2000000 in
theorem tell_any (A : Nat → Addr) (G : Nat → Prop) (b : Nat) (s : Rs) (w : World) (h : RX A G w b s) :
    Calls Tryz.prog 23 #[.pointer (some ⟨b, 0, none⟩)] w fun e w' => ∃ tv V ev, e = .returned (.tuple #[tv, ev]) ∧ TR w' tv V s.td ∧ FT A w' ev s.er s.fp ∧ RX A (Gs G tv V) w' b { s with td := [] } ∧ Kg G w w' ∧ NvD G tv V := by
  obtain ⟨bp, bv, cv, tv, V, h⟩ := h
  obtain ⟨hm, hk, ht⟩ := h.told
  obtain ⟨to, tp, rfl⟩ := own_slice h.tol
  have hlt := h.top.lt
  have hne : b ≠ w.heap.size := by omega
  have c13 := h.top.c13
  have c14 := h.top.c14
  have c15 := h.top.c15
  have c16 := h.top.c16
  have f13 := h.top.fr 13
  have HM := hid hm
  have HK := hid hk
  have HT := hid ht
  have HG := hid h.gs
  have HNv := hid (show NvD G _ V from ⟨h.ntv, h.vlt, h.dis⟩)
  clear h hm hk ht
  by_cases he : s.er = 0
  · rw [he, erV_zero] at c16
    go_enter Tryz.func23, Tryz.ntmps23
    go_wp2
    go_ret2
    exact ⟨_, V, _, rfl, HT.out, .inl ⟨he, rfl⟩, RX.of HM.out, HK.out, HNv.out⟩
  · have he' := erV_pos A he
    rw [he'] at c16
    have HE := hid he
    have HE' := hid he'
    clear he he'
    go_enter Tryz.func23, Tryz.ntmps23
    go_wp2
    go_ret2
    refine ⟨.slice to V.length tp, V, .iface 59 (.pointer (some ⟨w.heap.size, 0, none⟩)), rfl, HT.out.alloc _, .inr ⟨HE.out, _, rfl, ?_⟩, RX.alloc (RX.of HM.out) _, HK.out.alloc HG.out _, HNv.out⟩
    rw [HE'.out]
    have hz : (w.setCell ⟨b, 13, none⟩ (.slice none 0 0)).heap.size = w.heap.size := by simp [World.setCell]
    have := heap_alloc_new (w.setCell ⟨b, 13, none⟩ (.slice none 0 0)) (.cells #[.int .i64 (s.fp.1 : Int), .int .i64 (s.fp.2 : Int), .iface 208 (.pointer (some (A s.er)))] 64)
    rw [hz] at this
    exact this

theorem equalIn_func_nil {P : Program} (w : World) (n : Nat) {t : TypeId} {ps rs : Array TypeId} {vd : Bool} (h : P.underlying t = some (.func ps rs vd)) (fn : Fn) (fi ca : Array Value) :
    (Op.equalIn (n + 1) t (.func fn fi ca) .nilFunc).run P w = .ok false w := by
  simp [Op.equalIn, run_underlying h]
theorem equalIn_nil_nil {P : Program} (w : World) (n : Nat) {t : TypeId} {ps rs : Array TypeId} {vd : Bool} (h : P.underlying t = some (.func ps rs vd)) :
    (Op.equalIn (n + 1) t .nilFunc .nilFunc).run P w = .ok true w := by
  simp [Op.equalIn, run_underlying h]
theorem nx_nil (fn : Fn) (fi ca : Array Value) (w : World) : (binOp .eql 68 (.func fn fi ca) .nilFunc).run Tryz.prog w = .ok (.bool false) w := by
  simp only [binOp]
  simp [Op.equal, Op.maxDepth, equalIn_func_nil w 9999 Tryz.underlying68 fn fi ca]
theorem nil_nil (w : World) : (binOp .eql 68 .nilFunc .nilFunc).run Tryz.prog w = .ok (.bool true) w := by
  simp only [binOp]
  simp [Op.equal, Op.maxDepth, equalIn_nil_nil w 9999 Tryz.underlying68]
/-- a Reader to which nothing has come -/
abbrev RZ (w : World) (b : Nat) : Prop := RB w b .nilFunc 0 (0, 0) (0, 0) (0, 0) 0 0 (.pointer none) (.slice none 0 0) (.slice none 0 0) (.slice none 0 0) (0, 0) .nilIface false
set_option maxHeartbeats 1000000 in
theorem begin_new (A : Nat → Addr) (G : Nat → Prop) (b : Nat) (w : World) (h : RZ w b) (hG : ∀ k, G k → k < w.heap.size) (hb : ¬ G b) :
    Calls Tryz.prog 22 #[.pointer (some ⟨b, 0, none⟩)] w fun e w' => Stp A G w b s0 e w' := by
  have c0 := h.c0
  have c2 := h.c2
  have f0 := h.fr 0
  have f2 := h.fr 2
  have H := hid h
  have hnn := nil_nil
  clear h
  go_enter Tryz.func22, Tryz.ntmps22
  go_wp2
  go_end0
  refine ⟨rfl, ⟨.pointer none, .slice none 0 0, .slice none 0 0, .slice none 0 0, [], ?_⟩, ((Kg.refl G w).set hb _).set hb _⟩
  exact { gs := fun k hk => by simpa [World.setCell] using hG k hk, nb := hb, nbv := by simp [Value.ownBlock], ncv := by simp [Value.ownBlock], ntv := by simp [Value.ownBlock], top := (H.out.put0 _).put2 _, bpo := .inl rfl, bz := fun _ => rfl, buf := World.ownsRow_nil _ _ _ _, cel := World.ownsRow_nil _ _ _ _, tol := World.ownsRow_nil _ _ _ _, rws := RwS.nil _, ap := by simp, vlt := by simp, dis := Dj.nil }
set_option maxHeartbeats 1000000 in
theorem begin_old (A : Nat → Addr) (G : Nat → Prop) (b : Nat) (s : Rs) (w : World) (h : RX A G w b s) :
    Calls Tryz.prog 22 #[.pointer (some ⟨b, 0, none⟩)] w fun e w' => e = .returned (.tuple #[]) ∧ w' = w := by
  have c0 : w.cell? ⟨b, 0, none⟩ = some (.func (.func (fnO s.md)) #[.pointer (some ⟨b, 0, none⟩)] #[]) := h.parts.2.2.2.2.2.2.2.1
  have hnn := nx_nil
  clear h
  go_enter Tryz.func22, Tryz.ntmps22
  go_wp2
  go_end0
  exact ⟨rfl, rfl⟩
end Go.Proofs.YtpgpeafmlijfkaaGreatDoor
