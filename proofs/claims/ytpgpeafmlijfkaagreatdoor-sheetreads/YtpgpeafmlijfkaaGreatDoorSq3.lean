/-
  Sheets: the Reader's states in memory. Laid by v18.py.
-/
import Derived.Test.YtpgpeafmlijfkaaGreatDoorSq2
namespace Go.Proofs.YtpgpeafmlijfkaaGreatDoor
open Go.RowKit
set_option maxRecDepth 100000
set_option linter.unusedVariables false
set_option linter.unusedSimpArgs false

/-- texts as cells -/
def tl (L : List (List UInt8)) : List Value := L.map fun l => .string ⟨l.toArray⟩
theorem tl_len (L : List (List UInt8)) : (tl L).length = L.length * 1 := by simp [tl]
theorem tl_snoc (L : List (List UInt8)) (l : List UInt8) : tl (L ++ [l]) = tl L ++ [.string ⟨l.toArray⟩] := by simp [tl]
theorem tl_one (L : List (List UInt8)) : ∀ u ∈ tl L, u.oneCell' = true := by
  intro u hu
  obtain ⟨x, _, rfl⟩ := List.mem_map.1 hu
  rfl
/-- the errors: nil, or one of errors.New's make in block A c -/
def erV (A : Nat → Addr) (c : Nat) : Value := if c = 0 then .nilIface else .iface 208 (.pointer (some (A c)))
theorem erV_zero (A : Nat → Addr) : erV A 0 = .nilIface := rfl
theorem erV_pos (A : Nat → Addr) {c : Nat} (h : c ≠ 0) : erV A c = .iface 208 (.pointer (some (A c))) := if_neg h
/-- the rows of V read as the lists of T -/
structure RwS (w : World) (V : List Value) (T : List (List (List UInt8))) : Prop where
  len : V.length = T.length
  row : ∀ j (hj : j < T.length) (hv : j < V.length), w.ownsRow 0 9 1 V[j] T[j].length (tl T[j])
theorem RwS.nil (w : World) : RwS w [] [] := ⟨rfl, fun j hj => absurd hj (Nat.not_lt_zero _)⟩
theorem RwS.snoc {w : World} {V : List Value} {T : List (List (List UInt8))} (h : RwS w V T) {v : Value} {t : List (List UInt8)} (hv : w.ownsRow 0 9 1 v t.length (tl t)) : RwS w (V ++ [v]) (T ++ [t]) := by
  refine ⟨by simp [h.len], fun j hj hj2 => ?_⟩
  have hl := h.len
  by_cases hlt : j < T.length
  · have e1 : (T ++ [t])[j] = T[j] := List.getElem_append_left hlt
    have e2 : (V ++ [v])[j] = V[j]'(by omega) := List.getElem_append_left (by omega)
    rw [e1, e2]
    exact h.row j hlt (by omega)
  · have he : j = T.length := by simp at hj; omega
    subst he
    have e1 : (T ++ [t])[T.length] = t := by simp
    have e2 : (V ++ [v])[T.length] = v := by simp [← hl]
    rw [e1, e2]
    exact hv
theorem RwS.kept {w w' : World} {V : List Value} {T : List (List (List UInt8))} (h : RwS w V T) (hk : ∀ k, (∃ v ∈ V, v.ownBlock = some k) → w'.heap[k]? = w.heap[k]?) : RwS w' V T := by
  refine ⟨h.len, fun j hj hv => ?_⟩
  have hr := h.row j hj hv
  refine ⟨hr.1, ?_⟩
  rcases hr.2 with hn | ⟨g, cap, cur, e, h0, hg, h1⟩
  · exact .inl hn
  · refine .inr ⟨g, cap, cur, e, h0, ?_, h1⟩
    rw [hk g ⟨_, List.getElem_mem hv, by rw [e]; rfl⟩]
    exact hg

/-- no two of these slices share a block -/
def Dj (V : List Value) : Prop := V.Pairwise fun a b => ∀ g, a.ownBlock = some g → b.ownBlock ≠ some g
theorem Dj.nil : Dj [] := List.Pairwise.nil
theorem Dj.snoc {V : List Value} {v : Value} (h : Dj V) (hv : ∀ u ∈ V, ∀ g, u.ownBlock = some g → v.ownBlock ≠ some g) : Dj (V ++ [v]) := by
  unfold Dj
  rw [List.pairwise_append]
  refine ⟨h, List.pairwise_singleton _ _, fun a ha b hb => ?_⟩
  rw [List.mem_singleton.1 hb]
  exact hv a ha
/-- the Reader in block b is in state s; the blocks of G are not its own -/
structure RM (A : Nat → Addr) (G : Nat → Prop) (w : World) (b : Nat) (s : Rs) (bp bv cv tv : Value) (V : List Value) : Prop where
  gs : ∀ k, G k → k < w.heap.size
  nb : ¬ G b
  nbv : ∀ g, bv.ownBlock = some g → ¬ G g
  ncv : ∀ g, cv.ownBlock = some g → ¬ G g
  ntv : ∀ g, tv.ownBlock = some g → ¬ G g
  top : RB w b (nxV b s.md) s.sz s.hp s.op s.ep s.rw s.wd bp bv cv tv s.fp (erV A s.er) false
  bpo : bp = .pointer none ∨ bp = .pointer (some ⟨b, 10, none⟩)
  bz : s.cur = [] → bv = .slice none 0 0
  buf : w.ownsRow 0 5 1 bv s.cur.length (Lib.byteCells s.cur)
  cel : w.ownsRow 0 9 1 cv s.cs.length (tl s.cs)
  tol : w.ownsRow 0 28 1 tv V.length V
  rws : RwS w V s.td
  ap : ∀ v ∈ V, ∀ g, v.ownBlock = some g → cv.ownBlock ≠ some g
  vlt : ∀ v ∈ V, ∀ g, v.ownBlock = some g → ¬ G g
  dis : Dj V
def RX (A : Nat → Addr) (G : Nat → Prop) (w : World) (b : Nat) (s : Rs) : Prop := ∃ bp bv cv tv V, RM A G w b s bp bv cv tv V

/-- another owned row's block is another block -/
theorem own_two {w : World} {b1 e1 s1 n1 b2 e2 s2 n2 : Nat} {v1 v2 : Value} {x1 x2 : List Value} (h1 : w.ownsRow b1 e1 s1 v1 n1 x1) (h2 : w.ownsRow b2 e2 s2 v2 n2 x2) (hne : e1 ≠ e2) : ∀ g, v1.ownBlock = some g → v2.ownBlock ≠ some g := by
  intro g hg
  rcases h1.2 with ⟨rfl, _⟩ | ⟨g1, cap, cur, rfl, _, hb, _⟩
  · simp [Value.ownBlock] at hg
  · have : g1 = g := by simpa [Value.ownBlock] using hg
    subst this
    exact own_ne h2 hb hne
theorem own_of {w w' : World} {base e size n : Nat} {v : Value} {xs : List Value} (h : w.ownsRow base e size v n xs) (hk : ∀ g, v.ownBlock = some g → w'.heap[g]? = w.heap[g]?) : w'.ownsRow base e size v n xs := by
  refine ⟨h.1, ?_⟩
  rcases h.2 with hn | ⟨g, cap, cur, rfl, h0, hg, h1⟩
  · exact .inl hn
  · refine .inr ⟨g, cap, cur, rfl, h0, ?_, h1⟩
    rw [hk g rfl]
    exact hg

/-- only the Reader's block has turned: its rows lie as they lay -/
theorem RM.rows {A : Nat → Addr} {G : Nat → Prop} {w w' : World} {b : Nat} {s : Rs} {bp bv cv tv : Value} {V : List Value} (h : RM A G w b s bp bv cv tv V) (hk : Kg (But w b) w w') :
    w'.ownsRow 0 5 1 bv s.cur.length (Lib.byteCells s.cur) ∧ w'.ownsRow 0 9 1 cv s.cs.length (tl s.cs) ∧ w'.ownsRow 0 28 1 tv V.length V ∧ RwS w' V s.td := by
  have ne : ∀ {e n : Nat} {v : Value} {xs : List Value}, w.ownsRow 0 e 1 v n xs → 77 ≠ e → w'.ownsRow 0 e 1 v n xs := fun {e n v xs} ho hne => own_of ho fun g hg => hk.block g ⟨(World.ownsRow.lt ho g hg).2, fun e => own_ne ho h.top hne (e ▸ hg)⟩
  refine ⟨ne h.buf (by decide), ne h.cel (by decide), ne h.tol (by decide), h.rws.len, fun j hj hv => ne (h.rws.row j hj hv) (by decide)⟩
theorem RM.kg {A : Nat → Addr} {G : Nat → Prop} {w w' : World} {b : Nat} {s : Rs} {bp bv cv tv : Value} {V : List Value} (h : RM A G w b s bp bv cv tv V) (hk : Kg (But w b) w w') : Kg G w w' := hk.mono fun k hG => ⟨h.gs k hG, fun e => h.nb (e ▸ hG)⟩

theorem fail_any (A : Nat → Addr) (G : Nat → Prop) (b : Nat) (s : Rs) (c : Nat) (hc : c ≠ 0) (p : Nat × Nat) (w : World) (h : RX A G w b s) :
    Calls Tryz.prog 59 #[.pointer (some ⟨b, 0, none⟩), .iface 208 (.pointer (some (A c))), plV p] w fun e w' => e = .returned (.tuple #[]) ∧ RX A G w' b (s.fail c p) ∧ Kg G w w' := by
  obtain ⟨bp, bv, cv, tv, V, h⟩ := h
  refine (fail_raw b _ _ _ _ _ _ _ _ _ _ _ _ _ _ _ _ p w h.top).mono ?_
  rintro e w' ⟨rfl, ht, hk⟩
  obtain ⟨r1, r2, r3, r4⟩ := h.rows hk
  refine ⟨rfl, ⟨.pointer none, .slice none 0 0, .slice none 0 0, tv, V, ?_⟩, h.kg hk⟩
  exact { gs := fun k hG => Nat.lt_of_lt_of_le (h.gs k hG) hk.size, nb := h.nb, nbv := by simp [Value.ownBlock], ncv := by simp [Value.ownBlock], ntv := h.ntv, top := by rw [← erV_pos A hc] at ht; exact ht, bpo := .inl rfl, bz := fun _ => rfl, buf := World.ownsRow_nil _ _ _ _, cel := World.ownsRow_nil _ _ _ _, tol := r3, rws := r4, ap := by simp [Value.ownBlock], vlt := h.vlt, dis := h.dis }
end Go.Proofs.YtpgpeafmlijfkaaGreatDoor
