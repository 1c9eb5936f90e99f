/-
  Append of holds and of what is done, in rows of the call's own. Laid by mksd2.py.
-/
import Derived.Test.YtfhicemfhkhjaabSb1
import Derived.Deep.AppendLies
namespace Go.Proofs.Ytfhicemfhkhjaab
open Go.RowKit
set_option maxRecDepth 100000

theorem OHl.app {w w' : World} {base g cap : Nat} {v u : Value} {L : List Hl} {y : Hl} {vs : List Value} (hvl : vs.length = L.length) (hN : ∀ m (h : m < L.length) (h' : m < vs.length), OLn w base vs[m] L[m].lines ∧ ∀ k, vs[m].ownBlock = some k → v.ownBlock ≠ some k) (hu : OLn w base u y.lines) (hne : ∀ k, u.ownBlock = some k → v.ownBlock ≠ some k)
    (h1 : w'.ownsRow base 79 3 (.slice (some ⟨g, 0, none⟩) (L.length + 1) cap) (L.length + 1) (hc L vs ++ [.string y.id, u, .int .i64 y.dead])) (hg : w.grownBy w' v.ownBlock) (hl : v.ownBlock = some g ∨ g = w.heap.size) : OHl w' base (.slice (some ⟨g, 0, none⟩) (L.length + 1) cap) (L ++ [y]) := by
  have keep : ∀ (x : Value) (J : List Ln), OLn w base x J → (∀ k, x.ownBlock = some k → v.ownBlock ≠ some k) → OLn w' base x J ∧ ∀ k, x.ownBlock = some k → (Value.slice (some ⟨g, 0, none⟩) (L.length + 1) cap).ownBlock ≠ some k := fun x J hx hn => by
    refine ⟨hx.own (fun kk hk => hg.block kk (World.ownsRow.lt hx kk hk).2 (fun e => hn kk hk e.symm)), fun kk hk e => ?_⟩
    have e : some g = some kk := e
    injection e with e
    rcases hl with h | h
    · exact hn kk hk (by rw [h, e])
    · have := (World.ownsRow.lt hx kk hk).2
      omega
  refine ⟨vs ++ [u], by simp [hvl], ?_, fun m hm hm' => ?_⟩
  · rw [hc_app _ _ _ _ hvl, List.length_append]
    exact h1
  · by_cases hmj : m < L.length
    · have e1 : (L ++ [y])[m] = L[m]'hmj := List.getElem_append_left hmj
      have e2 : (vs ++ [u])[m] = vs[m]'(by omega) := List.getElem_append_left (by omega)
      rw [e1, e2]
      obtain ⟨n1, n2⟩ := hN m hmj (by omega)
      exact keep _ _ n1 n2
    · have hm2 : m < (L ++ [y]).length := hm
      rw [List.length_append] at hm2
      simp only [List.length_cons, List.length_nil] at hm2
      obtain rfl : m = L.length := by omega
      have e1 : (L ++ [y])[L.length] = y := by rw [List.getElem_append_right (by omega)]; simp
      have e2 : (vs ++ [u])[L.length] = u := by rw [List.getElem_append_right (by omega)]; simp [hvl]
      rw [e1, e2]
      exact keep _ _ hu hne
theorem wpList_appHl {w : World} {ops : Array Oper} {rest : List Oper} {o : Oper} {a : Act} {Q : Exit → Act → World → Prop} (hgd : o.guard = none) (s x : Operand)
    (ho : o.op = .call { callee := .builtin .append, args := #[s, x], argTypes := #[29, 29] })
    (base : Nat) (v : Value) (L : List Hl) (hs : a.eval s = v) (hown : OHl w base v L) (g : Nat) (y : Hl) (u : Value) (hx : a.eval x = .slice (some ⟨g, 0, none⟩) 1 1) (hg : w.heap[g]? = some (.cells #[.string y.id, u, .int .i64 y.dead] 79 (0, 0))) (hu : OLn w base u y.lines) (hne : ∀ k, u.ownBlock = some k → v.ownBlock ≠ some k)
    (hlen : L.length ≤ 1000000000000) (hbase : base ≤ w.heap.size)
    (h : ∀ v' w', OHl w' base v' (L ++ [y]) → w.grownBy w' v.ownBlock → (∀ k, v'.ownBlock = some k → v.ownBlock = some k ∨ k = w.heap.size) → wpList Try.prog ops Q rest (a.put o.dst v') w') : wpList Try.prog ops Q (o :: rest) a w := by
  obtain ⟨vs, hvl, hrow, hN⟩ := hown
  obtain ⟨i, hi, hz, hsz, hby⟩ := info_parts hlinfo
  obtain ⟨ao, n9, c9, hu9⟩ := hu.form
  refine wpList_append_lies w hgd s x 29 ho base 79 i (.agg #[.string ⟨#[]⟩, .slice none 0 0, .int .i64 0]) 3 48 Try.underlying29 hi hz hsz hby rfl (by decide) v L.length (hc L vs) hs hrow ⟨g, 0, none⟩ 1 1 [.string y.id, u, .int .i64 y.dead] hx rfl (World.news_of_block (cs := #[.string y.id, u, .int .i64 y.dead]) (t := 79) (fr := (0, 0)) hg) (by intro z hz9; rw [hu9] at hz9; simp at hz9; rcases hz9 with rfl | rfl | rfl <;> rfl) (by omega) (by unfold maxLen; omega) (by omega) hbase w.heap.size rfl ?_
  intro g' cap' w' ho' hgr hl _
  exact h _ w' (OHl.app hvl hN hu hne ho' hgr hl) hgr (fun k hk => by
    have e : some g' = some k := hk
    injection e with e
    subst e
    exact hl)
theorem ODn.app {w w' : World} {base g cap : Nat} {v u : Value} {L : List Dn} {y : Dn} {vs : List Value} (hvl : vs.length = L.length) (hN : ∀ m (h : m < L.length) (h' : m < vs.length), OLn w base vs[m] L[m].req.lines ∧ ∀ k, vs[m].ownBlock = some k → v.ownBlock ≠ some k) (hu : OLn w base u y.req.lines) (hne : ∀ k, u.ownBlock = some k → v.ownBlock ≠ some k)
    (h1 : w'.ownsRow base 81 7 (.slice (some ⟨g, 0, none⟩) (L.length + 1) cap) (L.length + 1) (dc L vs ++ [.string y.req.id, .int .i64 y.req.kind, u, .string y.req.hold, .int .i64 y.req.ttl, .int .i64 y.req.now, .int .i64 y.at'])) (hg : w.grownBy w' v.ownBlock) (hl : v.ownBlock = some g ∨ g = w.heap.size) : ODn w' base (.slice (some ⟨g, 0, none⟩) (L.length + 1) cap) (L ++ [y]) := by
  have keep : ∀ (x : Value) (J : List Ln), OLn w base x J → (∀ k, x.ownBlock = some k → v.ownBlock ≠ some k) → OLn w' base x J ∧ ∀ k, x.ownBlock = some k → (Value.slice (some ⟨g, 0, none⟩) (L.length + 1) cap).ownBlock ≠ some k := fun x J hx hn => by
    refine ⟨hx.own (fun kk hk => hg.block kk (World.ownsRow.lt hx kk hk).2 (fun e => hn kk hk e.symm)), fun kk hk e => ?_⟩
    have e : some g = some kk := e
    injection e with e
    rcases hl with h | h
    · exact hn kk hk (by rw [h, e])
    · have := (World.ownsRow.lt hx kk hk).2
      omega
  refine ⟨vs ++ [u], by simp [hvl], ?_, fun m hm hm' => ?_⟩
  · rw [dc_app _ _ _ _ hvl, List.length_append]
    exact h1
  · by_cases hmj : m < L.length
    · have e1 : (L ++ [y])[m] = L[m]'hmj := List.getElem_append_left hmj
      have e2 : (vs ++ [u])[m] = vs[m]'(by omega) := List.getElem_append_left (by omega)
      rw [e1, e2]
      obtain ⟨n1, n2⟩ := hN m hmj (by omega)
      exact keep _ _ n1 n2
    · have hm2 : m < (L ++ [y]).length := hm
      rw [List.length_append] at hm2
      simp only [List.length_cons, List.length_nil] at hm2
      obtain rfl : m = L.length := by omega
      have e1 : (L ++ [y])[L.length] = y := by rw [List.getElem_append_right (by omega)]; simp
      have e2 : (vs ++ [u])[L.length] = u := by rw [List.getElem_append_right (by omega)]; simp [hvl]
      rw [e1, e2]
      exact keep _ _ hu hne
theorem wpList_appDn {w : World} {ops : Array Oper} {rest : List Oper} {o : Oper} {a : Act} {Q : Exit → Act → World → Prop} (hgd : o.guard = none) (s x : Operand)
    (ho : o.op = .call { callee := .builtin .append, args := #[s, x], argTypes := #[30, 30] })
    (base : Nat) (v : Value) (L : List Dn) (hs : a.eval s = v) (hown : ODn w base v L) (g : Nat) (y : Dn) (u : Value) (hx : a.eval x = .slice (some ⟨g, 0, none⟩) 1 1) (hg : w.heap[g]? = some (.cells #[.string y.req.id, .int .i64 y.req.kind, u, .string y.req.hold, .int .i64 y.req.ttl, .int .i64 y.req.now, .int .i64 y.at'] 81 (0, 0))) (hu : OLn w base u y.req.lines) (hne : ∀ k, u.ownBlock = some k → v.ownBlock ≠ some k)
    (hlen : L.length ≤ 1000000000000) (hbase : base ≤ w.heap.size)
    (h : ∀ v' w', ODn w' base v' (L ++ [y]) → w.grownBy w' v.ownBlock → (∀ k, v'.ownBlock = some k → v.ownBlock = some k ∨ k = w.heap.size) → wpList Try.prog ops Q rest (a.put o.dst v') w') : wpList Try.prog ops Q (o :: rest) a w := by
  obtain ⟨vs, hvl, hrow, hN⟩ := hown
  obtain ⟨i, hi, hz, hsz, hby⟩ := info_parts dninfo
  obtain ⟨ao, n9, c9, hu9⟩ := hu.form
  refine wpList_append_lies w hgd s x 30 ho base 81 i (.agg #[.string ⟨#[]⟩, .int .i64 0, .slice none 0 0, .string ⟨#[]⟩, .int .i64 0, .int .i64 0, .int .i64 0]) 7 88 Try.underlying30 hi hz hsz hby rfl (by decide) v L.length (dc L vs) hs hrow ⟨g, 0, none⟩ 1 1 [.string y.req.id, .int .i64 y.req.kind, u, .string y.req.hold, .int .i64 y.req.ttl, .int .i64 y.req.now, .int .i64 y.at'] hx rfl (World.news_of_block (cs := #[.string y.req.id, .int .i64 y.req.kind, u, .string y.req.hold, .int .i64 y.req.ttl, .int .i64 y.req.now, .int .i64 y.at']) (t := 81) (fr := (0, 0)) hg) (by intro z hz9; rw [hu9] at hz9; simp at hz9; rcases hz9 with rfl | rfl | rfl | rfl | rfl | rfl | rfl <;> rfl) (by omega) (by unfold maxLen; omega) (by omega) hbase w.heap.size rfl ?_
  intro g' cap' w' ho' hgr hl _
  exact h _ w' (ODn.app hvl hN hu hne ho' hgr hl) hgr (fun k hk => by
    have e : some g' = some k := hk
    injection e with e
    subst e
    exact hl)
theorem OHl.tbb {w w' : World} {base rb : Nat} {v : Value} {L : List Hl} (h : OHl w base v L) (hk : Tb rb rb w w') (hb : rb < base) : OHl w' base v L := h.old (fun k h1 h2 => hk.block k h2 (by omega) (by omega))
theorem ODn.tbb {w w' : World} {base rb : Nat} {v : Value} {L : List Dn} (h : ODn w base v L) (hk : Tb rb rb w w') (hb : rb < base) : ODn w' base v L := h.old (fun k h1 h2 => hk.block k h2 (by omega) (by omega))
theorem OHl.block_ge {w : World} {base : Nat} {v : Value} {L : List Hl} (h : OHl w base v L) : ∀ k, v.ownBlock = some k → base ≤ k ∧ k < w.heap.size := fun k hk => by
  obtain ⟨_, _, h2, _⟩ := h
  exact World.ownsRow.lt h2 k hk
theorem ODn.block_ge {w : World} {base : Nat} {v : Value} {L : List Dn} (h : ODn w base v L) : ∀ k, v.ownBlock = some k → base ≤ k ∧ k < w.heap.size := fun k hk => by
  obtain ⟨_, _, h2, _⟩ := h
  exact World.ownsRow.lt h2 k hk
theorem OHl.nil (w : World) (base : Nat) : OHl w base (.slice none 0 0) [] := ⟨[], rfl, World.ownsRow_nil _ _ _ _, fun m hm => absurd hm (Nat.not_lt_zero m)⟩
theorem ODn.nil (w : World) (base : Nat) : ODn w base (.slice none 0 0) [] := ⟨[], rfl, World.ownsRow_nil _ _ _ _, fun m hm => absurd hm (Nat.not_lt_zero m)⟩
end Go.Proofs.Ytfhicemfhkhjaab
