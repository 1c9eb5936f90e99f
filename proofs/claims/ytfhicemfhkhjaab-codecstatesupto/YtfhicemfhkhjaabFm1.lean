/-
  codec: what is read may be written: a state's lists.
-/
import Derived.Test.YtfhicemfhkhjaabSt9
import Derived.Test.YtfhicemfhkhjaabLawCRp
namespace Go.Proofs.Ytfhicemfhkhjaab
open Go.RowKit
set_option maxRecDepth 100000

theorem rss_whole (l : List UInt8) : rss l = whole 84 (fSt 131072) sx0 131072 l := by
  unfold rss whole fKs
  cases l with
  | nil => rfl
  | cons c t =>
    by_cases h0 : 131072 < (c :: t).length
    · rw [if_pos h0, if_pos h0]
    rw [if_neg h0, if_neg h0, if_neg (show ¬ (c :: t).length = 0 by simp)]
    by_cases h : c = 84
    · subst h; rfl
    · have e : ((c :: t).getD 0 0 ≠ 84) := h
      rw [if_pos e]
      simp only [if_pos h]
      rfl
theorem hc_at (L : List Hl) (vs : List Value) (hv : vs.length = L.length) (i : Nat) (h : i < L.length) (h' : i < vs.length) : (hc L vs)[i * 3]? = some (.string L[i].id) ∧ (hc L vs)[i * 3 + 1]? = some vs[i] ∧ (hc L vs)[i * 3 + 2]? = some (.int .i64 L[i].dead) := by
  induction L generalizing i vs with
  | nil => simp at h
  | cons x t ih =>
    cases vs with
    | nil => simp at hv
    | cons v vs =>
      have e : hc (x :: t) (v :: vs) = .string x.id :: v :: .int .i64 x.dead :: hc t vs := rfl
      rw [e]
      cases i with
      | zero => exact ⟨rfl, rfl, rfl⟩
      | succ i =>
        have := ih vs (by simpa using hv) i (by simpa using h) (by simpa using h')
        rw [show (i + 1) * 3 = i * 3 + 1 + 1 + 1 by omega]
        simp only [List.getElem?_cons_succ, List.getElem_cons_succ]
        exact this
theorem lnok_of {L : List Ln} {most : Nat} (hm : most ≤ 1000000000000) (h : ∀ y ∈ L, y.1.size ≤ most ∧ I64 y.2) : LnOk L := fun i hi => by
  have := h _ (List.getElem_mem hi)
  exact ⟨by omega, this.2.1, this.2.2⟩
theorem OHl.hls {w : World} {base cap most : Nat} {ao : Option Addr} {L : List Hl} (h : OHl w base (.slice ao L.length cap) L) (hm : most ≤ 1000000000000) (hT : ∀ x ∈ L, HlT most x) : HLs w w.heap.size ao L := fun i hi => by
  obtain ⟨vs, h1, h2, h3⟩ := h
  have hc := fun g hg => World.ownsRow.cells h2 (g := g) hg
  have hlt := World.ownsRow.lt h2
  rcases h2.2 with ⟨_, h0⟩ | ⟨g, c, cur, e, _, _⟩
  · omega
  injection e with e1 e2 e3
  subst e1
  have hi' : i < vs.length := by omega
  obtain ⟨d0, d1, d2⟩ := hc_at L vs h1 i hi hi'
  have c0 := hc g rfl _ _ d0
  have c1 := hc g rfl _ _ d1
  have c2 := hc g rfl _ _ d2
  rw [Addr.add_lit, Nat.zero_add] at c0 c1 c2
  obtain ⟨n1, _⟩ := h3 i hi hi'
  have hx := hT _ (List.getElem_mem hi)
  obtain ⟨a, p, ev⟩ := n1.reads.form
  have hr := n1.reads
  rw [ev] at hr c1
  have hl := hx.lines.1
  have hid := hx.id
  refine ⟨g, 0, rfl, ⟨(hlt g rfl).2, ?_, ⟨a, p, ?_, hr.ll (lnok_of hm hx.lines.2)⟩, ?_, ⟨by omega, by omega⟩, hx.dead⟩⟩
  · rw [Nat.zero_add]; exact c0
  · rw [Nat.zero_add]; exact c1
  · rw [Nat.zero_add]; exact c2
theorem dc_at (L : List Dn) (vs : List Value) (hv : vs.length = L.length) (i : Nat) (h : i < L.length) (h' : i < vs.length) : (dc L vs)[i * 7]? = some (.string L[i].req.id) ∧ (dc L vs)[i * 7 + 1]? = some (.int .i64 L[i].req.kind) ∧ (dc L vs)[i * 7 + 2]? = some vs[i] ∧ (dc L vs)[i * 7 + 3]? = some (.string L[i].req.hold) ∧ (dc L vs)[i * 7 + 4]? = some (.int .i64 L[i].req.ttl) ∧ (dc L vs)[i * 7 + 5]? = some (.int .i64 L[i].req.now) ∧ (dc L vs)[i * 7 + 6]? = some (.int .i64 L[i].at') := by
  induction L generalizing i vs with
  | nil => simp at h
  | cons x t ih =>
    cases vs with
    | nil => simp at hv
    | cons v vs =>
      have e : dc (x :: t) (v :: vs) = .string x.req.id :: .int .i64 x.req.kind :: v :: .string x.req.hold :: .int .i64 x.req.ttl :: .int .i64 x.req.now :: .int .i64 x.at' :: dc t vs := rfl
      rw [e]
      cases i with
      | zero => exact ⟨rfl, rfl, rfl, rfl, rfl, rfl, rfl⟩
      | succ i =>
        have := ih vs (by simpa using hv) i (by simpa using h) (by simpa using h')
        rw [show (i + 1) * 7 = i * 7 + 1 + 1 + 1 + 1 + 1 + 1 + 1 by omega]
        simp only [List.getElem?_cons_succ, List.getElem_cons_succ]
        exact this
theorem ODn.dls {w : World} {base cap most : Nat} {ao : Option Addr} {L : List Dn} (h : ODn w base (.slice ao L.length cap) L) (hm : most ≤ 1000000000000) (hT : ∀ x ∈ L, DnT most x) : DLs w w.heap.size ao L := fun i hi => by
  obtain ⟨vs, h1, h2, h3⟩ := h
  have hc := fun g hg => World.ownsRow.cells h2 (g := g) hg
  have hlt := World.ownsRow.lt h2
  rcases h2.2 with ⟨_, h0⟩ | ⟨g, c, cur, e, _, _⟩
  · omega
  injection e with e1 e2 e3
  subst e1
  have hi' : i < vs.length := by omega
  obtain ⟨d0, d1, d2, d3, d4, d5, d6⟩ := dc_at L vs h1 i hi hi'
  have c0 := hc g rfl _ _ d0
  have c1 := hc g rfl _ _ d1
  have c2 := hc g rfl _ _ d2
  have c3 := hc g rfl _ _ d3
  have c4 := hc g rfl _ _ d4
  have c5 := hc g rfl _ _ d5
  have c6 := hc g rfl _ _ d6
  rw [Addr.add_lit, Nat.zero_add] at c0 c1 c2 c3 c4 c5 c6
  obtain ⟨n1, _⟩ := h3 i hi hi'
  have hx := hT _ (List.getElem_mem hi)
  obtain ⟨a, p, ev⟩ := n1.reads.form
  have hr := n1.reads
  rw [ev] at hr c2
  have hl := hx.req.lines.1
  have hid := hx.req.id
  have hho := hx.req.hold
  refine ⟨g, 0, rfl, ⟨⟨(hlt g rfl).2, ?_, ?_, ⟨a, p, ?_, hr.ll (lnok_of hm hx.req.lines.2)⟩, ?_, ?_, ?_, ⟨by omega, by omega, by omega⟩, hx.req.kind, hx.req.ttl, hx.req.now⟩, ?_, hx.at'⟩⟩
  · rw [Nat.zero_add]; exact c0
  · rw [Nat.zero_add]; exact c1
  · rw [Nat.zero_add]; exact c2
  · rw [Nat.zero_add]; exact c3
  · rw [Nat.zero_add]; exact c4
  · rw [Nat.zero_add]; exact c5
  · rw [Nat.zero_add]; exact c6
end Go.Proofs.Ytfhicemfhkhjaab
