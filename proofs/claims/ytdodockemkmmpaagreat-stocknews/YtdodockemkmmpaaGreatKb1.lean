/-
  Requests, levels, holds, what is done, states as they are read, and lists of them. Laid by mkkb1.py.
-/
import Derived.Test.YtdodockemkmmpaaGreatKb0
namespace Go.Proofs.YtdodockemkmmpaaGreat
open Go.RowKit
set_option maxRecDepth 100000

/-- a line: its code, its number -/
abbrev Ln := ByteArray × Int
/-- a level: its code, on hand, held -/
abbrev Lv := ByteArray × Int × Int
/-- a request -/
structure Rq where
  id : ByteArray
  kind : Int
  lines : List Ln
  hold : ByteArray
  ttl : Int
  now : Int
/-- a hold -/
structure Hl where
  id : ByteArray
  lines : List Ln
  dead : Int
/-- something done -/
structure Dn where
  req : Rq
  at' : Int
/-- a state -/
structure Sx where
  room : Int
  lsn : Int
  now : Int
  levels : List Lv
  holds : List Hl
  done : List Dn
/-- a state as a value -/
def sxV (s : Sx) (a1 : Option Addr) (p1 : Nat) (a2 : Option Addr) (p2 : Nat) (a3 : Option Addr) (p3 : Nat) : Value := .agg #[.int .i64 s.room, .int .i64 s.lsn, .int .i64 s.now, .slice a1 s.levels.length p1, .slice a2 s.holds.length p2, .slice a3 s.done.length p3]
/-- a request as a value; its lines lie at ao -/
def rqV (r : Rq) (ao : Option Addr) (cap : Nat) : Value := .agg #[.string r.id, .int .i64 r.kind, .slice ao r.lines.length cap, .string r.hold, .int .i64 r.ttl, .int .i64 r.now]
/-- something done as a value -/
def dnV (d : Dn) (ao : Option Addr) (cap : Nat) : Value := .agg #[.string d.req.id, .int .i64 d.req.kind, .slice ao d.req.lines.length cap, .string d.req.hold, .int .i64 d.req.ttl, .int .i64 d.req.now, .int .i64 d.at']
/-- lines as cells -/
def lc (L : List Ln) : List Value := L.flatMap fun x => [.string x.1, .int .i64 x.2]
theorem lc_len (L : List Ln) : (lc L).length = L.length * 2 := by
  induction L with
  | nil => rfl
  | cons x t ih =>
    have e : lc (x :: t) = [.string x.1, .int .i64 x.2] ++ lc t := rfl
    rw [e, List.length_append, ih, List.length_cons]
    show 2 + t.length * 2 = (t.length + 1) * 2
    omega
theorem lc_app (L M : List Ln) : lc (L ++ M) = lc L ++ lc M := by simp [lc]
theorem lc_one (L : List Ln) : ∀ u ∈ lc L, u.oneCell' = true := by
  intro u hu
  obtain ⟨x, _, hx⟩ := List.mem_flatMap.1 hu
  simp at hx
  rcases hx with rfl | rfl <;> rfl
theorem lninfo : (Tryz.prog.info? 53).map (fun i => (i.zero, i.size, i.bytes)) = some (some (.agg #[.string ⟨#[]⟩, .int .i64 0]), 2, 24) := by kernel_rfl
/-- lines in a row of the call's own -/
def OLn (w : World) (base : Nat) (v : Value) (L : List Ln) : Prop := w.ownsRow base 53 2 v L.length (lc L)
/-- levels as cells -/
def vc (L : List Lv) : List Value := L.flatMap fun x => [.string x.1, .int .i64 x.2.1, .int .i64 x.2.2]
theorem vc_len (L : List Lv) : (vc L).length = L.length * 3 := by
  induction L with
  | nil => rfl
  | cons x t ih =>
    have e : vc (x :: t) = [.string x.1, .int .i64 x.2.1, .int .i64 x.2.2] ++ vc t := rfl
    rw [e, List.length_append, ih, List.length_cons]
    show 3 + t.length * 3 = (t.length + 1) * 3
    omega
theorem vc_app (L M : List Lv) : vc (L ++ M) = vc L ++ vc M := by simp [vc]
theorem vc_one (L : List Lv) : ∀ u ∈ vc L, u.oneCell' = true := by
  intro u hu
  obtain ⟨x, _, hx⟩ := List.mem_flatMap.1 hu
  simp at hx
  rcases hx with rfl | rfl | rfl <;> rfl
theorem lvinfo : (Tryz.prog.info? 46).map (fun i => (i.zero, i.size, i.bytes)) = some (some (.agg #[.string ⟨#[]⟩, .int .i64 0, .int .i64 0]), 3, 32) := by kernel_rfl
/-- levels in a row of the call's own -/
def OLv (w : World) (base : Nat) (v : Value) (L : List Lv) : Prop := w.ownsRow base 46 3 v L.length (vc L)
/-- the slice v reads as the lines L -/
def RLn (w : World) (v : Value) (L : List Ln) : Prop :=
  (L = [] ∧ ∃ ao cap, v = .slice ao 0 cap ∧ (ao = none → cap = 0)) ∨
  ∃ b off cap, v = .slice (some ⟨b, off, none⟩) L.length cap ∧ (L.length ≤ cap ∧ cap ≤ 9223372036854775807) ∧ ∀ j (hj : j < L.length), w.cell? ⟨b, off + j * 2, none⟩ = some (.string L[j].1) ∧ w.cell? ⟨b, off + j * 2 + 1, none⟩ = some (.int .i64 L[j].2)
theorem RLn.below {w w' : World} {v : Value} {L : List Ln} (h : RLn w v L) (hb : Below w.heap.size w w') : RLn w' v L := by
  rcases h with h | ⟨b, off, cap, hv, hl, hc⟩
  · exact .inl h
  · exact .inr ⟨b, off, cap, hv, hl, fun j hj => ⟨below_cells hb _ _ (hc j hj).1, below_cells hb _ _ (hc j hj).2⟩⟩
theorem RLn.form {w : World} {v : Value} {L : List Ln} (h : RLn w v L) : ∃ ao cap, v = .slice ao L.length cap := by
  rcases h with ⟨rfl, ao, cap, rfl, _⟩ | ⟨b, off, cap, rfl, _⟩
  · exact ⟨_, _, rfl⟩
  · exact ⟨_, _, rfl⟩
theorem lc_at (L : List Ln) (i : Nat) (h : i < L.length) : (lc L)[i * 2]? = some (.string L[i].1) ∧ (lc L)[i * 2 + 1]? = some (.int .i64 L[i].2) := by
  induction L generalizing i with
  | nil => simp at h
  | cons x t ih =>
    have e : lc (x :: t) = .string x.1 :: .int .i64 x.2 :: lc t := rfl
    rw [e]
    cases i with
    | zero => exact ⟨rfl, rfl⟩
    | succ i =>
      have := ih i (by simpa using h)
      rw [show (i + 1) * 2 = i * 2 + 1 + 1 by omega, List.getElem?_cons_succ, List.getElem?_cons_succ, List.getElem?_cons_succ, List.getElem?_cons_succ, List.getElem_cons_succ]
      exact this
theorem OLn.cells {w : World} {base : Nat} {v : Value} {L : List Ln} (h : OLn w base v L) (hl : 0 < L.length) : ∃ g cap, v = .slice (some ⟨g, 0, none⟩) L.length cap ∧ L.length ≤ cap ∧ cap ≤ maxLen ∧ ∀ j (hj : j < L.length), w.cell? ⟨g, j * 2, none⟩ = some (.string L[j].1) ∧ w.cell? ⟨g, j * 2 + 1, none⟩ = some (.int .i64 L[j].2) := by
  have hc := fun g hg => World.ownsRow.cells h (g := g) hg
  rcases h.2 with ⟨_, h0⟩ | ⟨g, cap, cur, rfl, _, hgg, hn, hm, _⟩
  · omega
  · refine ⟨g, cap, rfl, hn, hm, fun j hj => ?_⟩
    have e := lc_at L j hj
    have c0 := hc g rfl _ _ e.1
    have c1 := hc g rfl _ _ e.2
    rw [Addr.add_lit, Nat.zero_add] at c0 c1
    exact ⟨c0, c1⟩
theorem OLn.reads {w : World} {base : Nat} {v : Value} {L : List Ln} (h : OLn w base v L) : RLn w v L := by
  by_cases hl : 0 < L.length
  · obtain ⟨g, cap, hv, h1, hm9, hc⟩ := h.cells hl
    exact .inr ⟨g, 0, cap, hv, ⟨h1, hm9⟩, fun j hj => by rw [Nat.zero_add]; exact hc j hj⟩
  · obtain rfl : L = [] := List.eq_nil_of_length_eq_zero (by omega)
    rcases h.2 with ⟨rfl, _⟩ | ⟨g, cap, cur, rfl, _⟩
    · exact .inl ⟨rfl, none, 0, rfl, fun _ => rfl⟩
    · exact .inl ⟨rfl, _, cap, rfl, fun e => by cases e⟩
theorem cells_of_lc {w : World} {b off : Nat} {M : List Ln} (h : ∀ j (hj : j < M.length), w.cell? ⟨b, off + j * 2, none⟩ = some (.string M[j].1) ∧ w.cell? ⟨b, off + j * 2 + 1, none⟩ = some (.int .i64 M[j].2)) :
    ∀ j u, (lc M)[j]? = some u → w.cell? ((⟨b, off, none⟩ : Addr).add j) = some u := by
  intro j u hu
  have hj : j < M.length * 2 := by
    have := (List.getElem?_eq_some_iff.1 hu).1
    rwa [lc_len] at this
  rw [Addr.add_lit]
  obtain ⟨i, hi⟩ : ∃ i, j = i * 2 ∨ j = i * 2 + 1 := ⟨j / 2, by omega⟩
  have hin : i < M.length := by omega
  have e := lc_at M i hin
  rcases hi with rfl | rfl
  · rw [e.1] at hu
    cases hu
    exact (h i hin).1
  · rw [e.2] at hu
    cases hu
    exact (h i hin).2
/-- the slice v reads as the levels L -/
def RLv (w : World) (v : Value) (L : List Lv) : Prop :=
  (L = [] ∧ ∃ ao cap, v = .slice ao 0 cap ∧ (ao = none → cap = 0)) ∨
  ∃ b off cap, v = .slice (some ⟨b, off, none⟩) L.length cap ∧ (L.length ≤ cap ∧ cap ≤ 9223372036854775807) ∧ ∀ j (hj : j < L.length), w.cell? ⟨b, off + j * 3, none⟩ = some (.string L[j].1) ∧ w.cell? ⟨b, off + j * 3 + 1, none⟩ = some (.int .i64 L[j].2.1) ∧ w.cell? ⟨b, off + j * 3 + 2, none⟩ = some (.int .i64 L[j].2.2)
theorem RLv.below {w w' : World} {v : Value} {L : List Lv} (h : RLv w v L) (hb : Below w.heap.size w w') : RLv w' v L := by
  rcases h with h | ⟨b, off, cap, hv, hl, hc⟩
  · exact .inl h
  · exact .inr ⟨b, off, cap, hv, hl, fun j hj => ⟨below_cells hb _ _ (hc j hj).1, below_cells hb _ _ (hc j hj).2.1, below_cells hb _ _ (hc j hj).2.2⟩⟩
theorem RLv.form {w : World} {v : Value} {L : List Lv} (h : RLv w v L) : ∃ ao cap, v = .slice ao L.length cap := by
  rcases h with ⟨rfl, ao, cap, rfl, _⟩ | ⟨b, off, cap, rfl, _⟩
  · exact ⟨_, _, rfl⟩
  · exact ⟨_, _, rfl⟩
theorem vc_at (L : List Lv) (i : Nat) (h : i < L.length) : (vc L)[i * 3]? = some (.string L[i].1) ∧ (vc L)[i * 3 + 1]? = some (.int .i64 L[i].2.1) ∧ (vc L)[i * 3 + 2]? = some (.int .i64 L[i].2.2) := by
  induction L generalizing i with
  | nil => simp at h
  | cons x t ih =>
    have e : vc (x :: t) = .string x.1 :: .int .i64 x.2.1 :: .int .i64 x.2.2 :: vc t := rfl
    rw [e]
    cases i with
    | zero => exact ⟨rfl, rfl, rfl⟩
    | succ i =>
      have := ih i (by simpa using h)
      rw [show (i + 1) * 3 = i * 3 + 1 + 1 + 1 by omega]
      simp only [List.getElem?_cons_succ, List.getElem_cons_succ]
      exact this
theorem OLv.cells {w : World} {base : Nat} {v : Value} {L : List Lv} (h : OLv w base v L) (hl : 0 < L.length) : ∃ g cap, v = .slice (some ⟨g, 0, none⟩) L.length cap ∧ L.length ≤ cap ∧ cap ≤ maxLen ∧ ∀ j (hj : j < L.length), w.cell? ⟨g, j * 3, none⟩ = some (.string L[j].1) ∧ w.cell? ⟨g, j * 3 + 1, none⟩ = some (.int .i64 L[j].2.1) ∧ w.cell? ⟨g, j * 3 + 2, none⟩ = some (.int .i64 L[j].2.2) := by
  have hc := fun g hg => World.ownsRow.cells h (g := g) hg
  rcases h.2 with ⟨_, h0⟩ | ⟨g, cap, cur, rfl, _, hgg, hn, hm, _⟩
  · omega
  · refine ⟨g, cap, rfl, hn, hm, fun j hj => ?_⟩
    have e := vc_at L j hj
    have c0 := hc g rfl _ _ e.1
    have c1 := hc g rfl _ _ e.2.1
    have c2 := hc g rfl _ _ e.2.2
    rw [Addr.add_lit, Nat.zero_add] at c0 c1 c2
    exact ⟨c0, c1, c2⟩
theorem OLv.reads {w : World} {base : Nat} {v : Value} {L : List Lv} (h : OLv w base v L) : RLv w v L := by
  by_cases hl : 0 < L.length
  · obtain ⟨g, cap, hv, h1, hm9, hc⟩ := h.cells hl
    exact .inr ⟨g, 0, cap, hv, ⟨h1, hm9⟩, fun j hj => by rw [Nat.zero_add]; exact hc j hj⟩
  · obtain rfl : L = [] := List.eq_nil_of_length_eq_zero (by omega)
    rcases h.2 with ⟨rfl, _⟩ | ⟨g, cap, cur, rfl, _⟩
    · exact .inl ⟨rfl, none, 0, rfl, fun _ => rfl⟩
    · exact .inl ⟨rfl, _, cap, rfl, fun e => by cases e⟩
theorem RLn.len {w : World} {v : Value} {L : List Ln} (h : RLn w v L) : L.length ≤ 9223372036854775807 := by
  rcases h with ⟨rfl, _⟩ | ⟨b, off, cap, _, hl, _⟩
  · simp
  · omega
theorem RLv.len {w : World} {v : Value} {L : List Lv} (h : RLv w v L) : L.length ≤ 9223372036854775807 := by
  rcases h with ⟨rfl, _⟩ | ⟨b, off, cap, _, hl, _⟩
  · simp
  · omega
/-- the slice at ao reads as the holds L -/
def RHl (w : World) (ao : Option Addr) (L : List Hl) : Prop := ∀ j (h : j < L.length), ∃ b off a p, ao = some ⟨b, off, none⟩ ∧ w.cell? ⟨b, off + j * 3, none⟩ = some (.string L[j].id) ∧ w.cell? ⟨b, off + j * 3 + 1, none⟩ = some (.slice a L[j].lines.length p) ∧ RLn w (.slice a L[j].lines.length p) L[j].lines ∧ w.cell? ⟨b, off + j * 3 + 2, none⟩ = some (.int .i64 L[j].dead)
/-- the slice at ao reads as what is done -/
def RDn (w : World) (ao : Option Addr) (L : List Dn) : Prop := ∀ j (h : j < L.length), ∃ b off a p, ao = some ⟨b, off, none⟩ ∧ w.cell? ⟨b, off + j * 7, none⟩ = some (.string L[j].req.id) ∧ w.cell? ⟨b, off + j * 7 + 1, none⟩ = some (.int .i64 L[j].req.kind) ∧ w.cell? ⟨b, off + j * 7 + 2, none⟩ = some (.slice a L[j].req.lines.length p) ∧ RLn w (.slice a L[j].req.lines.length p) L[j].req.lines ∧ w.cell? ⟨b, off + j * 7 + 3, none⟩ = some (.string L[j].req.hold) ∧ w.cell? ⟨b, off + j * 7 + 4, none⟩ = some (.int .i64 L[j].req.ttl) ∧ w.cell? ⟨b, off + j * 7 + 5, none⟩ = some (.int .i64 L[j].req.now) ∧ w.cell? ⟨b, off + j * 7 + 6, none⟩ = some (.int .i64 L[j].at')
theorem RHl.below {w w' : World} {ao : Option Addr} {L : List Hl} (h : RHl w ao L) (k : Below w.heap.size w w') : RHl w' ao L := fun j hj => by
  obtain ⟨b, off, a, p, e, c0, c1, r, c2⟩ := h j hj
  exact ⟨b, off, a, p, e, below_cells k _ _ c0, below_cells k _ _ c1, r.below k, below_cells k _ _ c2⟩
theorem RDn.below {w w' : World} {ao : Option Addr} {L : List Dn} (h : RDn w ao L) (k : Below w.heap.size w w') : RDn w' ao L := fun j hj => by
  obtain ⟨b, off, a, p, e, c0, c1, c2, r, c3, c4, c5, c6⟩ := h j hj
  exact ⟨b, off, a, p, e, below_cells k _ _ c0, below_cells k _ _ c1, below_cells k _ _ c2, r.below k, below_cells k _ _ c3, below_cells k _ _ c4, below_cells k _ _ c5, below_cells k _ _ c6⟩
/-- how much a list of lines weighs -/
def wl (L : List Ln) : Nat := (L.map fun x => 2 + x.1.size).sum
theorem wl_take (L : List Ln) (j : Nat) (h : j < L.length) : wl (L.take (j + 1)) = wl (L.take j) + (2 + L[j].1.size) := by
  unfold wl
  rw [List.take_succ_eq_append_getElem h, List.map_append, List.sum_append]
  simp
theorem wl_le (L : List Ln) (j : Nat) : wl (L.take j) ≤ wl L := by
  unfold wl
  conv => rhs; rw [← List.take_append_drop j L]
  rw [List.map_append, List.sum_append]
  omega
/-- what levels weigh -/
def wv (L : List Lv) : Nat := (L.map fun x => 3 + x.1.size).sum
theorem wv_take (L : List Lv) (k : Nat) (h : k < L.length) : wv (L.take (k + 1)) = wv (L.take k) + (3 + L[k].1.size) := by
  unfold wv
  rw [List.take_succ_eq_append_getElem h, List.map_append, List.sum_append]
  simp
theorem wv_le (L : List Lv) (k : Nat) : wv (L.take k) ≤ wv L := by
  have e : wv L = wv (L.take k) + wv (L.drop k) := by
    unfold wv
    rw [← List.sum_append, ← List.map_append, List.take_append_drop]
  omega
theorem wv_len (L : List Lv) : 3 * L.length ≤ wv L := by
  induction L with
  | nil => simp [wv]
  | cons x t ih =>
    have e : wv (x :: t) = 3 + x.1.size + wv t := by simp [wv]
    rw [e, List.length_cons]
    omega
/-- what holds, what is done, a state weigh -/
def wh (L : List Hl) : Nat := (L.map fun x => 3 + x.id.size + wl x.lines).sum
def wd (L : List Dn) : Nat := (L.map fun x => 7 + (x.req.id.size + x.req.hold.size + wl x.req.lines)).sum
def wst (s : Sx) : Nat := wv s.levels + wh s.holds + wd s.done
theorem wh_take (L : List Hl) (k : Nat) (h : k < L.length) : wh (L.take (k + 1)) = wh (L.take k) + (3 + L[k].id.size + wl L[k].lines) := by
  unfold wh
  rw [List.take_succ_eq_append_getElem h, List.map_append, List.sum_append]
  simp
theorem wd_take (L : List Dn) (k : Nat) (h : k < L.length) : wd (L.take (k + 1)) = wd (L.take k) + (7 + (L[k].req.id.size + L[k].req.hold.size + wl L[k].req.lines)) := by
  unfold wd
  rw [List.take_succ_eq_append_getElem h, List.map_append, List.sum_append]
  simp
theorem wh_le (L : List Hl) (k : Nat) : wh (L.take k) ≤ wh L := by
  have e : wh L = wh (L.take k) + wh (L.drop k) := by
    unfold wh
    rw [← List.sum_append, ← List.map_append, List.take_append_drop]
  omega
theorem wd_le (L : List Dn) (k : Nat) : wd (L.take k) ≤ wd L := by
  have e : wd L = wd (L.take k) + wd (L.drop k) := by
    unfold wd
    rw [← List.sum_append, ← List.map_append, List.take_append_drop]
  omega
theorem wh_len (L : List Hl) : L.length ≤ wh L := by
  induction L with
  | nil => simp [wh]
  | cons x t ih =>
    have e : wh (x :: t) = 3 + x.id.size + wl x.lines + wh t := by simp [wh]
    rw [e, List.length_cons]
    omega
theorem wd_len (L : List Dn) : L.length ≤ wd L := by
  induction L with
  | nil => simp [wd]
  | cons x t ih =>
    have e : wd (x :: t) = 7 + (x.req.id.size + x.req.hold.size + wl x.req.lines) + wd t := by simp [wd]
    rw [e, List.length_cons]
    omega
theorem wl_len2 (L : List Ln) : L.length ≤ wl L := by
  induction L with
  | nil => simp [wl]
  | cons x t ih =>
    have e : wl (x :: t) = 2 + x.1.size + wl t := by simp [wl]
    rw [e, List.length_cons]
    omega
/-- an int of 64 bits -/
def I64 (n : Int) : Prop := -9223372036854775808 ≤ n ∧ n ≤ 9223372036854775807
end Go.Proofs.YtdodockemkmmpaaGreat
