/-
  A board in memory; New, has, makeReady, notReady, Start, Finish.
-/
import Derived.Test.YtogbmldplgondacBd1
namespace Go.Proofs.Ytogbmldplgondac
open Go.RowKit Go.Maps
set_option maxRecDepth 100000

/-- a list of those that wait, in a row of its own -/
def LR (w : World) (base : Nat) (v : Value) (L : List Int) : Prop :=
  (v = .slice none 0 0 ∧ L = []) ∨ ∃ (g off cap : Nat) (row : Array Value), v = .slice (some ⟨g, off, none⟩) L.length cap ∧ base ≤ g ∧ w.heap[g]? = some (.cells row 3 (0, 0)) ∧ off + cap ≤ row.size ∧ L.length ≤ cap ∧ ∀ j (h : j < L.length), row[off + j]? = some (.int .i64 L[j])
theorem LR.kept {w w' : World} {base : Nat} {v : Value} {L : List Int} (h : LR w base v L) (hb : ∀ g, v.ownBlock = some g → w'.heap[g]? = w.heap[g]?) : LR w' base v L := by
  rcases h with h | ⟨g, off, cap, row, rfl, h1, h2, h3, h4, h5⟩
  · exact .inl h
  · exact .inr ⟨g, off, cap, row, rfl, h1, (hb g rfl).trans h2, h3, h4, h5⟩
theorem LR.reads {w : World} {base : Nat} {v : Value} {L : List Int} (h : LR w base v L) : RI w v L := by
  rcases h with ⟨rfl, rfl⟩ | ⟨g, off, cap, row, rfl, _, h2, _, h4, h5⟩
  · exact RI.nil w
  · refine ⟨_, cap, rfl, h4, fun e => (by cases e), fun j hj => ⟨g, off, rfl, ?_⟩⟩
    rw [cell_of_row w g (off + j) _ _ _ h2]
    exact h5 j hj
theorem LR.typ {w : World} {base : Nat} {v : Value} {L : List Int} (h : LR w base v L) {g : Nat} (hg : v.ownBlock = some g) : base ≤ g ∧ ∃ row, w.heap[g]? = some (.cells row 3 (0, 0)) := by
  rcases h with ⟨rfl, _⟩ | ⟨g', off, cap, row, rfl, h1, h2, _⟩
  · simp [Value.ownBlock] at hg
  · simp [Value.ownBlock] at hg
    subst hg
    exact ⟨h1, row, h2⟩

/-- a board in memory: handlers S, picks p, those that wait L, their slices M -/
structure BD (w : World) (base d hb mb N : Nat) (S : List Hd) (p : Int) (M : Int → Value) (L : Int → List Int) : Prop where
  gd : base ≤ d
  gh : base ≤ hb
  gm : base ≤ mb
  top : w.heap[d]? = some (.cells #[.slice (some ⟨hb, 0, none⟩) S.length S.length, .map (some mb), .int .i64 p] 92 (0, 0))
  row : w.heap[hb]? = some (.cells (hc S).toArray 94 (0, 0))
  many : 1 ≤ S.length ∧ S.length ≤ 16
  map : MP w mb N M
  lists : ∀ k, LR w base (M k) (L k)
  apart : ∀ k k' g, (M k).ownBlock = some g → (M k').ownBlock = some g → k = k'
theorem MP.notcells {w : World} {b n : Nat} {M : Int → Value} (h : MP w b n M) (cs : Array Value) (t : TypeId) (fr : Nat × Nat) : w.heap[b]? ≠ some (.cells cs t fr) := by
  obtain ⟨D, ⟨es, clock, hb, _⟩, _⟩ := h
  rw [hb]
  simp
/-- the blocks of a board -/
def ofB (d hb mb : Nat) (M : Int → Value) (k : Nat) : Prop := k = d ∨ k = hb ∨ k = mb ∨ ∃ x, (M x).ownBlock = some k
/-- but a board's blocks nothing that lay has turned -/
structure Kb (d hb mb : Nat) (M : Int → Value) (w w' : World) : Prop where
  os : w'.os = w.os
  tape : w'.tape = w.tape
  output : w'.output = w.output
  size : w.heap.size ≤ w'.heap.size
  block : ∀ k, k < w.heap.size → ¬ ofB d hb mb M k → w'.heap[k]? = w.heap[k]?
theorem Kb.refl (d hb mb : Nat) (M : Int → Value) (w : World) : Kb d hb mb M w w := ⟨rfl, rfl, rfl, Nat.le_refl _, fun _ _ _ => rfl⟩
theorem Kb.below {d hb mb : Nat} {M : Int → Value} {w w' : World} (h : Below w.heap.size w w') : Kb d hb mb M w w' := ⟨h.os, h.tape, h.output, h.size, fun k hk _ => h.block k hk⟩
theorem Kb.set {d hb mb : Nat} {M : Int → Value} (w : World) (p : Addr) (v : Value) (h : ofB d hb mb M p.block) : Kb d hb mb M w (w.setCell p v) :=
  ⟨rfl, rfl, rfl, by simp, fun k _ hn => heap_setCell_other w p k v (fun e => hn (by rw [e]; exact h))⟩
theorem Kb.trans {d hb mb : Nat} {M : Int → Value} {w w' w'' : World} (h : Kb d hb mb M w w') (k : Kb d hb mb M w' w'') : Kb d hb mb M w w'' :=
  ⟨k.os.trans h.os, k.tape.trans h.tape, k.output.trans h.output, Nat.le_trans h.size k.size, fun i hi hn => (k.block i (Nat.lt_of_lt_of_le hi h.size) hn).trans (h.block i hi hn)⟩
theorem Kb.drew (d hb mb : Nat) (M : Int → Value) (w : World) : Kb d hb mb M w w.drew := ⟨rfl, rfl, rfl, Nat.le_refl _, fun _ _ _ => rfl⟩

theorem BD.ne {w : World} {base d hb mb N : Nat} {S : List Hd} {p : Int} {M : Int → Value} {L : Int → List Int} (h : BD w base d hb mb N S p M L) : d ≠ hb ∧ d ≠ mb ∧ hb ≠ mb ∧ (∀ k g, (M k).ownBlock = some g → g ≠ d ∧ g ≠ hb ∧ g ≠ mb) := by
  refine ⟨fun e => ?_, fun e => ?_, fun e => ?_, fun k g hg => ?_⟩
  · have := h.top; rw [e, h.row] at this; simp at this
  · exact h.map.notcells _ _ _ (e ▸ h.top)
  · exact h.map.notcells _ _ _ (e ▸ h.row)
  · obtain ⟨_, row, hr⟩ := (h.lists k).typ hg
    refine ⟨fun e => ?_, fun e => ?_, fun e => ?_⟩
    · rw [e, h.top] at hr; simp at hr
    · rw [e, h.row] at hr; simp at hr
    · exact h.map.notcells _ _ _ (e ▸ hr)
theorem BD.lt {w : World} {base d hb mb N : Nat} {S : List Hd} {p : Int} {M : Int → Value} {L : Int → List Int} (h : BD w base d hb mb N S p M L) : ∀ k, ofB d hb mb M k → k < w.heap.size ∧ base ≤ k := by
  rintro k (rfl | rfl | rfl | ⟨x, hx⟩)
  · exact ⟨(Array.getElem?_eq_some_iff.1 h.top).1, h.gd⟩
  · exact ⟨(Array.getElem?_eq_some_iff.1 h.row).1, h.gh⟩
  · exact ⟨h.map.lt, h.gm⟩
  · obtain ⟨h1, row, hr⟩ := (h.lists x).typ hx
    exact ⟨(Array.getElem?_eq_some_iff.1 hr).1, h1⟩
/-- what leaves a board's blocks alone leaves the board -/
theorem BD.kept {w w' : World} {base d hb mb N : Nat} {S : List Hd} {p : Int} {M : Int → Value} {L : Int → List Int} {row : Option Nat} (h : BD w base d hb mb N S p M L) (hg : w.grownBy w' row) (hr : ∀ k, row = some k → ¬ ofB d hb mb M k) : BD w' base d hb mb N S p M L := by
  have hk : ∀ k, ofB d hb mb M k → w'.heap[k]? = w.heap[k]? := fun k hk => hg.block k (h.lt k hk).1 (fun e => hr k e.symm hk)
  exact ⟨h.gd, h.gh, h.gm, (hk d (.inl rfl)).trans h.top, (hk hb (.inr (.inl rfl))).trans h.row, h.many, h.map.kept hg (fun e => hr mb e.symm (.inr (.inr (.inl rfl)))), fun k => (h.lists k).kept fun g hgg => hk g (.inr (.inr (.inr ⟨k, hgg⟩))), h.apart⟩
theorem BD.later {w w' : World} {base d hb mb N : Nat} {S : List Hd} {p : Int} {M : Int → Value} {L : Int → List Int} (h : BD w base d hb mb N S p M L) (hb' : Below w.heap.size w w') : BD w' base d hb mb N S p M L := h.kept (Below.grew hb') (fun k e => by cases e)

theorem handinfo : (Try.prog.info? 94).map (fun i => (i.zero, i.size, i.bytes)) = some (some (.agg #[.int .i64 0, .int .i64 0, .int .i64 0]), 3, 24) := by kernel_rfl
theorem hc_zero (n : Nat) : ∀ u ∈ hc (List.replicate n (0, 0, 0)), u = .int .i64 0 := by
  intro u hu
  obtain ⟨x, hx, hu⟩ := List.mem_flatMap.1 hu
  obtain rfl := List.eq_of_mem_replicate hx
  simpa using hu
theorem made_h (n : Nat) : madeCells #[.int .i64 0, .int .i64 0, .int .i64 0] (n * 3) = (hc (List.replicate n (0, 0, 0))).toArray := by
  apply Array.ext
  · rw [size_madeCells]; simp [hc_len]
  · intro i h1 h2
    have e2 : (hc (List.replicate n (0, 0, 0))).toArray[i] = .int .i64 0 := hc_zero n _ (by simp)
    rw [e2]
    have h3 : i % 3 = 0 ∨ i % 3 = 1 ∨ i % 3 = 2 := by omega
    rcases h3 with h | h | h <;> simp [madeCells, h]
def mkH (a b : Value) : Sem Value := Instr.makeSlice 89 a b
theorem mkh_op (a b : Value) : Instr.makeSlice 89 a b = mkH a b := rfl
theorem run_mkH (n : Nat) (hn : n ≤ 1000) (w : World) : (mkH (.int .i64 (n : Int)) (.int .i64 (n : Int))).run Try.prog w = .ok (.slice (some ⟨w.heap.size, 0, none⟩) n n) (w.alloc (.cells (hc (List.replicate n (0, 0, 0))).toArray 94)) := by
  obtain ⟨i, hi, hz, hs, hb⟩ := info_parts handinfo
  have := run_make (P := Try.prog) w 89 94 i _ Try.underlying89 hi hz .i64 .i64 (n : Int) (n : Int) (by omega) (by omega) (by rw [hb]; omega) (by omega)
  unfold mkH
  rw [this, hs]
  simp only [Int.toNat_natCast]
  rw [show (Value.agg #[Value.int IntKind.i64 0, Value.int IntKind.i64 0, Value.int IntKind.i64 0]).cells = #[.int .i64 0, .int .i64 0, .int .i64 0] from rfl, made_h]
attribute [local go_sem ↓] mkh_op

theorem BD.cells {w : World} {base d hb mb N : Nat} {S : List Hd} {p : Int} {M : Int → Value} {L : Int → List Int} (h : BD w base d hb mb N S p M L) : w.cell? ⟨d, 0, none⟩ = some (.slice (some ⟨hb, 0, none⟩) S.length S.length) ∧ w.cell? ⟨d, 1, none⟩ = some (.map (some mb)) ∧ w.cell? ⟨d, 2, none⟩ = some (.int .i64 p) ∧ w.frozen? ⟨d, 2, none⟩ = false := by
  refine ⟨?_, ?_, ?_, ?_⟩
  · rw [cell_of_row w d 0 _ _ _ h.top]; rfl
  · rw [cell_of_row w d 1 _ _ _ h.top]; rfl
  · rw [cell_of_row w d 2 _ _ _ h.top]; rfl
  · simp [World.frozen?, h.top]
theorem BD.hand {w : World} {base d hb mb N : Nat} {S : List Hd} {p : Int} {M : Int → Value} {L : Int → List Int} (h : BD w base d hb mb N S p M L) (i : Nat) (hi : i < S.length) : w.cell? ⟨hb, i * 3, none⟩ = some (.int .i64 S[i].1) ∧ w.cell? ⟨hb, i * 3 + 1, none⟩ = some (.int .i64 S[i].2.1) ∧ w.cell? ⟨hb, i * 3 + 2, none⟩ = some (.int .i64 S[i].2.2) ∧ ∀ j, w.frozen? ⟨hb, j, none⟩ = false := by
  obtain ⟨a1, a2, a3⟩ := hc_at S i hi
  refine ⟨?_, ?_, ?_, fun j => by simp [World.frozen?, h.row]⟩
  · rw [cell_of_row w hb _ _ _ _ h.row]; simpa using a1
  · rw [cell_of_row w hb _ _ _ _ h.row]; simpa using a2
  · rw [cell_of_row w hb _ _ _ _ h.row]; simpa using a3
/-- there is a handler h -/
def inH (h : Int) (n : Nat) : Bool := decide (0 ≤ h ∧ h < (n : Int))
theorem inH_iff (h : Int) (n : Nat) : inH h n = true ↔ 0 ≤ h ∧ h < (n : Int) := by simp [inH]
theorem inH_no {h : Int} {n : Nat} (e : ¬ (0 ≤ h ∧ h < (n : Int))) : inH h n = false := by unfold inH; exact decide_eq_false e
theorem has_any (h : Int) (w : World) {base d hb mb N : Nat} {S : List Hd} {p : Int} {M : Int → Value} {L : Int → List Int} (H : BD w base d hb mb N S p M L) :
    Calls Try.prog 53 #[.pointer (some ⟨d, 0, none⟩), .int .i64 h] w fun e w' => e = .returned (.bool (inH h S.length)) ∧ w' = w := by
  obtain ⟨c0, _, _, _⟩ := H.cells
  clear H
  go_enter Try.func53, Try.ntmps53
  by_cases h0 : 0 ≤ h
  · by_cases h1 : h < (S.length : Int)
    · have HN := hid ((inH_iff h S.length).2 ⟨h0, h1⟩)
      go_wp2
      go_ret
      exact ⟨by rw [HN.out]; rfl, rfl⟩
    · have HN := hid (inH_no (h := h) (n := S.length) (by omega))
      go_wp2
      go_ret
      exact ⟨by rw [HN.out]; rfl, rfl⟩
  · have HN := hid (inH_no (h := h) (n := S.length) (by omega))
    go_wp2
    go_ret
    exact ⟨by rw [HN.out]; rfl, rfl⟩
/-- why h can't do what only a ready one can -/
def nRd (S : List Hd) (h : Int) : Int := if inH h S.length then (if (S.getD h.toNat (0, 0, 0)).1 = 0 then 71 else if (S.getD h.toNat (0, 0, 0)).1 = 2 then 72 else 0) else 70
theorem getD_at (S : List Hd) (i : Nat) (h : i < S.length) : S.getD i (0, 0, 0) = S[i] := by rw [List.getD_eq_getElem?_getD, List.getElem?_eq_getElem h]; rfl
theorem notReady_any (h : Int) (w : World) {base d hb mb N : Nat} {S : List Hd} {p : Int} {M : Int → Value} {L : Int → List Int} (H : BD w base d hb mb N S p M L) :
    Calls Try.prog 55 #[.pointer (some ⟨d, 0, none⟩), .int .i64 h] w fun e w' => e = .returned (.int .i64 (nRd S h)) ∧ w' = w := by
  have HH := hid (has_any h w H)
  obtain ⟨c0, _, _, _⟩ := H.cells
  by_cases hin : 0 ≤ h ∧ h < (S.length : Int)
  · obtain ⟨i, rfl⟩ : ∃ i : Nat, h = (i : Int) := ⟨h.toNat, by omega⟩
    have hi : i < S.length := by omega
    obtain ⟨c1, _, _, _⟩ := H.hand i hi
    have hy := (inH_iff (i : Int) S.length).2 hin
    have HR := hid (show nRd S (i : Int) = if S[i].1 = 0 then 71 else if S[i].1 = 2 then 72 else 0 by unfold nRd; rw [if_pos hy, Int.toNat_natCast, getD_at S i hi])
    rw [hy] at HH
    generalize S[i].1 = st at c1 HR
    clear H hy hin
    go_enter Try.func55, Try.ntmps55
    by_cases h0 : st = 0
    · have hb0 : (st == 0) = true := by simp [h0]
      have HE := hid (show nRd S (i : Int) = 71 by rw [HR.out, if_pos h0])
      clear h0
      go_wp2_with (go_at_call 53; refine HH.out.mono ?_; rintro e w3 ⟨rfl, rfl⟩)
      go_ret
      exact ⟨by rw [HE.out]; rfl, rfl⟩
    · by_cases h2 : st = 2
      · have hb0 : (st == 0) = false := by simp [h0]
        have hb2 : (st == 2) = true := by simp [h2]
        have HE := hid (show nRd S (i : Int) = 72 by rw [HR.out, if_neg h0, if_pos h2])
        clear h0 h2
        go_wp2_with (go_at_call 53; refine HH.out.mono ?_; rintro e w3 ⟨rfl, rfl⟩)
        go_ret
        exact ⟨by rw [HE.out]; rfl, rfl⟩
      · have hb0 : (st == 0) = false := by simp [h0]
        have hb2 : (st == 2) = false := by simp [h2]
        have HE := hid (show nRd S (i : Int) = 0 by rw [HR.out, if_neg h0, if_neg h2])
        clear h0 h2
        go_wp2_with (go_at_call 53; refine HH.out.mono ?_; rintro e w3 ⟨rfl, rfl⟩)
        go_ret
        exact ⟨by rw [HE.out]; rfl, rfl⟩
  · have HE := hid (show nRd S h = 70 by unfold nRd; rw [inH_no hin]; simp)
    rw [inH_no hin] at HH
    clear H hin
    go_enter Try.func55, Try.ntmps55
    go_wp2_with (go_at_call 53; refine HH.out.mono ?_; rintro e w3 ⟨rfl, rfl⟩)
    go_ret
    exact ⟨by rw [HE.out]; rfl, rfl⟩
end Go.Proofs.Ytogbmldplgondac
