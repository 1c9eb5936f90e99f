/-
  Sheets, pure: what was told does not matter to what is told next; pieces of a text.
-/
import Derived.Test.YtpgpeafmlijfkaaGreatDoorSpi
namespace Go.Proofs.YtpgpeafmlijfkaaGreatDoor
set_option maxRecDepth 100000
set_option linter.unusedVariables false
set_option linter.unusedSimpArgs false

/-- a step goes on whatever was told, and tells so much more -/
def Fr (f : Rs → Rs) (s : Rs) : Prop := ∃ d, ∀ X, f { s with td := X } = { f s with td := X ++ d }
theorem fr_fail (s : Rs) (c : Nat) (p : Nat × Nat) : Fr (fun s => s.fail c p) s := ⟨[], fun X => by simp [Rs.fail]⟩
theorem fr_add (s : Rs) (c : UInt8) : Fr (fun s => s.add c) s := by
  refine ⟨[], fun X => ?_⟩
  simp only [Rs.add]
  split
  · simp [Rs.fail]
  · simp
theorem fr_endRow (s : Rs) (p : Nat × Nat) : Fr (fun s => s.endRow p) s := by
  by_cases h : 0 < s.rw ∧ s.cs.length ≠ s.wd
  · refine ⟨[], fun X => ?_⟩
    simp only [Rs.endRow]
    rw [if_pos h, if_pos h]
    simp [Rs.fail]
  · refine ⟨[s.cs], fun X => ?_⟩
    simp only [Rs.endRow]
    rw [if_neg h, if_neg h]
theorem fr_endCell (s : Rs) (c : Option UInt8) : Fr (fun s => s.endCell c) s := by
  cases c with
  | none =>
    obtain ⟨d, h⟩ := fr_endRow s.cel s.hp
    exact ⟨d, fun X => h X⟩
  | some c =>
    refine ⟨[], fun X => ?_⟩
    simp only [Rs.endCell]
    split
    · simp [Rs.cel]
    · split
      · simp [Rs.cel, Rs.fail]
      · simp [Rs.cel]
theorem fr_plain (s : Rs) (c : Option UInt8) : Fr (fun s => s.plain c) s := by
  cases c with
  | none => exact fr_endCell s none
  | some c =>
    unfold Fr
    simp only [Rs.plain]
    by_cases h1 : c.toNat = 44 ∨ c.toNat = 13
    · simp only [if_pos h1]; exact fr_endCell s (some c)
    · simp only [if_neg h1]
      by_cases h2 : c.toNat = 10
      · simp only [if_pos h2]; exact fr_fail s 3 s.hp
      · simp only [if_neg h2]
        by_cases h3 : c.toNat = 34
        · simp only [if_pos h3]; exact fr_fail s 2 s.hp
        · simp only [if_neg h3]
          by_cases h4 : c.toNat = 9 ∨ mayB c.toNat = false
          · simp only [if_pos h4]; exact fr_fail s 4 s.hp
          · simp only [if_neg h4]; exact fr_add s c
theorem fr_quoted (s : Rs) (c : Option UInt8) : Fr (fun s => s.quoted c) s := by
  cases c with
  | none => exact fr_fail s 1 s.op
  | some c =>
    unfold Fr
    simp only [Rs.quoted]
    by_cases h1 : c.toNat = 34
    · simp only [if_pos h1]; exact ⟨[], fun X => by simp⟩
    · simp only [if_neg h1]
      by_cases h2 : mayB c.toNat = false
      · simp only [if_pos h2]; exact fr_fail s 4 s.hp
      · simp only [if_neg h2]; exact fr_add s c
theorem fr_behindQuote (s : Rs) (c : Option UInt8) : Fr (fun s => s.behindQuote c) s := by
  cases c with
  | none => exact fr_endCell s none
  | some c =>
    unfold Fr
    simp only [Rs.behindQuote]
    by_cases h1 : c.toNat = 34
    · simp only [if_pos h1]; exact fr_add { s with md := 4 } c
    · simp only [if_neg h1]
      by_cases h2 : c.toNat = 44 ∨ c.toNat = 13
      · simp only [if_pos h2]; exact fr_endCell s (some c)
      · simp only [if_neg h2]
        by_cases h3 : c.toNat = 10
        · simp only [if_pos h3]; exact fr_fail s 3 s.hp
        · simp only [if_neg h3]; exact fr_fail s 2 s.hp
theorem fr_behindReturn (s : Rs) (c : Option UInt8) : Fr (fun s => s.behindReturn c) s := by
  cases c with
  | none => exact fr_fail s 3 s.ep
  | some c =>
    unfold Fr
    simp only [Rs.behindReturn]
    by_cases h1 : c.toNat = 10
    · simp only [if_pos h1]; exact fr_endRow s s.ep
    · simp only [if_neg h1]; exact fr_fail s 3 s.ep
theorem fr_beginCell (s : Rs) (c : Option UInt8) : Fr (fun s => s.beginCell c) s := by
  cases c with
  | none => exact fr_plain { s with md := 3 } none
  | some c =>
    unfold Fr
    simp only [Rs.beginCell]
    by_cases h1 : c.toNat = 34
    · simp only [if_pos h1]; exact ⟨[], fun X => by simp⟩
    · simp only [if_neg h1]; exact fr_plain { s with md := 3 } (some c)
theorem fr_beginRow (s : Rs) (c : Option UInt8) : Fr (fun s => s.beginRow c) s := by
  cases c with
  | none => exact ⟨[], fun X => by simp [Rs.beginRow]⟩
  | some c =>
    unfold Fr
    simp only [Rs.beginRow]
    by_cases h1 : s.rw = 4096
    · simp only [if_pos h1]; exact fr_fail s 7 s.hp
    · simp only [if_neg h1]; exact fr_beginCell s (some c)
theorem fr_next (s : Rs) (c : Option UInt8) : Fr (fun s => s.next c) s := by
  unfold Fr
  simp only [Rs.next]
  by_cases m1 : s.md = 1
  · simp only [if_pos m1]; exact fr_beginRow s c
  · simp only [if_neg m1]
    by_cases m2 : s.md = 2
    · simp only [if_pos m2]; exact fr_beginCell s c
    · simp only [if_neg m2]
      by_cases m3 : s.md = 3
      · simp only [if_pos m3]; exact fr_plain s c
      · simp only [if_neg m3]
        by_cases m4 : s.md = 4
        · simp only [if_pos m4]; exact fr_quoted s c
        · simp only [if_neg m4]
          by_cases m5 : s.md = 5
          · simp only [if_pos m5]; exact fr_behindQuote s c
          · simp only [if_neg m5]; exact fr_behindReturn s c
theorem fr_take (s : Rs) (c : UInt8) : Fr (fun s => s.take c) s := by
  unfold Fr
  simp only [Rs.take]
  by_cases h : s.sz = 262144
  · simp only [if_pos h]; exact fr_fail s 20 s.hp
  · simp only [if_neg h]
    obtain ⟨d, hd⟩ := fr_next s (some c)
    refine ⟨d, fun X => ?_⟩
    have := hd X
    simp only [] at this
    rw [this]
    rfl
theorem fr_run (l : List UInt8) : ∀ s : Rs, Fr (fun s => runL s l) s := by
  induction l with
  | nil => intro s; exact ⟨[], fun X => by simp [runL]⟩
  | cons c r ih =>
    intro s
    unfold Fr
    simp only [runL]
    by_cases h : s.er = 0
    · simp only [if_pos h]
      obtain ⟨d, hd⟩ := fr_take s c
      obtain ⟨d2, hd2⟩ := ih (s.take c)
      refine ⟨d ++ d2, fun X => ?_⟩
      have e1 := hd X
      simp only [] at e1
      rw [e1]
      have e2 := hd2 (X ++ d)
      simp only [] at e2
      rw [e2, List.append_assoc]
    · simp only [if_neg h]
      exact ⟨[], fun X => by simp⟩
/-- a piece behind what came: the Reader, and all that was told -/
theorem piece (L : List UInt8) (i j : Nat) (hij : i ≤ j) (hj : j ≤ L.length) :
    runL { sj L i with td := [] } ((L.take j).drop i) = { sj L j with td := (runL { sj L i with td := [] } ((L.take j).drop i)).td } ∧ (sj L j).td = (sj L i).td ++ (runL { sj L i with td := [] } ((L.take j).drop i)).td := by
  have hrun : sj L j = runL (sj L i) ((L.take j).drop i) := by
    unfold sj
    rw [← runL_app]
    congr 1
    have : L.take i = (L.take j).take i := by rw [List.take_take, Nat.min_eq_left hij]
    rw [this, List.take_append_drop]
  obtain ⟨d, hd⟩ := fr_run ((L.take j).drop i) (sj L i)
  have h1 := hd []
  have h2 := hd (sj L i).td
  simp only [] at h1 h2
  rw [List.nil_append] at h1
  have h3 : ({ sj L i with td := (sj L i).td } : Rs) = sj L i := rfl
  rw [h3, ← hrun] at h2
  have htd : (sj L j).td = (sj L i).td ++ d := by
    have := congrArg Rs.td h2
    exact this
  rw [h1, ← hrun]
  exact ⟨rfl, htd⟩
theorem sj_all (L : List UInt8) : sj L L.length = fdP L := by
  rw [fdP_sj]
  rcases Nat.lt_or_ge 262145 L.length with h | h
  · rw [Nat.min_eq_right (by omega)]
    refine sj_on L 262145 (fun h0 => ?_) _ (by omega)
    have hb := sj_back L 262144 h0
    have I := ivn L 262144 (by omega) hb
    rw [sj_succ L 262144 (by omega) hb, Rs.take, if_pos I.sz] at h0
    exact absurd h0 (by simp [Rs.fail])
  · rw [Nat.min_eq_left h]
end Go.Proofs.YtpgpeafmlijfkaaGreatDoor
