/-
  A time's text read: readTime.
-/
import Derived.Test.YtjpglgemnaknhaaGreatDoorShap
import Derived.Test.YtjpglgemnaknhaaGreatDoorRdb
import Derived.Shelf.Strings.SlTrimAscii
namespace Go.Proofs.YtjpglgemnaknhaaGreatDoor
open Go.RowKit
set_option maxRecDepth 100000

theorem below_cells {w w' : World} (hb : Below w.heap.size w w') : ∀ p : Addr, ∀ u, w.cell? p = some u → w'.cell? p = some u :=
  fun p _ h => (hb.cell (p := p) (World.block_lt_of_cell? _ _ h)).trans h
/-- nothing but the number in block sb has turned -/
def SBx (w0 : World) (sb : Nat) (v : Nat → Int) (k : Nat) (w : World) : Prop := w0.grownBy w (some sb) ∧ IBox w sb (v k)
theorem SBx.start {w0 : World} {sb : Nat} {v : Nat → Int} (h : IBox w0 sb (v 0)) : SBx w0 sb v 0 w0 := ⟨World.grownBy.refl _ _, h⟩
theorem SBx.stable {w0 w w' : World} {sb : Nat} {v : Nat → Int} {k : Nat} (h : SBx w0 sb v k w) (hb : Below w.heap.size w w') : SBx w0 sb v k w' :=
  ⟨⟨hb.os.trans h.1.os, hb.tape.trans h.1.tape, hb.output.trans h.1.output, Nat.le_trans h.1.size hb.size, fun j hj hne => (hb.block j (Nat.lt_of_lt_of_le hj h.1.size)).trans (h.1.block j hj hne)⟩, h.2.later hb⟩
theorem SBx.set {w0 w : World} {sb : Nat} {v : Nat → Int} {k : Nat} (h : SBx w0 sb v k w) (z : Int) (hz : v (k + 1) = z) : SBx w0 sb v (k + 1) (w.setCell ⟨sb, 0, none⟩ (.int .i64 z)) := by
  refine ⟨⟨h.1.os, h.1.tape, h.1.output, by simpa using h.1.size, fun j hj hne => ?_⟩, by rw [hz]; exact h.2.put z⟩
  rw [Below.heap_setCell _ _ _ _ (by show j ≠ sb; intro e; exact hne (by rw [e]))]
  exact h.1.block j hj hne
theorem SBx.frame {w0 w : World} {sb : Nat} {v : Nat → Int} {k : Nat} (_ : SBx w0 sb v k w) (hlt : sb < w0.heap.size) (z : Int) : ∀ x, w0.heap.size ≤ x → x < w.heap.size → (w.setCell ⟨sb, 0, none⟩ (.int .i64 z)).heap[x]? = w.heap[x]? :=
  fun x hx _ => Below.heap_setCell _ _ _ _ (by show x ≠ sb; omega)
theorem SBx.cell {w0 w : World} {sb tb o : Nat} {v : Nat → Int} {k : Nat} (h : SBx w0 sb v k w) (hne : tb ≠ sb) {u : Value} (hc : w0.cell? ⟨tb, o, none⟩ = some u) : w.cell? ⟨tb, o, none⟩ = some u :=
  (World.cell?_of_block (h.1.block tb (World.block_lt_of_cell? _ _ hc) (fun e => hne (by cases e; rfl)))).trans hc

theorem trimA (s c : ByteArray) (w : World) (hs : s.size ≤ 9223372036854775807) (hcs : c.size < 4294967281) (hascii : ∀ (j : Nat) b, c.data.toList[j]? = some b → b.toNat < 128) :
    Calls Tryz.prog 58 #[.string s, .string c] w fun e w' => e = .returned (.string ⟨(Lib.trimS s.data.toList c.data.toList).toArray⟩) ∧ Below w.heap.size w w' :=
  Go.Proofs.Any.strings_Trim_ascii Tryz.lays160 (fun w => by kernel_rfl) (by kernel_rfl) s c w hs hcs hascii
/-- only zeros and colons stand behind the hours -/
def tz (t : ByteArray) : Bool := Lib.trimS (t.data.toList.drop 2) [48, 58] == []
/-- the hours may be -/
def okH (t : ByteArray) (n : Nat) : Bool := decide (n ≤ 23) || (decide (n = 24) && tz t)
theorem tz_text (t : ByteArray) : (Lib.trimS (List.take (t.size - 2) (List.drop 2 t.data.toList)) [48, 58]).isEmpty = tz t := by
  unfold tz
  have e : List.take (t.size - 2) (List.drop 2 t.data.toList) = t.data.toList.drop 2 := List.take_of_length_le (by rw [List.length_drop, Array.length_toList]; exact Nat.le_refl _)
  rw [e]
  cases Lib.trimS (t.data.toList.drop 2) [48, 58] <;> rfl
theorem run_from2 (t : ByteArray) (h : 2 ≤ t.size) (w : World) :
    (Instr.slice 9 (.string t) (some (.int .i64 2)) none none).run Tryz.prog w = .ok (.string (t.extract 2 t.size)) w := by
  have h1 : ¬ (t.size : Int) < 2 := by omega
  simp [Instr.slice, Instr.sliceBounds, Instr.sliceBound, asIntOf, run_underlying Tryz.underlying9, go_sem, h1]
set_option maxHeartbeats 1000000 in
theorem tlo1_any (t : ByteArray) (h2 : 2 ≤ t.size) (h64 : t.size ≤ 64) (w0 w : World) (sb tb n : Nat) (hn : n ≤ 99) (v : Nat → Int) (hv : v 1 = 3600 * (n : Int)) (hlt : sb < w0.heap.size) (hne : tb ≠ sb) (hc : w0.cell? ⟨tb, 0, none⟩ = some (.string t)) (h : SBx w0 sb v 0 w) :
    Calls Tryz.prog 57 #[.int .i64 (n : Int), .pointer (some ⟨sb, 0, none⟩), .pointer (some ⟨tb, 0, none⟩)] w fun e w' => e = .returned (.bool (okH t n)) ∧ SBx w0 sb v 1 w' ∧ ∀ x, w0.heap.size ≤ x → x < w.heap.size → w'.heap[x]? = w.heap[x]? := by
  have R := hid (h.set (3600 * (n : Int)) hv)
  have FR := hid (h.frame hlt (3600 * (n : Int)))
  obtain ⟨c0, f0, _⟩ := h.2.facts
  have ct := R.out.cell hne hc
  have hsz : (w.setCell ⟨sb, 0, none⟩ (.int .i64 (3600 * (n : Int)))).heap.size = w.heap.size := by simp
  have H0 := hid h
  have HV := hid hv
  have HC := hid hc
  clear h hv hc
  have hm : IntKind.i64.wrap (3600 * (n : Int)) = 3600 * (n : Int) := IntWalk.i64_in _ (by omega)
  by_cases g1 : n ≤ 23
  · have g1' : (n : Int) ≤ 23 := by omega
    have e : okH t n = true := by unfold okH; simp [g1]
    rw [e]
    clear e
    go_enter Tryz.func57, Tryz.ntmps57
    go_wp2
    go_ret
    exact ⟨rfl, R.out, FR.out⟩
  · have g1' : ¬ (n : Int) ≤ 23 := by omega
    by_cases g2 : n = 24
    · subst g2
      have e : okH t 24 = tz t := by unfold okH; simp
      rw [e]
      clear R FR ct hsz hm g1 g1'
      have R := hid (H0.out.set 86400 (by rw [HV.out]; rfl))
      have FR := hid (H0.out.frame hlt 86400)
      have ct := R.out.cell hne HC.out
      have hsz : (w.setCell ⟨sb, 0, none⟩ (.int .i64 86400)).heap.size = w.heap.size := by simp
      have HT := hid (fun w => trimA (t.extract 2 t.size) ⟨#[48, 58]⟩ w (by rw [ByteArray.size_extract]; omega) (by decide) (by intro j b hb; match j, hb with
        | 0, hb => cases hb; decide
        | 1, hb => cases hb; decide))
      have q2 := fun w => run_from2 t h2 w
      have EZ := tz_text t
      clear e
      go_enter Tryz.func57, Tryz.ntmps57
      go_wp2_with fail
      refine (HT.out _).mono ?_
      rintro e w1 ⟨rfl, hb⟩
      have R1 := hid (R.out.stable hb)
      have F1 := hid (fun x hx hz => (hb.block x (by rw [hsz]; exact hz)).trans (FR.out x hx hz))
      clear hb HT
      go_wp2
      go_ret
      exact ⟨rfl, R1.out, F1.out⟩
    · have g2' : ¬ (n : Int) = 24 := by omega
      have e : okH t n = false := by unfold okH; simp [g1, g2]
      rw [e]
      clear e
      go_enter Tryz.func57, Tryz.ntmps57
      go_wp2
      go_ret
      exact ⟨rfl, R.out, FR.out⟩
theorem tlo2_any (w0 w : World) (sb n : Nat) (hn : n ≤ 99) (v : Nat → Int) (h0 : 0 ≤ v 1 ∧ v 1 ≤ 1000000) (hv : v 2 = v 1 + 60 * (n : Int)) (hlt : sb < w0.heap.size) (h : SBx w0 sb v 1 w) :
    Calls Tryz.prog 59 #[.int .i64 (n : Int), .pointer (some ⟨sb, 0, none⟩)] w fun e w' => e = .returned (.bool (decide (n ≤ 59))) ∧ SBx w0 sb v 2 w' ∧ ∀ x, w0.heap.size ≤ x → x < w.heap.size → w'.heap[x]? = w.heap[x]? := by
  have R := hid (h.set (v 1 + 60 * (n : Int)) hv)
  have FR := hid (h.frame hlt (v 1 + 60 * (n : Int)))
  obtain ⟨c0, f0, _⟩ := h.2.facts
  have H := hid h
  clear h hv
  obtain ⟨a, ha⟩ : ∃ a, v 1 = a := ⟨_, rfl⟩
  rw [ha] at R FR c0 h0
  clear ha
  by_cases g : n ≤ 59
  · have g' : (n : Int) ≤ 59 := by omega
    go_enter Tryz.func59, Tryz.ntmps59
    go_wp2
    go_ret
    exact ⟨ret_bool (by simp [g]), R.out, FR.out⟩
  · have g' : ¬ (n : Int) ≤ 59 := by omega
    go_enter Tryz.func59, Tryz.ntmps59
    go_wp2
    go_ret
    exact ⟨ret_bool (by simp), R.out, FR.out⟩
theorem tlo3_any (w0 w : World) (sb n : Nat) (hn : n ≤ 99) (v : Nat → Int) (h0 : 0 ≤ v 2 ∧ v 2 ≤ 1000000) (hv : v 3 = v 2 + (n : Int)) (hlt : sb < w0.heap.size) (h : SBx w0 sb v 2 w) :
    Calls Tryz.prog 60 #[.int .i64 (n : Int), .pointer (some ⟨sb, 0, none⟩)] w fun e w' => e = .returned (.bool (decide (n ≤ 59))) ∧ SBx w0 sb v 3 w' ∧ ∀ x, w0.heap.size ≤ x → x < w.heap.size → w'.heap[x]? = w.heap[x]? := by
  have R := hid (h.set (v 2 + (n : Int)) hv)
  have FR := hid (h.frame hlt (v 2 + (n : Int)))
  obtain ⟨c0, f0, _⟩ := h.2.facts
  have H := hid h
  clear h hv
  obtain ⟨a, ha⟩ : ∃ a, v 2 = a := ⟨_, rfl⟩
  rw [ha] at R FR c0 h0
  clear ha
  by_cases g : n ≤ 59
  · have g' : (n : Int) ≤ 59 := by omega
    go_enter Tryz.func60, Tryz.ntmps60
    go_wp2
    go_ret
    exact ⟨ret_bool (by simp [g]), R.out, FR.out⟩
  · have g' : ¬ (n : Int) ≤ 59 := by omega
    go_enter Tryz.func60, Tryz.ntmps60
    go_wp2
    go_ret
    exact ⟨ret_bool (by simp), R.out, FR.out⟩
end Go.Proofs.YtjpglgemnaknhaaGreatDoor
