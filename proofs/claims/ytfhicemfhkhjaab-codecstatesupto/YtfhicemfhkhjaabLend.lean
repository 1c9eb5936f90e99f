/-
  What is lent (a copy with marks in the room behind it), and whether it was kept.
-/
import Derived.Test.YtfhicemfhkhjaabNums
import Derived.Deep.QuietTactic
import Derived.BigQuiet
namespace Go.Proofs.Ytfhicemfhkhjaab
open Go.RowKit

/-- the marks behind what is lent -/
def marks : List UInt8 := [208, 209, 210, 211, 212, 213, 214, 215, 216]

theorem marks_len : marks.length = 9 := rfl

theorem marks_at (k : Nat) (h : k < marks.length) : (marks[k]'h).toNat = 208 + k := by
  have : ∀ k : Fin 9, (marks[k.1]'k.2).toNat = 208 + k.1 := by decide
  exact this ⟨k, h⟩

theorem mark_cell {w : World} {b : Nat} {l : List UInt8} (hc : ∀ j (hj : j < (l ++ marks).length), w.cell? ⟨b, j, none⟩ = some (.int .u8 ((l ++ marks)[j].toNat : Int))) (k : Nat) (h : k < 9) :
    w.cell? ⟨b, l.length + k, none⟩ = some (.int .u8 (208 + (k : Int))) := by
  have hk : l.length + k < (l ++ marks).length := by rw [List.length_append, marks_len]; omega
  have e : ((l ++ marks)[l.length + k]'hk).toNat = 208 + k := by
    rw [List.getElem_append_right (by omega), marks_at]
    omega
  rw [hc (l.length + k) hk, e]
  rfl

/-- v is lent: it reads as l, and the marks lie behind it -/
def Lent (w : World) (v : Value) (l : List UInt8) : Prop :=
  ∃ b cap, v = .slice (some ⟨b, 0, none⟩) l.length cap ∧ l.length + 9 ≤ cap ∧ cap ≤ maxLen ∧ ∀ j (hj : j < (l ++ marks).length), w.cell? ⟨b, j, none⟩ = some (.int .u8 ((l ++ marks)[j].toNat : Int))

theorem Lent.reads {w : World} {v : Value} {l : List UInt8} (h : Lent w v l) : Reads w v l := by
  obtain ⟨b, cap, rfl, h1, _, hc⟩ := h
  refine .inr ⟨b, 0, cap, rfl, by omega, fun j hj => ?_⟩
  have := hc j (by simp; omega)
  rw [List.getElem_append_left hj] at this
  rw [Nat.zero_add]
  exact this

theorem Lent.below {w w' : World} {v : Value} {l : List UInt8} (h : Lent w v l) (hb : Below w.heap.size w w') : Lent w' v l := by
  obtain ⟨b, cap, hv, h1, h2, hc⟩ := h
  exact ⟨b, cap, hv, h1, h2, fun j hj => below_cells hb _ _ (hc j hj)⟩

set_option maxRecDepth 100000 in
set_option maxHeartbeats 400000 in
theorem lent_any (v : Value) (l : List UInt8) (w : World) (hr : Reads w v l) (hl : l.length + 9 ≤ 140737488355328) :
    Calls Try.prog 27 #[v] w fun e w' => ∃ v', e = .returned v' ∧ Lent w' v' l ∧ Below w.heap.size w w' := by
  obtain ⟨ao, cap, rfl⟩ := hr.form
  go_enter Try.func27, Try.ntmps27
  go_wp2_with (at_builtin; refine wpList_app rfl (.tmp 5) (.tmp 6) 47 rfl Try.underlying47 u8info w.heap.size _ [] rfl (Owns.nil _ _) _ l rfl hr (by simp; omega) (Nat.le_refl _) ?hnext)
  case hnext =>
    intro v1 w1 ho1 hg1
    have hb1 := (Below.refl w.heap.size w).grown hg1 (Nat.le_refl _) (by intro k hk; cases hk)
    clear hr hg1
    go_wp2
    go_loopw [3, 4] (fun v i wr => ∃ k : Nat, k ≤ 9 ∧ i = .int .i64 k ∧ Owns wr w.heap.size v (l ++ marks.take k) ∧ Below w.heap.size w wr) (fun _ i _ => 9 - (intOf i).toNat)
    case atStart => exact ⟨0, by omega, rfl, by simpa using ho1, hb1⟩
    case round =>
      obtain ⟨k, hk, rfl, ho, hbl⟩ := hrel
      have hz := hbl.size
      clear ho1 hb1
      by_cases h : k < 9
      · have hlen : (marks.take k).length = k := by simp [marks]; omega
        go_wp2_with (at_builtin; refine wpList_app rfl (.tmp 12) (.tmp 16) 47 rfl Try.underlying47 u8info w.heap.size _ (l ++ marks.take k) rfl (ho.alloc _) _ [marks[k]'h] rfl (reads_one _ _ _ ?hx) ?hlen ?hbase ?hnext2)
        case hx => rw [marks_at k h]; omega
        case hlen => simp [hlen]; omega
        case hbase => simp; omega
        case hnext2 =>
          intro v2 w2 ho2 hg2
          go_wp2
          go_roundw
          case rel =>
            refine ⟨k + 1, by omega, by go_num, ?_, (hbl.alloc (by omega) _).grown hg2 (by simp; omega) ho.block_ge⟩
            rw [List.take_succ_eq_append_getElem h]
            exact ho2
          case measure => simp [intOf]; omega
      · have e9 : k = 9 := by omega
        subst e9
        have hm : marks.take 9 = marks := rfl
        rw [hm] at ho
        obtain ⟨g, cap', hv, hc1, hc2, hcell⟩ := ho.form (by simp [marks])
        have hml : (l ++ marks).length = l.length + 9 := by simp [marks]
        rw [hml] at hv hc1
        subst hv
        have HC : Hid (_) := hcell
        have HM : Hid (_) := hc2
        clear hcell hc2 ho hm
        go_wp2
        go_ret
        refine ⟨_, rfl, ⟨g, cap', ?_, hc1, HM.out, HC.out⟩, hbl⟩
        rfl

set_option maxRecDepth 100000 in
set_option maxHeartbeats 800000 in
theorem kept_any (v p : Value) (l : List UInt8) (w : World) (hv : Lent w v l) (hp : Reads w p l) (hl : l.length + 9 ≤ 140737488355328) :
    Calls Try.prog 29 #[v, p] w fun e w' => e = .returned (.bool true) ∧ w' = w := by
  have t1 := run_text (P := Try.prog) 47 9 Try.underlying47 Try.underlying5 Try.underlying9 hv.reads
  have t2 := run_text (P := Try.prog) 47 9 Try.underlying47 Try.underlying5 Try.underlying9 hp
  obtain ⟨ao, cap, rfl⟩ := hp.form
  obtain ⟨b, cap', rfl, hc1, hc2, hcell⟩ := hv
  have HC : Hid (_) := hcell
  clear hcell hp hc2
  go_enter Try.func29, Try.ntmps29
  go_wp2
  clear t1 t2
  go_loop [6] (fun i => ∃ k : Nat, k ≤ 9 ∧ i = .int .i64 k) (fun i => 9 - (intOf i).toNat)
  case atStart => exact ⟨0, by omega, rfl⟩
  case round =>
    obtain ⟨k, hk, rfl⟩ := hrel
    by_cases h : k < 9
    · have hc := mark_cell HC.out k h
      go_wp2
      go_round
      case rel => exact ⟨k + 1, by omega, by go_num⟩
      case measure => simp [intOf]; omega
    · go_wp2
      go_ret
      exact ⟨rfl, rfl⟩
end Go.Proofs.Ytfhicemfhkhjaab
