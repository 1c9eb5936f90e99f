/-
  What the functions on numbers do to memory: one contract a function.
-/
import Derived.Test.YtghkfhbjfmdnmaaBytes
import Derived.Test.YtghkfhbjfmdnmaaGroups
import Derived.Laws.BitsAllLaws
namespace Go.Proofs.Ytghkfhbjfmdnmaa
open Go.RowKit

theorem u8info : (Try.prog.info? 5).map (fun i => (i.zero, i.size, i.bytes)) = some (some (.int .u8 0), 1, 1) := by kernel_rfl

set_option maxRecDepth 100000 in
set_option maxHeartbeats 400000 in
theorem fresh_any (v : Value) (l : List UInt8) (room : Int) (w : World) (hr : Reads w v l) (h0 : 0 ≤ room) (h1 : room ≤ 140737488355328) (hl : l.length ≤ 140737488355328) :
    Calls Try.prog 22 #[v, .int .i64 room] w fun e w' => ∃ v', e = .returned v' ∧ Owns w' w.heap.size v' l ∧ Below w.heap.size w w' := by
  obtain ⟨ao, cap, rfl⟩ := hr.form
  go_enter Try.func22, Try.ntmps22
  go_wp2_with (at_make; refine wpList_mk rfl _ _ 22 rfl Try.underlying22 u8info w.heap.size .i64 .i64 _ rfl rfl ?hC ?b2 (Nat.le_refl _) ?hnext)
  case hC => omega
  case b2 => omega
  case hnext =>
    intro v1 w1 ho1 hg1
    have hb1 := (Below.refl w.heap.size w).grown hg1 (Nat.le_refl _) (by intro k hk; cases hk)
    have hz := hb1.size
    have hr1 := hr.below hb1
    go_wp2_with (at_builtin; refine wpList_app rfl _ _ 22 rfl Try.underlying22 u8info w.heap.size _ [] rfl ho1 _ l rfl hr1 (by simp; omega) hz ?hnext2)
    case hnext2 =>
      intro v2 w2 ho2 hg2
      go_wp2
      go_ret
      exact ⟨v2, rfl, ho2, hb1.grown hg2 hz ho1.block_ge⟩

set_option maxRecDepth 100000 in
set_option maxHeartbeats 400000 in
theorem joined_any (va vb : Value) (l m : List UInt8) (w : World) (ha : Reads w va l) (hb : Reads w vb m) (hl : l.length + m.length ≤ 140737488355328) :
    Calls Try.prog 23 #[va, vb] w fun e w' => ∃ v', e = .returned v' ∧ Owns w' w.heap.size v' (l ++ m) ∧ Below w.heap.size w w' := by
  go_enter Try.func23, Try.ntmps23
  go_wp2_with (at_builtin; refine wpList_app rfl (.tmp 6) (.tmp 7) 22 rfl Try.underlying22 u8info w.heap.size _ [] rfl (Owns.nil _ _) _ l rfl ha (by simp; omega) (Nat.le_refl _) ?hnext)
  case hnext =>
    intro v1 w1 ho1 hg1
    have hb1 := (Below.refl w.heap.size w).grown hg1 (Nat.le_refl _) (by intro k hk; cases hk)
    have hz := hb1.size
    go_wp2_with (at_builtin; refine wpList_app rfl (.tmp 9) (.tmp 10) 22 rfl Try.underlying22 u8info w.heap.size _ l rfl ho1 _ m rfl (hb.below hb1) (by omega) hz ?hnext2)
    case hnext2 =>
      intro v2 w2 ho2 hg2
      go_wp2
      go_ret
      exact ⟨v2, rfl, ho2, hb1.grown hg2 hz ho1.block_ge⟩

end Go.Proofs.Ytghkfhbjfmdnmaa
