/-
  GtinPacks: the law's own walk, out of the contracts.
-/
import Derived.Test.YthpdimhkgkefhaaRefPack
namespace Go.Proofs.Ythpdimhkgkefhaa
open Go.RowKit
set_option maxRecDepth 100000

theorem packs_any (s : ByteArray) (v : Int) (w : World) (hs : s.size ≤ 9223372036854775807) :
    Calls Try.prog 6 #[.string s, .int .i64 v] w fun e w' => e = .returned (.bool true) ∧ Below w.heap.size w w' := by
  have H1 : Hid (_) := pack_any s v w hs
  have H2 : Hid (∀ w, Calls Try.prog 12 #[.string s, .int .i64 v] w fun e w' => e = .returned (.tuple #[.string ⟨(pckT s.data.toList v).toArray⟩, .int .i64 (pckE s.data.toList v)]) ∧ Below w.heap.size w w') := fun w => refPack_any s v w
  generalize (⟨(pckT s.data.toList v).toArray⟩ : ByteArray) = t at H1 H2
  generalize pckE s.data.toList v = q at H1 H2
  clear hs
  go_enter Try.func6, Try.ntmps6
  go_wp2_with fail
  refine Calls.mono H1.out ?_
  rintro e w1 ⟨rfl, hb1⟩
  have hz := hb1.size
  go_wp2_with fail
  refine (H2.out w1).mono ?_
  rintro e w2 ⟨rfl, hb2⟩
  go_wp2
  go_ret
  exact ⟨rfl, hb1.trans (hb2.mono hz)⟩
end Go.Proofs.Ythpdimhkgkefhaa
