/-
  plan: Point, the program's and the document's.
-/
import Derived.Test.YtgnnopjkbmbjbabFp0
import Derived.Test.YtgnnopjkbmbjbabPq0
import Derived.Laws.Externs
import Derived.Deep.RegionHeld3
namespace Go.Proofs.Ytgnnopjkbmbjbab
open Go.RowKit
set_option maxRecDepth 100000
set_option linter.unusedSimpArgs false

theorem upTo_any (b most : Nat) (w : World) : Calls Try.prog 19 #[.float .f64 b, .float .f64 most] w fun e w' => e = .returned (.bool (upB b most)) ∧ w' = w := by
  have E := hid (show upB b most = ((FloatKind.f64.format.order b 0 == some .gt || FloatKind.f64.format.order b 0 == some .eq) && (FloatKind.f64.format.order b most == some .lt || FloatKind.f64.format.order b most == some .eq)) from rfl)
  cases h1 : (FloatKind.f64.format.order b 0 == some .gt || FloatKind.f64.format.order b 0 == some .eq)
  all_goals
    rw [h1] at E
    go_enter Try.func19, Try.ntmps19
    go_wp2
    go_ret
    refine ⟨?_, rfl⟩
    rw [E.out]
    first | rfl | simp
theorem run_sqrtF {a r : Nat} (h : dbl.sqrt a = some r) (w : World) : (callFunc 40 #[.float .f64 a]).run Try.prog w = .ok (.value (.float .f64 r)) w := by
  have h' : FloatKind.f64.format.sqrt a = some r := h
  rw [run_callFunc_extern (e := Extern.MathSqrt.sqrt) Try.func40 (by kernel_rfl) (by kernel_rfl) (by kernel_rfl) (by kernel_rfl)]
  have e : Extern.MathSqrt.sqrt #[.float .f64 a] = pure (.float .f64 r) := by
    conv => lhs; whnf
    rw [h']
  rw [e]
  rfl
theorem sqrt_any {a r : Nat} (h : dbl.sqrt a = some r) (w : World) : Calls Try.prog 22 #[.float .f64 a] w fun e w' => e = .returned (.float .f64 r) ∧ w' = w := by
  have h1 := fun w => run_sqrtF h w
  clear h
  go_enter Try.func22, Try.ntmps22
  go_wp2
  go_ret
  exact ⟨rfl, rfl⟩
theorem run_ceilF {a : Nat} {s : Bool} {v : Nat} (h : FV a s v) (w : World) : (callFunc 38 #[.float .f64 a]).run Try.prog w = .ok (.value (.float .f64 (dbl.write ((rdF a).integral .up)))) w := by
  obtain ⟨m, ex, hr, _⟩ := h
  rw [run_callFunc_extern (e := Extern.MathFloor.toIntegral "math.archCeil" .up) Try.func38 (by kernel_rfl) (by kernel_rfl) (by kernel_rfl) (by kernel_rfl)]
  have h' : FloatKind.f64.decode a = .number s m ex := hr
  rw [hr]
  have e : Extern.MathFloor.toIntegral "math.archCeil" .up #[.float .f64 a] = pure (.float .f64 (FloatKind.f64.encode ((Ieee.Datum.number s m ex).integral .up))) := by
    conv => lhs; whnf
    rw [h']
  rw [e]
  rfl
theorem ceil_any {a : Nat} {s : Bool} {v : Nat} (h : FV a s v) (w : World) : Calls Try.prog 20 #[.float .f64 a] w fun e w' => e = .returned (.float .f64 (dbl.write ((rdF a).integral .up))) ∧ w' = w := by
  have h1 := fun w => run_ceilF h w
  clear h
  generalize dbl.write ((rdF a).integral .up) = r at *
  go_enter Try.func20, Try.ntmps20
  go_wp2
  go_ret
  exact ⟨rfl, rfl⟩
theorem row_at (w : World) (t : TypeId) (l : List Value) (j : Nat) (u : Value) (hj : l[j]? = some u) : (w.alloc (.cells l.toArray t)).cell? ⟨w.heap.size, j, none⟩ = some u := by
  rw [Lib.cell_of_heap (heap_alloc_new w _)]; simpa using hj
set_option maxHeartbeats 1000000 in
theorem demand_any {M D Z L x y q y2 z : Nat} (h : Zed M D Z L x y q y2 z) (w : World) : Calls Try.prog 21 #[.agg #[.float .f64 M, .float .f64 D, .float .f64 Z, .int .i64 (L : Int)]] w fun e w' => e = .returned (.float .f64 z) ∧ Below w.heap.size w w' := by
  have m1 := fun w => run_float_arith (P := Try.prog) w .mul 22 .f64 _ _ _ h.hx
  have m2 := fun w => run_float_arith (P := Try.prog) w .mul 22 .f64 _ _ _ h.hy
  have m3 := fun w => run_float_arith (P := Try.prog) w .mul 22 .f64 _ _ _ h.h2
  have m4 := fun w => run_float_arith (P := Try.prog) w .add 22 .f64 _ _ _ h.hz
  have SQ := hid (fun wx => sqrt_any h.hq wx)
  clear h
  have c0 := row_at w 24 [.float .f64 M, .float .f64 D, .float .f64 Z, .int .i64 (L : Int)]
  have x0 := c0 0 _ rfl
  have x1 := c0 1 _ rfl
  have x2 := c0 2 _ rfl
  have B := hid (alloc_below w (.cells #[.float .f64 M, .float .f64 D, .float .f64 Z, .int .i64 (L : Int)] 24))
  clear c0
  go_enter Try.func21, Try.ntmps21
  go_wp2_with fail
  generalize floatOfInt .f64 (L : Int) = l at *
  generalize w.alloc (.cells #[.float .f64 M, .float .f64 D, .float .f64 Z, .int .i64 (L : Int)] 24) = W at *
  generalize hbx : w.heap.size = bx at *
  have HBX := hid hbx
  clear hbx
  have SB := hid (fun wx => (SQ.out wx).mono (R' := fun e w' => e = .returned (.float .f64 q) ∧ Below wx.heap.size wx w') (fun e w' h => ⟨h.1, by rw [h.2]; exact Below.refl _ _⟩))
  have HK := hid (fun wx (h : Below W.heap.size W wx) => And.intro (below_cells h _ _ x0) (And.intro (below_cells h _ _ x1) (below_cells h _ _ x2)))
  have s00 : Below W.heap.size W W := Below.refl _ _
  have s0 : Below W.heap.size W W.drew := (Below.refl _ _).drew
  clear x0 x1 x2 SQ
  go_region_held3 (fun wx => wx.cell? ⟨bx, 0, none⟩ = some (.float .f64 M) ∧ wx.cell? ⟨bx, 1, none⟩ = some (.float .f64 D) ∧ wx.cell? ⟨bx, 2, none⟩ = some (.float .f64 Z)) (exact HK.out _ (by assumption)) (first
    | (go_at_call 22; refine (SB.out _).mono ?_; rintro e w3 ⟨rfl, s3⟩; have s4 := bel_step (by assumption) s3; clear s3))
  all_goals
    have x0 := (HK.out _ s4).1
    have BQ := hid (B.out.trans (s4.mono (by have := B.out.size; have := HBX.out; omega)))
    clear s4
    go_wp2
    go_ret
    exact ⟨rfl, by rw [HBX.out]; exact BQ.out⟩
end Go.Proofs.Ytgnnopjkbmbjbab
