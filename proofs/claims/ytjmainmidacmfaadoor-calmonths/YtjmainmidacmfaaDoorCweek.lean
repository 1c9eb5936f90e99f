/-
  The program's own weeks: weekday, weekStart, yearWeeks, weekOf, WeekOf; the statements' own at.
-/
import Derived.Test.YtjmainmidacmfaaDoorCof
namespace Go.Proofs.YtjmainmidacmfaaDoor
open Go.RowKit
set_option maxRecDepth 100000

/-- the table still lies there, and nothing older than w0 has turned -/
def St (w0 w : World) : Prop := HasAh w ∧ Below w0.heap.size w0 w
theorem St.refl {w : World} (h : HasAh w) : St w w := ⟨h, Below.refl _ _⟩
theorem St.alloc {w0 w : World} (h : St w0 w) (o : _) : St w0 (w.alloc o) := ⟨h.1.alloc o, h.2.alloc h.2.size o⟩
theorem St.call {w0 w w' : World} (h : St w0 w) (hb : Below w.heap.size w w') : St w0 w' := ⟨h.1.below hb, h.2.trans (hb.mono h.2.size)⟩
theorem Box.later1 {w w' : World} {b : Nat} {y m d : Int} {o : _} (h : Box w b y m d) (hb : Below (w.alloc o).heap.size (w.alloc o) w') : Box w' b y m d := (h.later ((Below.refl _ _).alloc (Nat.le_refl _) _)).later hb
theorem Box.later2 {w w' : World} {b : Nat} {y m d : Int} {o o' : _} (h : Box w b y m d) (hb : Below ((w.alloc o).alloc o').heap.size ((w.alloc o).alloc o') w') : Box w' b y m d := (h.later ((Below.refl _ _).alloc (Nat.le_refl _) _)).later1 hb

/-- the week's number -/
def wkW (y n : Int) : Int := (thu n - ys (wkY y n)) / 7 + 1

/-- what WeekOf answers -/
def weekV (y m d : Int) : Value := if VD y m d then .tuple #[dV (wkY y (nb y m d)) (wkW y (nb y m d)) (wd (nb y m d) + 1), .int .i64 0] else .tuple #[dV 0 0 0, .int .i64 30]

theorem at_any (n : Int) (hx : -9223372036854775808 ≤ n ∧ n ≤ 9223372036854775807) (w : World) (hA : HasAh w) :
    Calls Tryd.prog 14 #[.int .i64 n] w fun e w' => e = .returned (dV (dY (wi n 0 3652424)) (dM (wi n 0 3652424)) (dD (wi n 0 3652424))) ∧ Below w.heap.size w w' := by
  have HA := hid hA
  have HW := hid (fun w => within_any n 0 3652424 hx (by omega) (by omega) (by omega) w)
  have hk := wi_in n 0 3652424 (by omega)
  generalize wi n 0 3652424 = k at *
  have HO := hid (fun w h => of_good k hk.1 hk.2 w h)
  clear hA hx
  generalize dY k = y at *
  generalize dM k = m at *
  generalize dD k = d at *
  unfold dV at *
  go_enter Tryd.func14, Tryd.ntmps14
  go_wp2_with fail
  refine (HW.out _).mono ?_
  rintro e w' ⟨rfl, rfl⟩
  go_wp2_with fail
  refine (HO.out _ (HA.out.alloc _)).mono ?_
  rintro e w1 ⟨rfl, hb1⟩
  obtain ⟨k0, k1, k2, hB, hz⟩ := date_cells w w1 _ _ _ hb1
  have hbx : Box w1 w.heap.size 0 0 0 := (Box.new w 0 0 0).later hb1
  obtain ⟨_, _, _, f0, f1, f2, _⟩ := hbx.facts
  obtain ⟨d0, d1, d2, _⟩ := ((hbx.put y m d).later ((Below.refl _ _).alloc (Nat.le_refl _) (.cells #[.int .i64 y, .int .i64 m, .int .i64 d] 36))).facts
  have hne2 : ¬ w.heap.size = w1.heap.size := by omega
  clear hb1 HO hbx
  go_wp2
  refine bodyPost_ret (by simp [results, Tryd.results14, go_sem, d0, d1, d2]; try rfl) rfl ?_
  exact ⟨rfl, by first
    | exact (((hB.alloc hB.size _).setCell (Nat.le_refl _) _).setCell (Nat.le_refl _) _).setCell (Nat.le_refl _) _
    | exact (((hB.setCell (Nat.le_refl _) _).setCell (Nat.le_refl _) _).setCell (Nat.le_refl _) _).alloc (by simpa using hB.size) _⟩
end Go.Proofs.YtjmainmidacmfaaDoor
