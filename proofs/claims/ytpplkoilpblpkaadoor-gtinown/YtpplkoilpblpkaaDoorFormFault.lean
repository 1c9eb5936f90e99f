/-
  The fault of a Value, whatever its kind.
-/
import Derived.Test.YtpplkoilpblpkaaDoorChars
import Derived.Test.YtpplkoilpblpkaaDoorDay
namespace Go.Proofs.YtpplkoilpblpkaaDoor
open Go.RowKit
set_option maxRecDepth 100000

/-- what fault answers for a Value of kind k -/
def fltK (k : Int) (l : List UInt8) : Int :=
  if k = 0 then fltE 18 18 dF (cF l).1 l
  else if k = 1 then fltE 14 14 dF (cF l).1 l
  else if k = 2 then fltE 13 13 dF (cF l).1 l
  else if k = 3 then fltE 6 6 dF (if DayOk (yy l) (mm l) (dd l) then 0 else 28) l
  else if k = 4 then fltE 2 2 dF 0 l
  else if k = 5 then fltE 1 8 dF 0 l
  else if k = 6 then fltE 6 6 dF 0 l
  else if k = 7 then fltE 1 15 dF 0 l
  else if k = 8 then fltE 6 6 dF 0 l
  else if k = 9 then fltE 1 20 chF 0 l
  else if k = 10 then fltE 1 25 chF 0 l
  else if k = 11 then fltE 1 30 chF 0 l
  else fltE 1 90 chF 0 l

theorem below_of_same {P : Program} {f : FuncId} {args : Array Value} {w : World} {v : Value} (h : Calls P f args w fun e w' => e = .returned v ∧ w' = w) : Calls P f args w fun e w' => e = .returned v ∧ Below w.heap.size w w' :=
  h.mono fun e w' h2 => ⟨h2.1, by rw [h2.2]; exact Below.refl _ _⟩

theorem formFault_any (k : Int) (s : ByteArray) (w : World) (h0 : 0 ≤ k) (h1 : k ≤ 12) (hs : s.size ≤ 9223372036854775807) :
    Calls Tryd.prog 31 #[frmOf k, .string s] w fun e w' => e = .returned (.int .i64 (fltK k s.data.toList)) ∧ Below w.heap.size w w' := by
  have HN : ∀ w, Calls Tryd.prog 46 #[.string s] w fun e w' => e = .returned (.tuple #[.int .i64 0, .int .i64 0]) ∧ Below w.heap.size w w' := fun w => below_of_same (noFault_any s w)
  have HC : s.size ≤ 100 → ∀ w, Calls Tryd.prog 44 #[.string s] w fun e w' => e = .returned (.tuple #[.int .i64 (cF s.data.toList).1, .int .i64 (cF s.data.toList).2]) ∧ Below w.heap.size w w' := fun h w => below_of_same (codeFault_any s w h)
  have hk : k = 0 ∨ k = 1 ∨ k = 2 ∨ k = 3 ∨ k = 4 ∨ k = 5 ∨ k = 6 ∨ k = 7 ∨ k = 8 ∨ k = 9 ∨ k = 10 ∨ k = 11 ∨ k = 12 := by omega
  rcases hk with rfl | rfl | rfl | rfl | rfl | rfl | rfl | rfl | rfl | rfl | rfl | rfl | rfl
  · exact faultDC 18 18 true s w hs _ _ (by omega) (fun _ h2 _ w => HC (by omega) w)
  · exact faultDC 14 14 true s w hs _ _ (by omega) (fun _ h2 _ w => HC (by omega) w)
  · exact faultDC 13 13 true s w hs _ _ (by omega) (fun _ h2 _ w => HC (by omega) w)
  · exact faultDD 6 6 true s w hs _ 0 (by omega) (fun h1 h2 _ w => dayFault_any s w (by omega))
  · exact faultDN 2 2 true s w hs 0 0 (by omega) (fun _ _ _ w => HN w)
  · exact faultDN 1 8 false s w hs 0 0 (by omega) (fun _ _ _ w => HN w)
  · exact faultDN 6 6 true s w hs 0 0 (by omega) (fun _ _ _ w => HN w)
  · exact faultDN 1 15 false s w hs 0 0 (by omega) (fun _ _ _ w => HN w)
  · exact faultDN 6 6 false s w hs 0 0 (by omega) (fun _ _ _ w => HN w)
  · exact faultCN 1 20 false s w hs 0 0 (by omega) (fun _ _ _ w => HN w)
  · exact faultCN 1 25 false s w hs 0 0 (by omega) (fun _ _ _ w => HN w)
  · exact faultCN 1 30 false s w hs 0 0 (by omega) (fun _ _ _ w => HN w)
  · exact faultCN 1 90 false s w hs 0 0 (by omega) (fun _ _ _ w => HN w)
end Go.Proofs.YtpplkoilpblpkaaDoor
