/-
  The first element that asks for another which is not there: lone; the byte behind a Value: passEnder.
-/
import Derived.Test.YtpplkoilpblpkaaDoorClash
namespace Go.Proofs.YtpplkoilpblpkaaDoor
open Go.RowKit
set_option maxRecDepth 100000

/-- does an element with this Ai want another? -/
def lnB (L : List El) (a : List UInt8) : Bool := decide (a = [48, 50]) && !hsB L [51, 55] || decide (a = [51, 55]) && !hsB L [48, 50]
/-- the place of the first one that does, or -1 -/
def loN (P : List UInt8 → Bool) : List El → Nat → Int
  | [], _ => -1
  | x :: t, k => if P x.1.data.toList then (k : Int) else loN P t (k + 1)
def loI (L : List El) : Int := loN (lnB L) L 0

theorem loN_none (P : List UInt8 → Bool) (L : List El) (k : Nat) (h : ∀ x ∈ L, P x.1.data.toList = false) : loN P L k = -1 := by
  induction L generalizing k with
  | nil => rfl
  | cons x t ih => unfold loN; rw [h x (by simp), ih _ (fun y hy => h y (by simp [hy]))]; rfl
theorem loN_some (P : List UInt8 → Bool) (L : List El) (k j : Nat) (hj : j < L.length) (h : ∀ i (hi : i < j), P (L[i]'(by omega)).1.data.toList = false) (hn : P L[j].1.data.toList = true) : loN P L k = ((k + j : Nat) : Int) := by
  induction L generalizing k j with
  | nil => simp at hj
  | cons x t ih =>
    unfold loN
    cases j with
    | zero => rw [if_pos (by simpa using hn)]; rfl
    | succ j =>
      rw [if_neg (by have := h 0 (by omega); simpa using this), ih (k + 1) j (by simpa using hj) (fun i hi => by have := h (i + 1) (by omega); simpa using this) (by simpa using hn)]
      congr 1
      omega

set_option maxHeartbeats 4000000 in
theorem lone_any (v : Value) (L : List El) (w : World) (hr : RE w v L) (hl : L.length ≤ 1000000) :
    Calls Tryd.prog 15 #[v] w fun e w' => e = .returned (.int .i64 (loI L)) ∧ Below w.heap.size w w' := by
  have HH : Hid (∀ b w1, Below w.heap.size w w1 → Calls Tryd.prog 32 #[v, .string b] w1 fun e w' => e = .returned (.bool (hsB L b.data.toList)) ∧ Below w1.heap.size w1 w') := fun b w1 h1 => has_any v L b w1 (hr.below h1) (by omega)
  rcases hr with ⟨rfl, ao, cap, rfl, _⟩ | ⟨b, off, cap, rfl, hcap, hcell⟩
  · clear HH
    go_enter Tryd.func15, Tryd.ntmps15
    go_wp2_with fail
    go_rounds 1
    go_ret
    exact ⟨rfl, Below.refl _ _⟩
  · have HC : Hid (_) := hcell
    clear hcell
    have H37 : Hid (∀ w1, Below w.heap.size w w1 → Calls Tryd.prog 32 #[.slice (some ⟨b, off, none⟩) L.length cap, .string ⟨#[51, 55]⟩] w1 fun e w' => e = .returned (.bool (hsB L [51, 55])) ∧ Below w1.heap.size w1 w') := fun w1 h => HH.out ⟨#[51, 55]⟩ w1 h
    have H02 : Hid (∀ w1, Below w.heap.size w w1 → Calls Tryd.prog 32 #[.slice (some ⟨b, off, none⟩) L.length cap, .string ⟨#[48, 50]⟩] w1 fun e w' => e = .returned (.bool (hsB L [48, 50])) ∧ Below w1.heap.size w1 w') := fun w1 h => HH.out ⟨#[48, 50]⟩ w1 h
    obtain ⟨t37, ht37⟩ : ∃ t, t = hsB L [51, 55] := ⟨_, rfl⟩
    obtain ⟨t02, ht02⟩ : ∃ t, t = hsB L [48, 50] := ⟨_, rfl⟩
    have HP : Hid (∀ a, lnB L a = (decide (a = [48, 50]) && !t37 || decide (a = [51, 55]) && !t02)) := fun a => by rw [ht37, ht02]; rfl
    rw [← ht37] at H37
    rw [← ht02] at H02
    clear HH ht37 ht02
    go_enter Tryd.func15, Tryd.ntmps15
    go_wp2_with fail
    go_loopw [7] (fun i wr => ∃ k : Nat, k ≤ L.length ∧ i = .int .i64 (k : Int) ∧ Below w.heap.size w wr ∧ ∀ j (hj : j < k) (hk : k ≤ L.length), lnB L (L[j]'(by omega)).1.data.toList = false) (fun i _ => L.length - (intOf i).toNat)
    case atStart => exact ⟨0, by omega, rfl, Below.refl _ _, fun j hj => by omega⟩
    case round =>
      obtain ⟨k, hk, rfl, hbl, hall⟩ := hrel
      have HA : Hid (_) := hall
      clear hall
      have hz := hbl.size
      by_cases hlt : k < L.length
      · have hcl := HC.out k hlt
        have c0 := below_cells hbl _ _ hcl.1
        have c1 := below_cells hbl _ _ hcl.2
        clear hcl
        obtain ⟨a, ha⟩ : ∃ a, a = (L[k]'hlt).1 := ⟨_, rfl⟩
        obtain ⟨x, hx⟩ : ∃ x, x = (L[k]'hlt).2 := ⟨_, rfl⟩
        rw [← ha] at c0
        rw [← hx] at c1
        have HN : Hid (_) := HP.out a.data.toList
        have HNa : Hid (_) := ha
        have hB1 : Below w.heap.size w (wr.alloc (.cells #[.string a, .string x] 36)) := hbl.alloc hz _
        have HB1 : Hid (_) := hB1
        clear ha hx hbl hB1
        by_cases h1 : a.data.toList = [48, 50]
        · have q1 : (a.toList == [48, 50]) = true := by rw [ByteArray.toList_eq, h1]; rfl
          have q2 : (a.toList == [51, 55]) = false := by rw [ByteArray.toList_eq, h1]; rfl
          have HV : Hid (_) := (show lnB L a.data.toList = !t37 by rw [HN.out, h1]; simp)
          clear h1 HN
          go_wp2_with fail
          refine (H37.out _ HB1.out).mono ?_
          rintro e w2 ⟨rfl, b2⟩
          have HB2 : Hid (_) := HB1.out.trans (b2.mono HB1.out.size)
          clear c0 c1
          have c0 : w2.cell? ⟨wr.heap.size, 0, none⟩ = some (.string a) := below_cells b2 _ _ (by simp)
          clear b2
          cases t37
          · go_wp2
            go_ret
            refine ⟨ret_int ?_, HB2.out⟩
            have := loN_some (lnB L) L 0 k hlt (fun i hi => HA.out i hi hk) (by rw [← HNa.out]; exact HV.out)
            rw [Nat.zero_add] at this
            exact this.symm
          · go_wp2
            go_roundw
            case rel =>
              refine ⟨k + 1, by omega, by go_num, HB2.out, fun j hj hk1 => ?_⟩
              by_cases e : j = k
              · subst e; rw [← HNa.out]; exact HV.out
              · exact HA.out j (by omega) (by omega)
            case measure => simp [intOf]; omega
        · have q1 : (a.toList == [48, 50]) = false := by rw [ByteArray.toList_eq]; exact beq_eq_false_iff_ne.2 h1
          by_cases h2 : a.data.toList = [51, 55]
          · have q2 : (a.toList == [51, 55]) = true := by rw [ByteArray.toList_eq, h2]; rfl
            have HV : Hid (_) := (show lnB L a.data.toList = !t02 by rw [HN.out, h2]; simp)
            clear h1 h2 HN
            go_wp2_with fail
            refine (H02.out _ HB1.out).mono ?_
            rintro e w2 ⟨rfl, b2⟩
            have HB2 : Hid (_) := HB1.out.trans (b2.mono HB1.out.size)
            clear c0 c1 b2
            cases t02
            · go_wp2
              go_ret
              refine ⟨ret_int ?_, HB2.out⟩
              have := loN_some (lnB L) L 0 k hlt (fun i hi => HA.out i hi hk) (by rw [← HNa.out]; exact HV.out)
              rw [Nat.zero_add] at this
              exact this.symm
            · go_wp2
              go_roundw
              case rel =>
                refine ⟨k + 1, by omega, by go_num, HB2.out, fun j hj hk1 => ?_⟩
                by_cases e : j = k
                · subst e; rw [← HNa.out]; exact HV.out
                · exact HA.out j (by omega) (by omega)
              case measure => simp [intOf]; omega
          · have q2 : (a.toList == [51, 55]) = false := by rw [ByteArray.toList_eq]; exact beq_eq_false_iff_ne.2 h2
            have HV : Hid (_) := (show lnB L a.data.toList = false by rw [HN.out]; simp [h1, h2])
            clear h1 h2 HN
            go_wp2
            go_roundw
            case rel =>
              refine ⟨k + 1, by omega, by go_num, HB1.out, fun j hj hk1 => ?_⟩
              by_cases e : j = k
              · subst e; rw [← HNa.out]; exact HV.out
              · exact HA.out j (by omega) (by omega)
            case measure => simp [intOf]; omega
      · go_wp2
        go_ret
        refine ⟨ret_int ?_, hbl⟩
        refine (loN_none _ _ _ fun x hx => ?_).symm
        obtain ⟨i, hi, rfl⟩ := List.mem_iff_getElem.1 hx
        exact HA.out i (by omega) hk
end Go.Proofs.YtpplkoilpblpkaaDoor
