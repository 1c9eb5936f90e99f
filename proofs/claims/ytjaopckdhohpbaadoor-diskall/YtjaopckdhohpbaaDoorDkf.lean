/-
  within up to a bound; bytes that read alike; Durable of any disk; At of a fresh disk.
-/
import Derived.Test.YtjaopckdhohpbaaDoorDke
namespace Go.Proofs.YtjaopckdhohpbaaDoor
open Go.RowKit
set_option maxRecDepth 100000

/-- a number brought to 0 .. m -/
def wth (x : Int) (m : Nat) : Nat := ((if x < 0 then -(x + 1) else x) % ((m : Int) + 1)).toNat
theorem wth_le (x : Int) (m : Nat) : wth x m ≤ m := by
  unfold wth
  have h1 := Int.emod_lt_of_pos (if x < 0 then -(x + 1) else x) (show (0 : Int) < (m : Int) + 1 by omega)
  omega
theorem wth_cast (x : Int) (m : Nat) : (wth x m : Int) = (if x < 0 then -(x + 1) else x) % ((m : Int) + 1) := by
  unfold wth
  have h1 := Int.emod_nonneg (if x < 0 then -(x + 1) else x) (show ((m : Int) + 1) ≠ 0 by omega)
  omega
set_option maxHeartbeats 1000000 in
theorem within_to (x : Int) (m : Nat) (w : World) (hm : m ≤ 1000000) (h0 : -9223372036854775808 ≤ x) (h1 : x ≤ 9223372036854775807) :
    Calls Tryd.prog 13 #[.int .i64 x, .int .i64 0, .int .i64 (m : Int)] w fun e w' => e = .returned (.int .i64 (wth x m : Int)) ∧ w' = w := by
  have hl := wth_le x m
  have hz : ((m : Int) + 1) ≠ 0 := by omega
  by_cases hx : x < 0
  · have hm : (-(x + 1)).tmod ((m : Int) + 1) = (wth x m : Int) := by rw [wth_cast, if_pos hx, Int.tmod_eq_emod_of_nonneg (by omega)]
    go_enter Tryd.func13, Tryd.ntmps13
    go_wp2
    go_ret
    exact ⟨rfl, rfl⟩
  · have hm : x.tmod ((m : Int) + 1) = (wth x m : Int) := by rw [wth_cast, if_neg hx, Int.tmod_eq_emod_of_nonneg (by omega)]
    go_enter Tryd.func13, Tryd.ntmps13
    go_wp2
    go_ret
    exact ⟨rfl, rfl⟩
set_option maxHeartbeats 4000000 in
theorem bytes_true (u v : Value) (l : List UInt8) (w : World) (hu : Reads w u l) (hv : Reads w v l) (h0 : 0 < l.length) (hl : l.length ≤ 1000000) :
    Calls Tryd.prog 20 #[u, v] w fun e w' => e = .returned (.bool true) ∧ Below w.heap.size w w' := by
  obtain ⟨g, off, c, rfl, hc, hcell⟩ := hu.here h0
  obtain ⟨g', off', c', rfl, hc', hcell'⟩ := hv.here h0
  have HC := hid hcell
  have HC' := hid hcell'
  clear hu hv hcell hcell'
  go_enter Tryd.func20, Tryd.ntmps20
  go_wp2_with fail
  go_loopw [5] (fun i wx => ∃ k : Nat, k ≤ l.length ∧ i = .int .i64 (k : Int) ∧ Below w.heap.size w wx) (fun i _ => l.length - (intOf i).toNat)
  case atStart => exact ⟨0, by omega, rfl, Below.refl _ _⟩
  case round =>
    obtain ⟨k, hk, rfl, hb⟩ := hrel
    by_cases hlt : k < l.length
    · have hI : (k : Int) < (l.length : Int) := by omega
      have c0 := below_cells hb _ _ (HC.out k hlt)
      have c1 := below_cells hb _ _ (HC'.out k hlt)
      go_wp2_with fail
      go_quiet (fail)
      go_wp2
      go_round
      case rel => exact ⟨k + 1, by omega, by go_num, below_drewN hb nq⟩
      case measure => simp [intOf]; omega
    · have hI : ¬ (k : Int) < (l.length : Int) := by omega
      go_wp2
      go_ret
      exact ⟨rfl, hb⟩
set_option maxHeartbeats 2000000 in
theorem durable_of (base d f s cap : Nat) (tail : List Value) (F S : List UInt8) (dv : Value) (O : List Opn) (w : World) (hfl : HasFl w) (h : DK w base d f s cap tail F S dv O) (hok : OkO F.length O) (hO : O.length ≤ 65536) (hF0 : 0 < F.length) (hF : F.length ≤ 1000000) :
    Calls Tryd.prog 15 #[.pointer (some ⟨d, 0, none⟩)] w fun e w' => (∃ v', e = .returned v' ∧ Reads w' v' (atI F O O.length [] (-1) 0)) ∧ Below w.heap.size w w' := by
  have HC := hid (count_any base d f s cap tail F S dv _ w h)
  have HA := hid (at_any base d f s cap O.length tail F S dv (.slice none 0 0) O [] (-1) 0 w hfl h hok (by omega) hO hF0 hF (RI.nil w) (by simp) (by omega) (by omega))
  clear h hfl
  go_enter Tryd.func15, Tryd.ntmps15
  go_wp2_with fail
  refine HC.out.mono ?_
  rintro e wz ⟨rfl, hwz⟩
  have hws := hwz.symm
  clear hwz HC
  subst hws
  go_wp2_with fail
  refine HA.out.mono ?_
  rintro e w1 ⟨⟨v', rfl, hr⟩, hb⟩
  have H1 := hid hr
  have B1 := hid hb
  clear hr hb
  go_wp2
  go_ret
  exact ⟨⟨_, rfl, H1.out⟩, B1.out⟩
theorem pad_full (l : List UInt8) (n : Nat) (h : l.length = n) : pad l n = l := by
  unfold pad splice
  simp [zs, h]
theorem at_fresh (im : List UInt8) : atI im [] 0 [] (-1) 0 = im := by simp [atI, brr, layN]
theorem at_loose (im : List UInt8) (o : Opn) (h : o ≠ flO) : atI im [o] 1 [] (-1) 0 = im := by
  have hb : brr [o] 1 = 0 := by simp [brr, h]
  unfold atI
  rw [layN_none, hb]
  simp [layN]
theorem atI_len (F : List UInt8) (O : List Opn) (n : Nat) (K : List Int) (T B : Int) (hok : OkO F.length O) (hop : ∀ o ∈ O, o.2.length = 128) : (atI F O n K T B).length = F.length := by
  have h : ∀ o ∈ O, o.2.length = 128 ∧ OkN F.length o := fun o ho => ⟨hop o ho, hok o ho⟩
  unfold atI
  refine layN_len (layN_len rfl (fun o ho => h o (List.mem_of_mem_take ho)) _) (fun o ho => h o (List.mem_of_mem_take (List.mem_of_mem_drop ho))) _
end Go.Proofs.YtjaopckdhohpbaaDoor
