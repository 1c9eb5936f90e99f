/-
  The helpers of the disk's laws.
-/
import Derived.Test.YtjaopckdhohpbaaDoorDkc
namespace Go.Proofs.YtjaopckdhohpbaaDoor
open Go.RowKit
set_option maxRecDepth 100000

theorem PT.take {w : World} {ao : Option Addr} {c : Nat} {P : List Pt} (h : PT w (.slice ao P.length c) P) (m : Nat) (hm : m ≤ P.length) : PT w (.slice ao m c) (P.take m) := by
  obtain ⟨ao', c', hv, hc, hz, hr⟩ := h
  simp only [Value.slice.injEq] at hv
  obtain ⟨rfl, _, rfl⟩ := hv
  have hl : (P.take m).length = m := by rw [List.length_take]; omega
  refine ⟨ao, c, by rw [hl], by omega, hz, fun i hi => ?_⟩
  rw [hl] at hi
  have := hr i (by omega)
  simpa only [List.getElem_take] using this
theorem few_any (v : Value) (P : List Pt) (w : World) (hp : PT w v P) (hP : P.length ≤ 9223372036854775807) :
    Calls Tryd.prog 12 #[v] w fun e w' => (∃ v', e = .returned v' ∧ PT w v' (P.take 300)) ∧ w' = w := by
  obtain ⟨ao, c, rfl, hc, hz, hcell⟩ := hp
  have hPT : PT w (.slice ao P.length c) P := ⟨ao, c, rfl, hc, hz, hcell⟩
  by_cases h3 : 300 < P.length
  · have hI : (300 : Int) < (P.length : Int) := by omega
    obtain ⟨_, g, off, rfl, _⟩ := hcell 0 (by omega)
    have HT := hid (hPT.take 300 (by omega))
    have hc3 : 300 ≤ c := by omega
    clear hcell hPT
    go_enter Tryd.func12, Tryd.ntmps12
    go_wp2
    go_ret
    exact ⟨⟨_, rfl, HT.out⟩, rfl⟩
  · have hI : ¬ (300 : Int) < (P.length : Int) := by omega
    have HT := hid hPT
    clear hcell hPT
    go_enter Tryd.func12, Tryd.ntmps12
    go_wp2
    go_ret
    exact ⟨⟨_, rfl, by rw [List.take_of_length_le (by omega)]; exact HT.out⟩, rfl⟩
/-- up to the last flush -/
def bar (P : List Pt) : Nat → Nat
  | 0 => 0
  | n + 1 => if ((P[n]?).map (·.2.2)) = some true then n + 1 else bar P n
theorem bar_le (P : List Pt) (n : Nat) : bar P n ≤ n := by
  induction n with
  | zero => simp [bar]
  | succ n ih => unfold bar; split <;> omega
theorem opP_fl (p : Pt) : opP p = flO ↔ p.2.2 = true := by
  unfold opP
  cases h : p.2.2 with
  | true => simp
  | false =>
    simp only [Bool.false_eq_true, if_false, iff_false]
    intro e
    have := congrArg Prod.fst e
    simp only [flO] at this
    omega
theorem brr_is (P : List Pt) (n : Nat) : brr (P.map opP) n = bar P n := by
  induction n with
  | zero => rfl
  | succ n ih =>
    rw [brr, bar, ih, List.getElem?_map]
    cases hq : P[n]? with
    | none => simp
    | some p =>
      by_cases hf : p.2.2 = true
      · rw [if_pos (by simp [(opP_fl p).2 hf]), if_pos (by simp [hf])]
      · rw [if_neg (by simp only [Option.map_some, Option.some.injEq]; exact fun e => hf ((opP_fl p).1 e)), if_neg (by simpa using hf)]
/-- the byte of a sector -/
def lsP (n : Nat) (b : UInt8) (p : Pt) : UInt8 := if p.2.2 = false ∧ sct p.1 = n then p.2.1 else b
def lst (P : List Pt) (n : Nat) : UInt8 := P.foldl (lsP n) 0
theorem lst_snoc (P : List Pt) (p : Pt) (n : Nat) : lst (P ++ [p]) n = lsP n (lst P n) p := by simp [lst]
set_option maxHeartbeats 2000000 in
theorem lastOf_any (v : Value) (P : List Pt) (n : Nat) (w : World) (hp : PT w v P) (hP : P.length ≤ 1000000) :
    Calls Tryd.prog 19 #[v, .int .i64 (n : Int)] w fun e w' => e = .returned (.int .u8 ((lst P n).toNat : Int)) ∧ w' = w := by
  obtain ⟨ao, c, rfl, hc, _, hcell⟩ := hp
  have HC := hid hcell
  clear hcell
  go_enter Tryd.func19, Tryd.ntmps19
  go_wp2_with fail
  go_loop [5, 6] (fun b i => ∃ k : Nat, k ≤ P.length ∧ i = .int .i64 (k : Int) ∧ b = .int .u8 ((lst (P.take k) n).toNat : Int)) (fun _ i => P.length - (intOf i).toNat)
  case atStart => exact ⟨0, by omega, rfl, rfl⟩
  case round =>
    obtain ⟨k, hk, rfl, rfl⟩ := hrel
    by_cases hlt : k < P.length
    · have hI : (k : Int) < (P.length : Int) := by omega
      obtain ⟨⟨x0, x1⟩, g, off, hao, p0, p1, p2⟩ := HC.out k hlt
      subst hao
      have HT := hid (show lst (P.take (k + 1)) n = lsP n (lst (P.take k) n) P[k] by rw [List.take_add_one, List.getElem?_eq_getElem hlt, Option.toList_some, lst_snoc])
      obtain ⟨y, hy⟩ : ∃ y, P[k] = y := ⟨_, rfl⟩
      rw [hy] at p0 p1 p2 x0 x1 HT
      obtain ⟨x, b, fl⟩ := y
      simp only at p0 p1 p2 x0 x1
      unfold lsP at HT
      simp only at HT
      clear hy
      have HW := hid (fun w => within_any x w x0 x1)
      cases fl with
      | true =>
        rw [if_neg (by simp)] at HT
        go_wp2
        go_round
        case rel => exact ⟨k + 1, by omega, by go_num, by rw [HT.out]⟩
        case measure => simp [intOf]; omega
      | false =>
        by_cases hs : sct x = n
        · have hb : ((sct x : Int) == (n : Int)) = true := by rw [beq_iff_eq]; omega
          rw [if_pos ⟨rfl, hs⟩] at HT
          go_wp2_with fail
          refine (HW.out _).mono ?_
          rintro e wz ⟨rfl, hwz⟩
          have hws := hwz.symm
          clear hwz
          subst hws
          clear hs
          go_wp2
          go_round
          case rel => exact ⟨k + 1, by omega, by go_num, by rw [HT.out]⟩
          case measure => simp [intOf]; omega
        · have hb : ((sct x : Int) == (n : Int)) = false := by rw [beq_eq_false_iff_ne]; omega
          rw [if_neg (fun h => hs h.2)] at HT
          go_wp2_with fail
          refine (HW.out _).mono ?_
          rintro e wz ⟨rfl, hwz⟩
          have hws := hwz.symm
          clear hwz
          subst hws
          clear hs
          go_wp2
          go_round
          case rel => exact ⟨k + 1, by omega, by go_num, by rw [HT.out]⟩
          case measure => simp [intOf]; omega
    · have hI : ¬ (k : Int) < (P.length : Int) := by omega
      have HE := hid (show P.take k = P from List.take_of_length_le (by omega))
      go_wp2
      go_ret
      exact ⟨ret_int (by rw [HE.out]), rfl⟩
def sec (S : List UInt8) (n : Nat) : List UInt8 := (S.drop (n * 128)).take 128
end Go.Proofs.YtjaopckdhohpbaaDoor
