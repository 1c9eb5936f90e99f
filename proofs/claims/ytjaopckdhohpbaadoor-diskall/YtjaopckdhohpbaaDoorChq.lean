/-
  Disk: what the iterator of Choices goes over.
-/
import Derived.Test.YtjaopckdhohpbaaDoorChp
import Derived.Test.YtjaopckdhohpbaaDoorRgD
namespace Go.Proofs.YtjaopckdhohpbaaDoor
open Go.RowKit Go.Shelf
set_option maxRecDepth 100000
set_option linter.unusedVariables false
set_option linter.unusedSimpArgs false
attribute [local go_sem] Oper.semAt_some

/-- the n-th choice, its list in a block that is new since A -/
def DcV (k : Nat) (n : Nat) (A : World) (v : Value) (W : World) : Prop := ∃ q kv, (chA k)[n]? = some q ∧ v = .agg #[kv, .int .i64 q.2.1, .int .i64 q.2.2] ∧ OwK W A.heap.size kv q.1
theorem OwK.sl {w : World} {base : Nat} {v : Value} {K : List Int} (h : OwK w base v K) : ∃ ao c, v = .slice ao K.length c := by
  rcases h.2 with ⟨h, h0⟩ | ⟨g, cap, cur, h, _⟩
  · exact ⟨none, 0, by rw [h, h0]⟩
  · exact ⟨_, cap, h⟩
theorem yield_any {m n l : Nat} {args : Array Value} {W : World} {R : Ending → World → Prop} (h : YieldAt Fence.wide m Tryd.prog l args W R) : YieldAt Fence.wide n Tryd.prog l args W R := by
  obtain ⟨fn, tmps, assign, body, h1, h2⟩ := h
  exact ⟨fn, tmps, assign, body, h1, h2.1, fun c cs _ => h2.2 c cs (room_wide _)⟩
theorem shl_one : ∀ k : Fin 11, wrap64 ((2 : Int) ^ k.1) = ((2 ^ k.1 : Nat) : Int) := by decide +kernel
set_option maxHeartbeats 4000000 in
theorem whole_any (k B0 l : Nat) (hk : k ≤ 10) (J Jx : Nat → World → Prop) (z : Nat) (W : World) (hB : B0 ≤ W.heap.size) (hz : z ≤ W.heap.size)
    (hY : ∀ n v A W1, J n A → n < (chA k).length → Below A.heap.size A W1 → DcV k n A v W1 → z ≤ A.heap.size → YieldAt Fence.wide 3 Tryd.prog l #[v] W1 fun e W' =>
      (e = .returned (.bool true) ∧ J (n + 1) W' ∧ KpW B0 z 0 W1 W') ∨ (e = .returned (.bool false) ∧ Jx (n + 1) W' ∧ KpW B0 z 0 W1 W')) (h0 : J 0 W) :
    CallsIn Fence.wide 4 Tryd.prog 30 #[.int .i64 (k : Int), .func (.yield l) #[] #[]] W fun e W' => (e = .returned (.bool true) ∧ J (2 ^ k) W' ∧ KpB B0 W W' ∧ W.heap.size ≤ W'.heap.size) ∨ (e = .returned (.bool false) ∧ ∃ n, Jx n W') := by
  have HY := hid hY
  have HP := hid places_any
  have h2 : 2 ^ k ≤ 1024 := by
    have : 2 ^ k ≤ 2 ^ 10 := Nat.pow_le_pow_right (by omega) hk
    omega
  have hsh := shl_one ⟨k, by omega⟩
  simp only [] at hsh
  obtain ⟨N, hN⟩ : ∃ N, N = 2 ^ k := ⟨_, rfl⟩
  have HN := hid hN
  rw [← hN] at hsh h2 ⊢
  have HW := hid (fun s (hs : s < N) => at_whole k s (by rw [← HN.out]; exact hs))
  have HWl := hid (show N ≤ (chA k).length by rw [HN.out]; unfold chA; rw [List.length_append, chW_len]; omega)
  clear hY hN
  refine callsIn_of_wp Tryd.func30 rfl trivial ?_ rfl
  simp only [Tryd.ntmps30, List.size_toArray, List.length_cons, List.length_nil, Nat.reduceAdd, Nat.reduceSub, Array.replicate_succ, Array.replicate_zero, List.push_toArray, List.append_toArray, List.nil_append, List.cons_append]
  gi_wp2_with fail
  rw [hsh]
  gi_loopw [8] (fun v wr => ∃ s : Nat, s ≤ N ∧ v = .int .i64 (s : Int) ∧ J s wr ∧ KpB B0 W wr ∧ W.heap.size ≤ wr.heap.size) (fun v _ => N - (intOf v).toNat)
  case atStart => exact ⟨0, Nat.zero_le _, rfl, h0, KpB.refl _ _, Nat.le_refl _⟩
  case round =>
    obtain ⟨s, hs, rfl, hJs, hkp, hsz⟩ := hrel
    have HK := hid hkp
    have HJs := hid hJs
    have HZ := hid hsz
    clear hJs hkp hsz hsh
    by_cases hlt : s < N
    · have hI : (s : Int) < (N : Int) := by omega
      have hdI : decide (s < N) = true := by simp; exact hlt
      have HL := hid hlt
      have HD := hid (HP.out s wr (by omega))
      clear hlt
      gi_wp2_with fail
      refine ⟨trivial, (callsIn_wide.2 HD.out).mono ?_⟩
      rintro e w3 ⟨⟨v, rfl, ho⟩, hb3⟩
      obtain ⟨vo, vc, hv⟩ := ho.sl
      subst hv
      obtain ⟨fn, tmps, assign, body, hy, hR⟩ := yield_any (n := 3) (HY.out s (.agg #[.slice vo (pl s 10).length vc, .int .i64 (-1), .int .i64 0]) wr w3 HJs.out (by have := HL.out; have := HWl.out; omega) hb3 ⟨_, _, HW.out s HL.out, rfl, ho⟩ (by have := HZ.out; omega))
      have HB3 := hid hb3
      clear hb3 ho
      gi_wp2_with fail
      refine hR.mono ?_
      rintro e W3 (⟨rfl, hJ3, hk3⟩ | ⟨rfl, hJx3, hk3⟩)
      · have HK3 := hid (show KpB B0 W W3 from fun i hi => (hk3.block i (.inl hi)).trans ((HB3.out.block i (by have := HZ.out; omega)).trans (HK.out i hi)))
        have HZ3 := hid (show W.heap.size ≤ W3.heap.size by have := hk3.size; have := HB3.out.size; have := HZ.out; omega)
        have HJ3 := hid hJ3
        clear hJ3 hk3 hy hR
        gi_wp2
        go_roundw
        case rel => exact ⟨s + 1, HL.out, by go_num, HJ3.out, HK3.out, HZ3.out⟩
        case measure => have := HL.out; simp [intOf]; omega
      · have HJx := hid hJx3
        clear hy hR hJx3 hk3
        gi_wp2
        go_ret
        exact .inr ⟨rfl, _, HJx.out⟩
    · have hI : ¬ (s : Int) < (N : Int) := by omega
      have hdI : decide (s < N) = false := by simp; omega
      have HX2 := hid (show J N wr by have : s = N := by omega
                                      rw [← this]; exact HJs.out)
      clear hlt
      gi_wp2
      go_ret
      exact .inl ⟨rfl, HX2.out, HK.out, HZ.out⟩
end Go.Proofs.YtjaopckdhohpbaaDoor
