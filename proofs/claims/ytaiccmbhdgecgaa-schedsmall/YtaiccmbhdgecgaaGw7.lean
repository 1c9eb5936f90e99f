/-
  Few, Mixes: what they answer.
-/
import Derived.Test.YtaiccmbhdgecgaaGw5
import Derived.Test.YtaiccmbhdgecgaaGw6
import Derived.Test.YtaiccmbhdgecgaaAl3
namespace Go.Proofs.Ytaiccmbhdgecgaa
open Go.RowKit Go.Shelf
set_option maxRecDepth 100000
set_option linter.unusedVariables false
set_option linter.unusedSimpArgs false
attribute [local go_sem] Oper.semAt_some

/-- has it few mixes -/
def smR (R : List Int) : Bool := decide ((cntA R).2 = 0) && decide ((cntA R).1 ≤ 1048576)
/-- what Few goes over -/
def GL (R : List Int) (mo : Int) : List (List Nat) := if smR R && !decide (mo < 0) then FL (tN2 (nats R)) (nats R) (-1) mo else []
/-- what Few answers -/
def FwQ (R : List Int) (mo : Int) (w' : World) (e : Ending) : Prop := ∃ gf lb c, e = .returned (.func (.func gf) #[] lb) ∧ (∀ args w, (callFunc gf args).run Try.prog w = .ok (.enter gf args) w) ∧ ∀ Bk, SeqC gf lb c w'.heap.size Bk (GL R mo).length (FwV (GL R mo)) w'
theorem none_seqC (B0 Bk : Nat) (D : Nat → World → Value → World → Prop) (w : World) : SeqC 38 #[] 0 B0 Bk 0 D w := fun l J Jx W hW hB hJ hJx hY h0 => by
  refine callsIn_of_wp Try.func38 rfl trivial ?_ rfl
  simp only [Try.ntmps38, List.size_toArray, List.length_cons, List.length_nil, Nat.reduceAdd, Nat.reduceSub, Array.replicate_succ, Array.replicate_zero, List.push_toArray, List.append_toArray, List.nil_append, List.cons_append]
  have H0 := hid h0
  clear hY hJ h0 hJx
  gi_wp2
  go_end0
  exact ⟨⟨_, rfl⟩, .inl H0.out⟩
theorem fwq_none {R : List Int} {mo : Int} (h : (smR R && !decide (mo < 0)) = false) (w' : World) : FwQ R mo w' (.returned (.func (.func 38) #[] #[])) := by
  refine ⟨_, _, 0, rfl, enters_of Try.func38 (by kernel_rfl) rfl, ?_⟩
  have : GL R mo = [] := by unfold GL; rw [h]; rfl
  intro Bk
  rw [this]
  exact none_seqC _ _ _ _
set_option maxHeartbeats 2000000 in
theorem few_any (v : Value) (R : List Int) (mo : Int) (w : World) (hr : RI w v R) (hl : R.length ≤ 9223372036854775807) (hm : -9223372036854775808 ≤ mo ∧ mo ≤ 9223372036854775807) :
    Calls Try.prog 15 #[v, .int .i64 mo] w fun e w' => FwQ R mo w' e ∧ Below w.heap.size w w' := by
  have hmf : ∀ (fn : Fn) (first cap : Array Value) (w : World), (Instr.makeFunc fn first cap).run Try.prog w = .ok (.func fn first cap) w := fun _ _ _ _ => rfl
  have HC := hid (fun W (hb : Below w.heap.size w W) => countR_any v R W (RI.below (w := w) hr hb) hl)
  have HR := hid hr
  obtain ⟨ao, cap, hv⟩ := hr.len0
  subst hv
  clear hr
  obtain ⟨W1, hW1⟩ : ∃ W1, w.alloc (.cells #[.int .i64 mo] 3) = W1 := ⟨_, rfl⟩
  have hb1 : Below w.heap.size w W1 := by rw [← hW1]; exact (Below.refl _ _).alloc (Nat.le_refl _) _
  have HB1 := hid hb1
  have hi1 : IBox W1 w.heap.size mo := by rw [← hW1]; exact heap_alloc_new w _
  have c1 := hi1.facts.1
  have HI1 := hid hi1
  have HC1 := hid (HC.out W1 hb1)
  clear hb1 hi1 HC
  go_enter Try.func15, Try.ntmps15
  go_wp2_with fail
  refine Calls.mono HC1.out ?_
  rintro e w2 ⟨rfl, hw2⟩
  have hws := hw2.symm
  clear hw2
  subst hws
  clear HC1
  obtain ⟨cn, hcn⟩ : ∃ cn, cntA R = cn := ⟨_, rfl⟩
  rw [hcn]
  obtain ⟨n0, e0⟩ := cn
  have HCN := hid hcn
  clear hcn
  by_cases he : e0 = 0
  · subst he
    by_cases hneg : mo < 0
    · have HF := hid (fwq_none (R := R) (mo := mo) (by rw [decide_eq_true hneg]; simp))
      have hdn : decide (mo < 0) = true := decide_eq_true hneg
      go_wp2
      go_ret
      exact ⟨HF.out _, HB1.out⟩
    · have hdn : decide (mo < 0) = false := decide_eq_false hneg
      by_cases hbig : 1048576 < n0
      · have HF := hid (fwq_none (R := R) (mo := mo) (by unfold smR; rw [HCN.out, decide_eq_false (show ¬ n0 ≤ 1048576 by omega)]; simp))
        have hdb : decide (1048576 < n0) = true := decide_eq_true hbig
        go_wp2
        go_ret
        exact ⟨HF.out _, HB1.out⟩
      · have hdb : decide (1048576 < n0) = false := decide_eq_false hbig
        obtain ⟨N, hN, a1, a2, a3, a4, a5⟩ := cnt_ok (show (cntA R).2 = 0 by rw [HCN.out])
        have HG := hid (show GL R mo = FL (tN2 N) N (-1) mo by
          unfold GL smR
          rw [HCN.out, decide_eq_true (show n0 ≤ 1048576 by omega), decide_eq_false hneg, hN, iN_nats]
          rfl)
        have HA := hid (And.intro a1 (And.intro a2 a3))
        have HCl := hid (show Calls Try.prog 33 #[.slice ao R.length cap] W1 fun e w' => (∃ v', e = .returned v' ∧ OI w' W1.heap.size v' (iN N)) ∧ Below W1.heap.size W1 w' by rw [← hN]; exact le_clone_any _ R W1 (HR.out.below HB1.out) (by rw [hN, iN_len]; omega))
        clear hN a1 a2 a3 a4 a5
        go_wp2_with fail
        refine Calls.mono HCl.out ?_
        rintro e w3 ⟨⟨v', rfl, ho⟩, hb3⟩
        obtain ⟨a5, c5, hv5⟩ := ho.reads.len0
        rw [iN_len] at hv5
        subst hv5
        obtain ⟨W4, hW4⟩ : ∃ W4, w3.alloc (.cells #[.slice a5 N.length c5] 22) = W4 := ⟨_, rfl⟩
        have hz1 := HI1.out.facts.2.2
        have hzb := hb3.size
        have HX := hid (show Boxed W4 w3.heap.size 22 (.slice a5 N.length c5) ∧ IBox W4 w.heap.size mo ∧ OI W4 W1.heap.size (.slice a5 N.length c5) (iN N) ∧ Below w.heap.size w W4 ∧ W4.heap.size = w3.heap.size + 1 by
          rw [← hW4]
          refine ⟨Boxed.new w3 _ _, ?_, ho.alloc _, (HB1.out.trans (hb3.mono HB1.out.size)).alloc (by have := HB1.out.size; omega) _, by simp⟩
          exact (Lib.alloc_old _ _ _ (by omega)).trans ((hb3.block _ hz1).trans HI1.out))
        clear ho hb3 HCl
        go_wp2
        go_ret
        refine ⟨⟨_, _, 8, rfl, enters_of Try.func39 (by kernel_rfl) rfl, ?_⟩, HX.out.2.2.2.1⟩
        intro Bk
        rw [HG.out]
        have hz4 := HX.out.2.2.2.2
        exact few_seq w3.heap.size w.heap.size _ Bk _ N mo _ HA.out.1 HA.out.2.1 HA.out.2.2 (by omega) hm.2 (by omega) (by omega) HX.out.1 HX.out.2.1 HX.out.2.2.1.reads (Nat.le_refl _) (fun W hb => HX.out.2.2.1.reads.below hb)
  · have HF := hid (fwq_none (R := R) (mo := mo) (by unfold smR; rw [HCN.out, decide_eq_false (show ¬ e0 = 0 from he)]; simp))
    have heb : (e0 == 0) = false := by simpa using he
    go_wp2
    go_ret
    exact ⟨HF.out _, HB1.out⟩
theorem mixes_any (v : Value) (R : List Int) (w : World) (hr : RI w v R) (hl : R.length ≤ 9223372036854775807) :
    Calls Try.prog 14 #[v] w fun e w' => FwQ R 24 w' e ∧ Below w.heap.size w w' := by
  have H := hid (few_any v R 24 w hr hl (by omega))
  obtain ⟨ao, cap, hv⟩ := hr.len0
  subst hv
  clear hr
  go_enter Try.func14, Try.ntmps14
  go_wp2_with fail
  refine Calls.mono H.out ?_
  rintro e w2 ⟨⟨gf, lb, c, rfl, hq⟩, hb⟩
  have HQ := hid hq
  have HB := hid hb
  clear hq hb H
  go_wp2
  go_ret
  exact ⟨⟨gf, lb, c, rfl, HQ.out⟩, HB.out⟩
end Go.Proofs.Ytaiccmbhdgecgaa
