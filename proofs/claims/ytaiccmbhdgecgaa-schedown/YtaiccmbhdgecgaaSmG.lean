/-
  Gw5: Few: what its iterator goes over.
  Gw7: Few, Mixes: what they answer.
  Gw9: SchedSmall: the first of all mixes that is alike is the least (pure).
  Gwa: SchedRise: what the sequences go over rises strictly (pure).
-/
import Derived.Test.YtaiccmbhdgecgaaSmC
import Derived.Test.YtaiccmbhdgecgaaSmB
import Derived.Deep.RegionHeld3
import Derived.Deep.DeepCutAuto
import Derived.Laws.EntriesVeiled
import Derived.Test.YtaiccmbhdgecgaaAl3
namespace Go.Proofs.Ytaiccmbhdgecgaa
open Go.RowKit Go.Shelf
set_option maxRecDepth 100000
set_option linter.unusedVariables false
set_option linter.unusedSimpArgs false
attribute [local go_sem] Oper.semAt_some
attribute [local go_sem ↓] mki_op

/-- the k-th mix, in a block of its own that is new since A -/
def FwV (G : List (List Nat)) (k : Nat) (A : World) (v : Value) (W : World) : Prop := OI W A.heap.size v (iN (G.getD k []))
/-- the clone, the boxes of left and of places -/
structure Cl4 (wB n pl : Nat) (N : List Nat) (W1 wx : World) (bL bP : Nat) : Prop where
  ex : ∃ aL cL, wB < aL ∧ aL < wB + 5 ∧ bL ≠ aL ∧ aL ≠ bP ∧ Boxed wx bL 22 (.slice (some ⟨aL, 0, none⟩) n cL) ∧ OI wx wB (.slice (some ⟨aL, 0, none⟩) n cL) (iN N)
  l : wB < bL ∧ bL < wB + 5
  p : wB < bP ∧ bP < wB + 5
  lp : bL ≠ bP
  bp : Boxed wx bP 3 (.int .i64 (pl : Int))
  sz : wx.heap.size = wB + 5
  be : Below (wB + 1) W1 wx
/-- of what lay in W1 nothing has turned (a name that 'assumption' does not mistake) -/
def LtW (w w' : World) : Prop := Below w.heap.size w w'
theorem LtW.step {w w1 w2 : World} (h : LtW w w1) (k : Below w1.heap.size w1 w2) : LtW w w2 := Below.trans h (k.mono (Below.size h))
theorem LtW.drew {w w1 : World} (h : LtW w w1) : LtW w w1.drew := Below.drew h
theorem LtW.alloc {w w1 : World} (h : LtW w w1) (o : Obj) : LtW w (w1.alloc o) := Below.alloc h (Below.size h) o
theorem LtW.set {w w1 : World} {p : Addr} (h : LtW w w1) (hp : w.heap.size ≤ p.block) (u : Value) : LtW w (w1.setCell p u) := Below.setCell h hp u
theorem cells_eq {w w' : World} (h : Below w.heap.size w w') : ∀ p : Addr, p.block < w.heap.size → w'.cell? p = w.cell? p := fun p hp => by simp only [World.cell?, h.block p.block hp]
theorem frozen_eq {w w' : World} (h : Below w.heap.size w w') : ∀ p : Addr, p.block < w.heap.size → w'.frozen? p = w.frozen? p := fun p hp => by simp only [World.frozen?, h.block p.block hp]
theorem run_mk0 (n : Nat) (hn : n ≤ 1000000) (w : World) : (mkI (.int .i64 0) (.int .i64 (n : Int))).run Try.prog w = .ok (.slice (some ⟨w.heap.size, 0, none⟩) 0 n) (w.alloc (.cells (ic (List.replicate n 0)).toArray 3)) := by
  obtain ⟨i, hi, hz, hs, hb⟩ := info_parts intinfo
  have := run_make (P := Try.prog) w 22 3 i _ Try.underlying22 hi hz .i64 .i64 0 (n : Int) (by omega) (by omega) (by rw [hb]; omega) (by omega)
  unfold mkI
  rw [this, hs, Nat.mul_one]
  simp only [Int.toNat_natCast]
  rw [show (Value.int IntKind.i64 0).cells = #[.int .i64 0] from rfl, made_i]
  rfl
theorem bx_a (w : World) (z : Nat) (hz : w.heap.size = z) (t : TypeId) (v : Value) : Boxed (w.alloc (.cells #[v] t)) z t v := hz ▸ Boxed.new w t v
theorem bx_o {w : World} {b g : Nat} {t : TypeId} {v : Value} (h : Boxed w b t v) (hne : b ≠ g) (u : Value) : Boxed (w.setCell ⟨g, 0, none⟩ u) b t v := ((gb_set w g 0 u).block b h.lt (fun e => by injection e with e; exact hne e)).trans h
theorem hp_o {w : World} {b g : Nat} (hb : b < w.heap.size) (hne : b ≠ g) (u : Value) : (w.setCell ⟨g, 0, none⟩ u).heap[b]? = w.heap[b]? := (gb_set w g 0 u).block b hb (fun e => by injection e with e; exact hne e)
theorem bx_k {w w' : World} {b : Nat} {t : TypeId} {v : Value} (h : Below w.drew.heap.size w.drew w') (hx : Boxed w b t v) : Boxed w' b t v := (h.block b hx.lt).trans hx
def BxE (w : World) (b : Nat) (t : TypeId) : Prop := ∃ v, Boxed w b t v
theorem be_a (w : World) (z : Nat) (hz : w.heap.size = z) (t : TypeId) (v : Value) : BxE (w.alloc (.cells #[v] t)) z t := ⟨v, bx_a w z hz t v⟩
theorem be_al {w : World} {b : Nat} {t : TypeId} (h : BxE w b t) (o : Obj) : BxE (w.alloc o) b t := h.elim fun v h => ⟨v, h.alloc o⟩
theorem be_o {w : World} {b g : Nat} {t : TypeId} (h : BxE w b t) (hne : b ≠ g) (u : Value) : BxE (w.setCell ⟨g, 0, none⟩ u) b t := h.elim fun v h => ⟨v, bx_o h hne u⟩
theorem be_k {w w' : World} {b : Nat} {t : TypeId} (h : Below w.drew.heap.size w.drew w') (hx : BxE w b t) : BxE w' b t := hx.elim fun v hx => ⟨v, bx_k h hx⟩
theorem bx_s {w : World} {b : Nat} {t : TypeId} {v' : Value} (h : BxE w b t) : Boxed (w.setCell ⟨b, 0, none⟩ v') b t v' := by
  obtain ⟨v, hv⟩ := h
  exact hv.set v'
set_option maxHeartbeats 8000000 in
theorem few_seq (g1 g2 Lo B0 : Nat) (sv : Value) (N : List Nat) (mo : Int) (w : World) (hn1 : 1 ≤ N.length) (hn16 : N.length ≤ 16) (h24 : tN2 N ≤ 24) (hm0 : 0 ≤ mo) (hm1 : mo ≤ 9223372036854775807) (b1 : Lo ≤ g1 ∧ g1 < B0) (b2 : Lo ≤ g2 ∧ g2 < B0) (h1 : Boxed w g1 22 sv) (h2 : IBox w g2 mo) (hr : RI w sv (iN N)) (hrw : ∀ W, KpL Lo B0 w W → RI W sv (iN N)) :
    SeqC 39 #[.pointer (some ⟨g1, 0, none⟩), .pointer (some ⟨g2, 0, none⟩)] 8 Lo B0 (FL (tN2 N) N (-1) mo).length (FwV (FL (tN2 N) N (-1) mo)) w := fun l J Jx W hW hB hJ hJx hY h0 => by
  obtain ⟨pl, hpl⟩ : ∃ pl, tN2 N = pl := ⟨_, rfl⟩
  rw [hpl] at h24 hY ⊢
  obtain ⟨wB, hwB⟩ : ∃ wB, W.heap.size = wB := ⟨_, rfl⟩
  rw [hwB] at hJ hJx hY
  obtain ⟨n, hn⟩ : ∃ n, N.length = n := ⟨_, rfl⟩
  obtain ⟨W1, hW1⟩ : ∃ W1, W.alloc (.cells #[.func (.yield l) #[] #[]] 59) = W1 := ⟨_, rfl⟩
  have hz1 : W1.heap.size = wB + 1 := by rw [← hW1, World.size_alloc, hwB]
  have y1 : Boxed W1 wB 59 (.func (.yield l) #[] #[]) := by rw [← hW1, ← hwB]; exact Boxed.new W _ _
  have hbB : KpL Lo B0 w W1 := by rw [← hW1]; exact hW.trans (KpL.of_below (alloc_below W _) hB)
  have HR := hid (fun wx (hb : Below (wB + 1) W1 wx) => hrw wx (hbB.trans (KpL.of_below hb (by omega))))
  have HG := hid (fun wx (hb : Below (wB + 1) W1 wx) => And.intro (show Boxed wx g1 22 sv from (hb.block _ (by omega)).trans ((hbB _ b1.1 b1.2).trans h1)) (show IBox wx g2 mo from (hb.block _ (by omega)).trans ((hbB _ b2.1 b2.2).trans h2)))
  have HCl := hid (fun wx (hb : Below (wB + 1) W1 wx) => show Calls Try.prog 33 #[sv] wx fun e w' => (∃ g c, e = .returned (.slice (some ⟨g, 0, none⟩) n c) ∧ OI w' wx.heap.size (.slice (some ⟨g, 0, none⟩) n c) (iN N)) ∧ Below wx.heap.size wx w' ∧ w'.heap.size = wx.heap.size + 2 by
    have := clone_sz sv (iN N) wx (HR.out wx hb) (by rw [iN_len]; exact hn1) (by rw [iN_len]; omega)
    rw [iN_len, hn] at this
    exact this)
  have HSu := hid (fun wx (hb : Below (wB + 1) W1 wx) => show Calls Try.prog 34 #[sv] wx fun e w' => e = .returned (.int .i64 (pl : Int)) ∧ w' = wx by
    have := sumOf_any sv N wx (HR.out wx hb) (by show tN2 N ≤ 24; omega) hn16
    rw [show sN N N.length = pl from hpl] at this
    exact this)
  have HY := hid hY
  have HJ := hid hJ
  have HJx := hid hJx
  have H0 := hid h0
  have c1 := (HG.out W1 (Below.refl _ _)).1.cell
  clear hJ hJx hY h0 h1 h2 hr hrw hW
  have HK := hid (fun wx (hb : LtW W1 wx) => show wx.cell? ⟨g1, 0, none⟩ = some sv from (HG.out wx (hb.mono (by omega))).1.cell)
  have HCl2 := hid (fun wx (hb : LtW W1 wx) => HCl.out wx (hb.mono (by omega)))
  have HSu2 := hid (fun wx (hb : LtW W1 wx) => HSu.out wx (hb.mono (by omega)))
  have l0 : LtW W1 W1 := Below.refl _ _
  have l1 : LtW W1 W1.drew := l0.drew
  clear HCl HSu
  refine callsIn_wide.2 ?_
  go_enter Try.func39, Try.ntmps39
  go_upto_region 1 with fail
  go_cut [4, 5] from 8 (fun s4 s5 wx => ∃ bL bP, s4 = .pointer (some ⟨bL, 0, none⟩) ∧ s5 = .pointer (some ⟨bP, 0, none⟩) ∧ Cl4 wB n pl N W1 wx bL bP)
  case first =>
    first
      | go_region_held3 (fun wx => wx.cell? ⟨g1, 0, none⟩ = some sv) ((refine HK.out _ ?_; repeat (first | assumption | refine LtW.alloc ?_ _ | refine LtW.drew ?_ | refine LtW.set ?_ (by simp <;> omega) _))) (first
        | (go_at_call 33; refine (HCl2.out _ ?_).mono ?_; (repeat (first | assumption | refine LtW.alloc ?_ _ | refine LtW.drew ?_ | refine LtW.set ?_ (by simp <;> omega) _)); rintro e w3 ⟨⟨aL, cL, rfl, ho⟩, hb3, hz3⟩; have kc := cells_eq hb3; have kf := frozen_eq hb3; have l3 : LtW W1 w3 := by (refine LtW.step ?_ hb3; repeat (first | assumption | refine LtW.alloc ?_ _ | refine LtW.drew ?_ | refine LtW.set ?_ (by simp <;> omega) _)))
        | (go_at_call 34; refine (HSu2.out _ ?_).mono ?_; (repeat (first | assumption | refine LtW.alloc ?_ _ | refine LtW.drew ?_ | refine LtW.set ?_ (by simp <;> omega) _)); rintro e w5 ⟨rfl, hw5⟩; have hws := hw5.symm; clear hw5; subst hws))
      | fail
    all_goals
      go_wp2_with fail
      go_meet
      have q := ho.own_lt aL rfl
      have h3 := hz3
      simp only [World.size_alloc, World.size_drew, hz1] at q h3
      refine ⟨_, _, rfl, rfl, ⟨⟨aL, cL, by omega, by omega, by omega, by omega, ?_, ?_⟩, ⟨by omega, by omega⟩, ⟨by omega, by omega⟩, by omega, ?_, by simp; omega, ?_⟩⟩
      · repeat (first
          | (refine bx_a _ _ ?_ _ _; first | exact h3 | exact hz1 | (simp; omega); done)
          | (refine bx_s ?_)
          | (refine be_a _ _ ?_ _ _; first | exact h3 | exact hz1 | (simp; omega); done)
          | (refine be_al ?_ _)
          | (refine be_o ?_ ?_ _; rotate_left; omega)
          | (refine be_k hb3 ?_)
          | (refine bx_o ?_ ?_ _; rotate_left; omega)
          | (refine Boxed.alloc ?_ _)
          | (refine bx_k hb3 ?_))
      · refine OI.stay (ho.mono ?_) (fun g e => ?_)
        · first | omega | (simp; omega)
        · have e : aL = g := Option.some.inj e
          subst e
          repeat (first
            | rfl
            | (refine (Lib.alloc_old _ _ _ ?_).trans ?_; (first | omega | (simp; omega)))
            | (refine (hp_o ?_ ?_ _).trans ?_; (first | omega | (simp; omega)); omega))
      · repeat (first
          | (refine bx_a _ _ ?_ _ _; first | exact h3 | exact hz1 | (simp; omega); done)
          | (refine bx_s ?_)
          | (refine be_a _ _ ?_ _ _; first | exact h3 | exact hz1 | (simp; omega); done)
          | (refine be_al ?_ _)
          | (refine be_o ?_ ?_ _; rotate_left; omega)
          | (refine be_k hb3 ?_)
          | (refine bx_o ?_ ?_ _; rotate_left; omega)
          | (refine Boxed.alloc ?_ _)
          | (refine bx_k hb3 ?_))
      · rw [← hz1]
        show LtW W1 _
        repeat (first | exact l3 | refine LtW.alloc ?_ _ | refine LtW.set ?_ (by simp <;> omega) _)
  case rest =>
    obtain ⟨bL, bP, rfl, rfl, hc4⟩ := hcut
    have HC4 := hid hc4
    have hzc := hc4.sz
    have c5 := hc4.bp.cell
    have c6 : ∀ o1 o2 o3, (((wc.alloc o1).alloc o2).alloc o3).cell? ⟨g2, 0, none⟩ = some (.int .i64 mo) := fun o1 o2 o3 => ((HG.out _ (((hc4.be.alloc (by omega) o1).alloc (by simp; omega) o2).alloc (by simp; omega) o3)).2).facts.1
    have hmk := run_mk0 pl (by omega)
    have hmf : ∀ (fn : Fn) (first cap : Array Value) (w : World), (Instr.makeFunc fn first cap).run Try.prog w = .ok (.func fn first cap) w := fun _ _ _ _ => rfl
    obtain ⟨Z, hZ⟩ : ∃ Z, (ic (List.replicate pl 0)).toArray = Z := ⟨_, rfl⟩
    rw [hZ] at hmk
    have HZ := hid hZ
    clear hc4 hZ
    go_wp2_with fail
    obtain ⟨W9, hW9⟩ : ∃ W9, (((wc.alloc (.cells Z 3)).alloc (.cells #[.slice (some ⟨wB + 5, 0, none⟩) 0 pl] 22)).alloc (.cells #[.func (.func 40) #[] (capsF wB bL bP (wB + 5 + 1) (wB + 5 + 1 + 1))] 66)) = W9 := ⟨_, rfl⟩
    have hW9' := hW9
    unfold capsF at hW9'
    rw [hW9']
    obtain ⟨aL, cL, a1, a2, a3, a4, a5, a6⟩ := HC4.out.ex
    have hId : ID wB wB bL aL bP (wB + 6) (wB + 5) (wB + 7) := ⟨rfl, HC4.out.l, ⟨a1, a2⟩, HC4.out.p, a3, HC4.out.lp, a4, rfl, rfl, rfl⟩
    have hb9 : Below (wB + 5) wc W9 := by
      rw [← hW9]
      exact (((Below.refl _ _).alloc (by omega) _).alloc (by simp; omega) _).alloc (by simp; omega) _
    have hz9 : W9.heap.size = wB + 8 := by rw [← hW9]; simp; omega
    have kp : ∀ g, g < wB + 5 → W9.heap[g]? = wc.heap[g]? := fun g hg => hb9.block g hg
    have hF : FwM wB wB bL aL bP (wB + 6) (wB + 5) (wB + 7) n cL pl l W9 N [] := by
      refine ⟨by omega, (kp _ (by omega)).trans ((HC4.out.be.block _ (by omega)).trans y1), (kp _ (by have := HC4.out.l; omega)).trans a5, a6.stay (fun g e => (Option.some.inj (show some aL = some g from e)) ▸ kp _ (by omega)), (kp _ (by have := HC4.out.p; omega)).trans HC4.out.bp, ?_, ?_, ?_, hn⟩
      · rw [← hW9]
        exact (bx_a _ _ (by simp; omega) _ _).alloc _
      · have h5 : W9.heap[wB + 5]? = some (.cells (ic (List.replicate pl 0)).toArray 3 (0, 0)) := by
          rw [← hW9, Lib.alloc_old _ _ _ (by simp; omega), Lib.alloc_old _ _ _ (by simp; omega), HZ.out, ← hzc]
          exact heap_alloc_new wc _
        exact ⟨rfl, .inr ⟨wB + 5, pl, _, rfl, by omega, h5, Nat.zero_le _, by unfold maxLen; omega, by simp [ic], by simp [ic, iN]⟩⟩
      · rw [← hW9]
        exact bx_a _ _ (by simp; omega) _ _
    have hJ9 : J 0 W9 := by
      refine HJ.out 0 W W9 H0.out ⟨?_, ?_, ?_, ?_, ?_⟩
      · rw [hb9.os, HC4.out.be.os, ← hW1]; rfl
      · rw [hb9.tape, HC4.out.be.tape, ← hW1]; rfl
      · rw [hb9.output, HC4.out.be.output, ← hW1]; rfl
      · omega
      · intro k hk _
        rw [kp k (by omega), HC4.out.be.block k (by omega), ← hW1]
        exact Lib.alloc_old W _ k (by omega)
    have HS := hid (callsIn_wide.1 (search_any Lo B0 wB wB bL aL bP (wB + 6) (wB + 5) (wB + 7) n cL pl l hId (by omega) h24 (FL pl N (-1) mo) J Jx HJ.out HJx.out (fun k v A W1 h1 h2 h3 h4 h5 => HY.out k v A W1 h1 h2 h3 h4 h5) pl N [] (-1) mo 0 W9 hpl rfl hF (.inl rfl) hm0 hm1 (fun i x hx => by rw [Nat.zero_add]; exact hx) hJ9))
    clear hF hJ9 kp hb9 hW9 hW9' a5 a6
    refine Calls.mono HS.out ?_
    rintro e W' ⟨b, rfl, hf, hz⟩
    have HZ2 := hid hz
    clear hz hf
    go_wp2
    go_end0
    rcases HZ2.out with ⟨_, hj⟩ | ⟨_, k9, hx⟩
    · rw [Nat.zero_add] at hj
      exact ⟨⟨_, rfl⟩, .inl hj⟩
    · exact ⟨⟨_, rfl⟩, .inr ⟨k9, hx⟩⟩
end Go.Proofs.Ytaiccmbhdgecgaa

namespace Go.Proofs.Ytaiccmbhdgecgaa
open Go.RowKit Go.Shelf
set_option maxRecDepth 100000
set_option linter.unusedVariables false
set_option linter.unusedSimpArgs false
attribute [local go_sem] Oper.semAt_some

/-- has it few mixes -/
def smR (R : List Int) : Bool := decide ((cntA R).2 = 0) && decide ((cntA R).1 ≤ 1048576)
/-- what Few goes over -/
def GL (R : List Int) (mo : Int) : List (List Nat) := if smR R && !decide (mo < 0) then FL (tN2 (nats R)) (nats R) (-1) mo else []
/-- what Few answers -/
def FwQ (R : List Int) (mo : Int) (w w' : World) (e : Ending) : Prop := ∃ gf lb c, e = .returned (.func (.func gf) #[] lb) ∧ (∀ args w, (callFunc gf args).run Try.prog w = .ok (.enter gf args) w) ∧ SeqC gf lb c w.heap.size w'.heap.size (GL R mo).length (FwV (GL R mo)) w'
theorem none_seqC (Lo B0 : Nat) (D : Nat → World → Value → World → Prop) (w : World) : SeqC 38 #[] 0 Lo B0 0 D w := fun l J Jx W hW hB hJ hJx hY h0 => by
  refine callsIn_of_wp Try.func38 rfl trivial ?_ rfl
  simp only [Try.ntmps38, List.size_toArray, List.length_cons, List.length_nil, Nat.reduceAdd, Nat.reduceSub, Array.replicate_succ, Array.replicate_zero, List.push_toArray, List.append_toArray, List.nil_append, List.cons_append]
  have H0 := hid h0
  clear hY hJ h0 hJx
  gi_wp2
  go_end0
  exact ⟨⟨_, rfl⟩, .inl H0.out⟩
theorem fwq_none {R : List Int} {mo : Int} (h : (smR R && !decide (mo < 0)) = false) (w w' : World) : FwQ R mo w w' (.returned (.func (.func 38) #[] #[])) := by
  refine ⟨_, _, 0, rfl, enters_of Try.func38 (by kernel_rfl) rfl, ?_⟩
  have : GL R mo = [] := by unfold GL; rw [h]; rfl
  rw [this]
  exact none_seqC _ _ _ _
set_option maxHeartbeats 2000000 in
theorem few_any (v : Value) (R : List Int) (mo : Int) (w : World) (hr : RI w v R) (hl : R.length ≤ 9223372036854775807) (hm : -9223372036854775808 ≤ mo ∧ mo ≤ 9223372036854775807) :
    Calls Try.prog 15 #[v, .int .i64 mo] w fun e w' => FwQ R mo w w' e ∧ Below w.heap.size w w' := by
  have hmf : ∀ (fn : Fn) (first cap : Array Value) (w : World), (Instr.makeFunc fn first cap).run Try.prog w = .ok (.func fn first cap) w := fun _ _ _ _ => rfl
  have HC := hid (fun W (hb : Below w.heap.size w W) => countR_any v R W (RI.below (w := w) hr hb) hl)
  have HR := hid hr
  obtain ⟨ao, cap, hv⟩ := hr.len0
  subst hv
  clear hr
  obtain ⟨W1, hW1⟩ : ∃ W1, w.alloc (.cells #[.int .i64 mo] 3) = W1 := ⟨_, rfl⟩
  have hb1 : Below w.heap.size w W1 := by rw [← hW1]; exact (Below.refl _ _).alloc (Nat.le_refl _) _
  have HB1 := hid hb1
  have hi1 : IBox W1 w.heap.size mo := by rw [← hW1]; exact heap_alloc_new w _
  have c1 := hi1.facts.1
  have HI1 := hid hi1
  have HC1 := hid (HC.out W1 hb1)
  clear hb1 hi1 HC
  go_enter Try.func15, Try.ntmps15
  go_wp2_with fail
  refine Calls.mono HC1.out ?_
  rintro e w2 ⟨rfl, hw2⟩
  have hws := hw2.symm
  clear hw2
  subst hws
  clear HC1
  obtain ⟨cn, hcn⟩ : ∃ cn, cntA R = cn := ⟨_, rfl⟩
  rw [hcn]
  obtain ⟨n0, e0⟩ := cn
  have HCN := hid hcn
  clear hcn
  by_cases he : e0 = 0
  · subst he
    by_cases hneg : mo < 0
    · have HF := hid (fwq_none (R := R) (mo := mo) (by rw [decide_eq_true hneg]; simp))
      have hdn : decide (mo < 0) = true := decide_eq_true hneg
      go_wp2
      go_ret
      exact ⟨HF.out _ _, HB1.out⟩
    · have hdn : decide (mo < 0) = false := decide_eq_false hneg
      by_cases hbig : 1048576 < n0
      · have HF := hid (fwq_none (R := R) (mo := mo) (by unfold smR; rw [HCN.out, decide_eq_false (show ¬ n0 ≤ 1048576 by omega)]; simp))
        have hdb : decide (1048576 < n0) = true := decide_eq_true hbig
        go_wp2
        go_ret
        exact ⟨HF.out _ _, HB1.out⟩
      · have hdb : decide (1048576 < n0) = false := decide_eq_false hbig
        obtain ⟨N, hN, a1, a2, a3, a4, a5⟩ := cnt_ok (show (cntA R).2 = 0 by rw [HCN.out])
        have HG := hid (show GL R mo = FL (tN2 N) N (-1) mo by
          unfold GL smR
          rw [HCN.out, decide_eq_true (show n0 ≤ 1048576 by omega), decide_eq_false hneg, hN, iN_nats]
          rfl)
        have HA := hid (And.intro a1 (And.intro a2 a3))
        have HCl := hid (show Calls Try.prog 33 #[.slice ao R.length cap] W1 fun e w' => (∃ v', e = .returned v' ∧ OI w' W1.heap.size v' (iN N)) ∧ Below W1.heap.size W1 w' by rw [← hN]; exact le_clone_any _ R W1 (HR.out.below HB1.out) (by rw [hN, iN_len]; omega))
        clear hN a1 a2 a3 a4 a5
        go_wp2_with fail
        refine Calls.mono HCl.out ?_
        rintro e w3 ⟨⟨v', rfl, ho⟩, hb3⟩
        obtain ⟨a5, c5, hv5⟩ := ho.reads.len0
        rw [iN_len] at hv5
        subst hv5
        obtain ⟨W4, hW4⟩ : ∃ W4, w3.alloc (.cells #[.slice a5 N.length c5] 22) = W4 := ⟨_, rfl⟩
        have hz1 := HI1.out.facts.2.2
        have hzb := hb3.size
        have HX := hid (show Boxed W4 w3.heap.size 22 (.slice a5 N.length c5) ∧ IBox W4 w.heap.size mo ∧ OI W4 W1.heap.size (.slice a5 N.length c5) (iN N) ∧ Below w.heap.size w W4 ∧ W4.heap.size = w3.heap.size + 1 by
          rw [← hW4]
          refine ⟨Boxed.new w3 _ _, ?_, ho.alloc _, (HB1.out.trans (hb3.mono HB1.out.size)).alloc (by have := HB1.out.size; omega) _, by simp⟩
          exact (Lib.alloc_old _ _ _ (by omega)).trans ((hb3.block _ hz1).trans HI1.out))
        clear ho hb3 HCl
        go_wp2
        go_ret
        refine ⟨⟨_, _, 8, rfl, enters_of Try.func39 (by kernel_rfl) rfl, ?_⟩, HX.out.2.2.2.1⟩
        rw [HG.out]
        have hz4 := HX.out.2.2.2.2
        exact few_seq w3.heap.size w.heap.size w.heap.size _ _ N mo _ HA.out.1 HA.out.2.1 HA.out.2.2 (by omega) hm.2 ⟨by omega, by omega⟩ ⟨Nat.le_refl _, by omega⟩ HX.out.1 HX.out.2.1 HX.out.2.2.1.reads (fun W hb => (HX.out.2.2.1.stay (fun g hg => hb g (by have := (HX.out.2.2.1.own_lt g hg).1; omega) (by have := (HX.out.2.2.1.own_lt g hg).2; omega))).reads)
  · have HF := hid (fwq_none (R := R) (mo := mo) (by unfold smR; rw [HCN.out, decide_eq_false (show ¬ e0 = 0 from he)]; simp))
    have heb : (e0 == 0) = false := by simpa using he
    go_wp2
    go_ret
    exact ⟨HF.out _ _, HB1.out⟩
theorem mixes_any (v : Value) (R : List Int) (w : World) (hr : RI w v R) (hl : R.length ≤ 9223372036854775807) :
    Calls Try.prog 14 #[v] w fun e w' => FwQ R 24 w w' e ∧ Below w.heap.size w w' := by
  have H := hid (few_any v R 24 w hr hl (by omega))
  obtain ⟨ao, cap, hv⟩ := hr.len0
  subst hv
  clear hr
  go_enter Try.func14, Try.ntmps14
  go_wp2_with fail
  refine Calls.mono H.out ?_
  rintro e w2 ⟨⟨gf, lb, c, rfl, hq⟩, hb⟩
  have HQ := hid hq
  have HB := hid hb
  clear hq hb H
  go_wp2
  go_ret
  exact ⟨⟨gf, lb, c, rfl, HQ.out⟩, HB.out⟩
end Go.Proofs.Ytaiccmbhdgecgaa

namespace Go.Proofs.Ytaiccmbhdgecgaa
open Go.RowKit
set_option maxRecDepth 100000

theorem fac_le : ∀ n, n ≤ 6 → fac n ≤ 720 := by decide
/-- of few picks there are few mixes: all of them -/
theorem small_all (K : List Nat) (hx : ∀ x ∈ K, x < 16) (h6 : K.length ≤ 6) : GL (iN (C16 K)) 24 = AL K.length (C16 K) ∧ mN (C16 K) ≤ 720 ∧ smR (iN (C16 K)) = true := by
  have hct := ctof16 K hx
  have ht := hct.t
  have hsk : stOk (iN (C16 K)) = true := stOk_mk ((okN_iff _).2 (by rw [C16_len]; decide)) (by rw [ht]; omega)
  have hm : mN (C16 K) ≤ 720 := by
    have h1 := cN_pf (C16 K) (C16 K).length (by show tN2 (C16 K) ≤ 24; rw [ht]; omega)
    have h2 : sN (C16 K) (C16 K).length = K.length := ht
    rw [h2] at h1
    have h3 := fac_le K.length h6
    have h4 := pf_pos (C16 K) (C16 K).length
    have h5 : mN (C16 K) ≤ mN (C16 K) * pf (C16 K) (C16 K).length := Nat.le_mul_of_pos_right _ h4
    have h6 : mN (C16 K) * pf (C16 K) (C16 K).length = fac K.length := h1
    omega
  have hc := cntA_is (C16 K) hsk
  rw [if_pos (by omega)] at hc
  have hs : smR (iN (C16 K)) = true := by
    unfold smR
    rw [hc, decide_eq_true rfl, decide_eq_true (show ((mN (C16 K) : Nat) : Int) ≤ 1048576 by omega)]
    rfl
  refine ⟨?_, hm, hs⟩
  unfold GL
  rw [hs, iN_nats, ht, if_pos (by decide), FL_is _ _ _ _ (by decide)]
  rw [List.filter_eq_self]
  intro x hxm
  obtain ⟨i, hi, rfl⟩ := List.getElem_of_mem hxm
  have hmx := AL_mx K.length (C16 K) ht (by omega) i _ (List.getElem?_eq_getElem hi)
  rw [swc_mx hmx (by rw [C16_len]; decide)]
  have hl := mx_len hmx (by rw [ht]; omega)
  have := cS_le (AL K.length (C16 K))[i] (AL K.length (C16 K))[i].length
  exact decide_eq_true (by omega)
theorem count_onl (K : List Nat) (i : Nat) : (onl (iN K) (i : Int) (i : Int)).length = K.count i := by
  induction K with
  | nil => rfl
  | cons x t ih =>
    show (onl ((x : Int) :: iN t) (i : Int) (i : Int)).length = _
    rw [onl_cons, List.count_cons]
    by_cases e : x = i
    · rw [if_pos (.inl (by omega)), if_pos (by simp [e]), List.length_cons, ih]
    · rw [if_neg (by omega), if_neg (by simpa using e), ih]
      rfl
theorem iN_16 {K : List Nat} (hx : ∀ x ∈ K, x < 16) : ∀ x ∈ iN K, 0 ≤ x ∧ x < 16 := by
  intro x hxm
  unfold iN at hxm
  rw [List.mem_map] at hxm
  obtain ⟨y, hy, rfl⟩ := hxm
  have := hx y hy
  omega
/-- what is known of the picks and their least -/
structure SmL (K : List Nat) (P : List Pr) (M : List Nat) (n : Nat) : Prop where
  hx : ∀ x ∈ K, x < 16
  h6 : K.length ≤ 6
  ok : leE (iN K) P = 0
  lst : leL (iN K) P = iN M
  pos : (AL K.length (C16 K))[n]? = some M
  alk : Alk P (iN M) (iN K)
theorem sml_ex (K : List Nat) (P : List Pr) (hx : ∀ x ∈ K, x < 16) (h6 : K.length ≤ 6) (ok : leE (iN K) P = 0) : ∃ M n, SmL K P M n := by
  have hsw := (leL_lst ok).reach (arP_sym P)
  have hin : inB (leL (iN K) P) 16 = true := by
    rw [inB_iff]
    intro i hi
    exact iN_16 hx _ (hsw.mem _ (List.getElem_mem hi))
  obtain ⟨M, hM, hMx⟩ := nat_list hin
  have hcnt : ∀ i, M.count i = K.count i := by
    intro i
    rw [← count_onl, ← count_onl, ← hM, leL_only ok (i : Int) (i : Int) (arP_irr _ _)]
  have hct := ctof16 K hx
  obtain ⟨n, hn, _⟩ := mx_of M (C16 K) (fun i => by rw [hcnt, hct.1]) (fun x hm => by rw [C16_len]; exact hMx x hm) (by rw [hct.t]; omega)
  exact ⟨M, n, hx, h6, ok, hM, AL_at K.length (C16 K) n M hct.t (by omega) hn, fun a b _ _ _ hab => by rw [← hM]; exact leL_only ok _ _ hab⟩
theorem SmL.first {K : List Nat} {P : List Pr} {M : List Nat} {n k : Nat} {X : List Nat} (h : SmL K P M n) (hX : (AL K.length (C16 K))[k]? = some X) (ha : Alk P (iN X) (iN K)) (hno : ∀ i Y, i < k → (AL K.length (C16 K))[i]? = some Y → ¬ Alk P (iN Y) (iN K)) : X = M := by
  have hct := ctof16 K h.hx
  have h24 : K.length ≤ 24 := by have := h.h6; omega
  have mX := AL_mx K.length (C16 K) hct.t h24 k X hX
  have mM := AL_mx K.length (C16 K) hct.t h24 n M h.pos
  have hnk : ¬ n < k := fun e => hno n M e h.pos h.alk
  have hX16 := iN_16 (K := X) (fun y hy => by have := mx_in mX y hy; rwa [C16_len] at this)
  have hK16 := iN_16 h.hx
  have hs : Swps (arP P) (iN K) (iN X) := alike_swps (arP_sym P) (arP_irr P) (iN X) (iN K) (fun a b hab => (alike_all hX16 hK16 ha a b hab).symm)
  have hl := ((leL_lst h.ok).swps hs).not_above
  rw [h.lst] at hl
  rcases Nat.lt_or_ge k n with e | e
  · have := mx_below X (C16 K) k n M mX mM e
    rw [hl] at this
    cases this
  · obtain rfl : k = n := by omega
    have := h.pos
    rw [hX] at this
    injection this
theorem SmL.lt {K : List Nat} {P : List Pr} {M : List Nat} {n : Nat} (h : SmL K P M n) : n < (AL K.length (C16 K)).length := (List.getElem?_eq_some_iff.1 h.pos).1
end Go.Proofs.Ytaiccmbhdgecgaa

namespace Go.Proofs.Ytaiccmbhdgecgaa
open Go.RowKit
set_option maxRecDepth 100000

/-- a list of lists rises -/
def Rsg (G : List (List Int)) : Prop := G.Pairwise fun x y => bl x y = true
theorem Rsg.next {G : List (List Int)} (h : Rsg G) (k : Nat) (hk : k + 1 < G.length) : bl (G.getD k []) (G.getD (k + 1) []) = true := by
  have := List.pairwise_iff_getElem.1 h k (k + 1) (by omega) hk (by omega)
  rw [List.getD_eq_getElem?_getD, List.getElem?_eq_getElem (by omega), List.getD_eq_getElem?_getD, List.getElem?_eq_getElem hk]
  exact this
theorem AL_rises (s : Nat) (N : List Nat) (hs : tN2 N = s) (h24 : s ≤ 24) : (AL s N).Pairwise fun x y => bl (iN x) (iN y) = true := by
  rw [List.pairwise_iff_getElem]
  intro i j hi hj hij
  exact mx_below _ N i j _ (AL_mx s N hs h24 i _ (List.getElem?_eq_getElem hi)) (AL_mx s N hs h24 j _ (List.getElem?_eq_getElem hj)) hij
/-- no search is in vain -/
theorem FL_some : ∀ (s : Nat) (N : List Nat) (last sp : Int), tN2 N = s → s ≤ 24 → 0 ≤ sp → FL s N last sp ≠ []
  | 0, N, last, sp, _, _, _ => by simp [FL]
  | s + 1, N, last, sp, hs, h24, h0 => by
    have key : ∃ h, h < N.length ∧ 1 ≤ N.getD h 0 ∧ asd (iN N) last h = false := by
      by_cases hl : 0 ≤ last ∧ last.toNat < N.length ∧ 1 ≤ N.getD last.toNat 0
      · refine ⟨last.toNat, hl.2.1, hl.2.2, ?_⟩
        unfold asd
        rw [decide_eq_true (show last = ((last.toNat : Nat) : Int) by omega)]
        simp
      · obtain ⟨h, hh, ha, hb⟩ := find_hd N 0 (by rw [bS_all N (by omega) (by omega)]; exact mN_pos N (by omega))
        have h1 : 1 ≤ N.getD h 0 := by
          rcases Nat.eq_zero_or_pos (N.getD h 0) with hz | hp
          · have := (bg_mul N h hh (by omega) (by omega)).2.1 hz
            have e1 : bS N (h + 1) = bS N h + bg N h := rfl
            omega
          · exact hp
        refine ⟨h, hh, h1, ?_⟩
        unfold asd
        by_cases hla : 0 ≤ last
        · have hz : N.getD last.toNat 0 = 0 := by
            by_cases hlt : last.toNat < N.length
            · have : ¬ 1 ≤ N.getD last.toNat 0 := fun e => hl ⟨hla, hlt, e⟩
              omega
            · exact getD_out N _ (by omega)
          rw [iN_getD, hz, decide_eq_false (show ¬ (0 : Int) < ((0 : Nat) : Int) by omega), Bool.and_false]
        · rw [decide_eq_false hla]
          rfl
    obtain ⟨h, hh, h1, has⟩ := key
    have hsp : spr N last sp h = sp := by unfold spr; rw [if_neg (by rw [has]; decide)]
    have hm : may N last sp h = true := by
      unfold may
      rw [hsp, decide_eq_false (show ¬ N.getD h 0 = 0 by omega), decide_eq_false (show ¬ sp < 0 by omega)]
      rfl
    have ht := (mN_less N h hh h1 (by omega)).2
    have ih := FL_some s (less N h) (h : Int) sp (by omega) (by omega) h0
    intro e
    obtain ⟨T, hT⟩ := FP_pre s N last sp (show h + 1 ≤ N.length from hh)
    rw [← FP_all, hT, FP_go s N last sp h hm, hsp] at e
    have : (FL s (less N h) (h : Int) sp).map (h :: ·) = [] := by
      cases hc : (FL s (less N h) (h : Int) sp).map (h :: ·) with
      | nil => rfl
      | cons a b => rw [hc] at e; simp at e
    rw [List.map_eq_nil_iff] at this
    exact ih this
/-- what is known of what Few goes over -/
structure GLk (R : List Int) (mo : Int) : Prop where
  rise : (GL R mo).Pairwise fun x y => bl (iN x) (iN y) = true
  each : ∀ x ∈ GL R mo, (∀ y ∈ x, y < 16) ∧ x.length ≤ 24 ∧ ((cS x x.length : Nat) : Int) ≤ mo
  all : mo = 24 → smR R = true → ((GL R mo).length : Int) = (cntA R).1
  none : (smR R = false ∨ mo < 0) → GL R mo = []
  some : smR R = true → 0 ≤ mo → GL R mo ≠ []
  few : (GL R mo).length ≤ 1048576
theorem glk (R : List Int) (mo : Int) : GLk R mo := by
  by_cases hs : smR R = true ∧ ¬ mo < 0
  · obtain ⟨h1, h2⟩ := hs
    have h3 : (cntA R).2 = 0 ∧ (cntA R).1 ≤ 1048576 := by
      unfold smR at h1
      rw [Bool.and_eq_true, decide_eq_true_eq, decide_eq_true_eq] at h1
      exact h1
    obtain ⟨N, rfl, a1, a2, a3, a4, a5⟩ := cnt_ok h3.1
    have hG : GL (iN N) mo = FL (tN2 N) N (-1) mo := by
      unfold GL
      rw [h1, decide_eq_false h2, iN_nats]
      rfl
    have hF := FL_is (tN2 N) N (-1) mo (by omega)
    have hal := AL_len (tN2 N) N rfl a3
    have hm : mN N ≤ 1048576 := by
      have h3 := h3.2
      rw [a5] at h3
      have h3 : ((mN N : Nat) : Int) ≤ 1048576 := h3
      omega
    refine ⟨?_, ?_, ?_, ?_, ?_, ?_⟩
    · rw [hG, hF]
      exact (AL_rises (tN2 N) N rfl a3).filter _
    · intro x hx
      rw [hG, hF, List.mem_filter] at hx
      obtain ⟨hx1, hx2⟩ := hx
      obtain ⟨i, hi, rfl⟩ := List.getElem_of_mem hx1
      have hmx := AL_mx (tN2 N) N rfl a3 i _ (List.getElem?_eq_getElem hi)
      refine ⟨fun y hy => Nat.lt_of_lt_of_le (mx_in hmx y hy) a2, by rw [mx_len hmx a3]; exact a3, ?_⟩
      rw [swc_mx hmx a2] at hx2
      exact of_decide_eq_true hx2
    · intro h24 _
      subst h24
      rw [a5, hG, hF]
      have : (AL (tN2 N) N).filter (fun x => decide (((swc N (-1) x : Nat) : Int) ≤ 24)) = AL (tN2 N) N := by
        rw [List.filter_eq_self]
        intro x hxm
        obtain ⟨i, hi, rfl⟩ := List.getElem_of_mem hxm
        have hmx := AL_mx (tN2 N) N rfl a3 i _ (List.getElem?_eq_getElem hi)
        rw [swc_mx hmx a2]
        have hl := mx_len hmx a3
        have := cS_le (AL (tN2 N) N)[i] (AL (tN2 N) N)[i].length
        exact decide_eq_true (by omega)
      rw [this, hal.1]
    · intro h
      rcases h with h | h
      · rw [h] at h1; cases h1
      · exact absurd h h2
    · intro _ h
      rw [hG]
      exact FL_some _ N (-1) mo rfl a3 h
    · rw [hG, hF]
      refine Nat.le_trans (List.length_filter_le _ _) ?_
      rw [hal.1]
      exact hm
  · have hG : GL R mo = [] := by
      unfold GL
      rw [if_neg]
      intro e
      rw [Bool.and_eq_true, Bool.not_eq_true', decide_eq_false_iff_not] at e
      exact hs e
    refine ⟨by rw [hG]; exact List.Pairwise.nil, (by rw [hG]; intro x hx; cases hx), ?_, fun _ => hG, ?_, (by rw [hG]; exact Nat.zero_le _)⟩
    · intro h24 h1
      exact absurd ⟨h1, by omega⟩ hs
    · intro h1 h2
      exact absurd ⟨h1, by omega⟩ hs
theorem bl_app_lt : ∀ (X Y : List Int) (x y : Int), X.length = Y.length → bl X Y = true → bl (X ++ [x]) (Y ++ [y]) = true
  | [], [], _, _, _, h => by cases h
  | [], _ :: _, _, _, h, _ => by cases h
  | _ :: _, [], _, _, h, _ => by cases h
  | a :: X, b :: Y, x, y, hl, h => by
    have h : (if a = b then bl X Y else decide (a < b)) = true := h
    show (if a = b then bl (X ++ [x]) (Y ++ [y]) else decide (a < b)) = true
    by_cases e : a = b
    · rw [if_pos e] at h ⊢
      exact bl_app_lt X Y x y (by simpa using hl) h
    · rw [if_neg e] at h ⊢
      exact h
theorem bl_app_eq : ∀ (X : List Int) (x y : Int), x < y → bl (X ++ [x]) (X ++ [y]) = true
  | [], x, y, h => by show (if x = y then bl [] [] else decide (x < y)) = true; rw [if_neg (by omega)]; exact decide_eq_true h
  | a :: X, x, y, h => by show (if a = a then bl (X ++ [x]) (X ++ [y]) else decide (a < a)) = true; rw [if_pos rfl]; exact bl_app_eq X x y h
theorem dig_rises (b : Nat) (hb : 1 ≤ b) : ∀ (d i j : Nat), i < j → j < b ^ d → bl (dig b i d) (dig b j d) = true
  | 0, i, j, h, hj => by simp at hj; omega
  | d + 1, i, j, h, hj => by
    have hjd : j / b < b ^ d := Nat.div_lt_of_lt_mul (by rw [Nat.mul_comm, ← Nat.pow_succ]; exact hj)
    have hle : i / b ≤ j / b := Nat.div_le_div_right (by omega)
    show bl (dig b (i / b) d ++ [((i % b : Nat) : Int)]) (dig b (j / b) d ++ [((j % b : Nat) : Int)]) = true
    rcases Nat.lt_or_ge (i / b) (j / b) with c | c
    · exact bl_app_lt _ _ _ _ (by rw [dig_len, dig_len]) (dig_rises b hb d _ _ c hjd)
    · have e : i / b = j / b := by omega
      rw [e]
      refine bl_app_eq _ _ _ ?_
      have e1 := Nat.div_add_mod i b
      have e2 := Nat.div_add_mod j b
      rw [e] at e1
      omega
end Go.Proofs.Ytaiccmbhdgecgaa
