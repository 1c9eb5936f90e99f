/-
  Few: what its iterator goes over.
-/
import Derived.Test.YtaiccmbhdgecgaaGw3
import Derived.Test.YtaiccmbhdgecgaaGw4
import Derived.Deep.RegionHeld3
import Derived.Deep.DeepCutAuto
import Derived.Laws.EntriesVeiled
namespace Go.Proofs.Ytaiccmbhdgecgaa
open Go.RowKit Go.Shelf
set_option maxRecDepth 100000
set_option linter.unusedVariables false
set_option linter.unusedSimpArgs false
attribute [local go_sem] Oper.semAt_some
attribute [local go_sem ↓] mki_op

/-- the k-th mix, in a block of its own that is new since A -/
def FwV (G : List (List Nat)) (k : Nat) (A : World) (v : Value) (W : World) : Prop := OI W A.heap.size v (iN (G.getD k []))
/-- the clone, the boxes of left and of places -/
structure Cl4 (wB n pl : Nat) (N : List Nat) (W1 wx : World) (bL bP : Nat) : Prop where
  ex : ∃ aL cL, wB < aL ∧ aL < wB + 5 ∧ bL ≠ aL ∧ aL ≠ bP ∧ Boxed wx bL 22 (.slice (some ⟨aL, 0, none⟩) n cL) ∧ OI wx wB (.slice (some ⟨aL, 0, none⟩) n cL) (iN N)
  l : wB < bL ∧ bL < wB + 5
  p : wB < bP ∧ bP < wB + 5
  lp : bL ≠ bP
  bp : Boxed wx bP 3 (.int .i64 (pl : Int))
  sz : wx.heap.size = wB + 5
  be : Below (wB + 1) W1 wx
/-- of what lay in W1 nothing has turned (a name that 'assumption' does not mistake) -/
def LtW (w w' : World) : Prop := Below w.heap.size w w'
theorem LtW.step {w w1 w2 : World} (h : LtW w w1) (k : Below w1.heap.size w1 w2) : LtW w w2 := Below.trans h (k.mono (Below.size h))
theorem LtW.drew {w w1 : World} (h : LtW w w1) : LtW w w1.drew := Below.drew h
theorem LtW.alloc {w w1 : World} (h : LtW w w1) (o : Obj) : LtW w (w1.alloc o) := Below.alloc h (Below.size h) o
theorem LtW.set {w w1 : World} {p : Addr} (h : LtW w w1) (hp : w.heap.size ≤ p.block) (u : Value) : LtW w (w1.setCell p u) := Below.setCell h hp u
theorem cells_eq {w w' : World} (h : Below w.heap.size w w') : ∀ p : Addr, p.block < w.heap.size → w'.cell? p = w.cell? p := fun p hp => by simp only [World.cell?, h.block p.block hp]
theorem frozen_eq {w w' : World} (h : Below w.heap.size w w') : ∀ p : Addr, p.block < w.heap.size → w'.frozen? p = w.frozen? p := fun p hp => by simp only [World.frozen?, h.block p.block hp]
theorem run_mk0 (n : Nat) (hn : n ≤ 1000000) (w : World) : (mkI (.int .i64 0) (.int .i64 (n : Int))).run Try.prog w = .ok (.slice (some ⟨w.heap.size, 0, none⟩) 0 n) (w.alloc (.cells (ic (List.replicate n 0)).toArray 3)) := by
  obtain ⟨i, hi, hz, hs, hb⟩ := info_parts intinfo
  have := run_make (P := Try.prog) w 22 3 i _ Try.underlying22 hi hz .i64 .i64 0 (n : Int) (by omega) (by omega) (by rw [hb]; omega) (by omega)
  unfold mkI
  rw [this, hs, Nat.mul_one]
  simp only [Int.toNat_natCast]
  rw [show (Value.int IntKind.i64 0).cells = #[.int .i64 0] from rfl, made_i]
  rfl
theorem bx_a (w : World) (z : Nat) (hz : w.heap.size = z) (t : TypeId) (v : Value) : Boxed (w.alloc (.cells #[v] t)) z t v := hz ▸ Boxed.new w t v
theorem bx_o {w : World} {b g : Nat} {t : TypeId} {v : Value} (h : Boxed w b t v) (hne : b ≠ g) (u : Value) : Boxed (w.setCell ⟨g, 0, none⟩ u) b t v := ((gb_set w g 0 u).block b h.lt (fun e => by injection e with e; exact hne e)).trans h
theorem hp_o {w : World} {b g : Nat} (hb : b < w.heap.size) (hne : b ≠ g) (u : Value) : (w.setCell ⟨g, 0, none⟩ u).heap[b]? = w.heap[b]? := (gb_set w g 0 u).block b hb (fun e => by injection e with e; exact hne e)
theorem bx_k {w w' : World} {b : Nat} {t : TypeId} {v : Value} (h : Below w.drew.heap.size w.drew w') (hx : Boxed w b t v) : Boxed w' b t v := (h.block b hx.lt).trans hx
def BxE (w : World) (b : Nat) (t : TypeId) : Prop := ∃ v, Boxed w b t v
theorem be_a (w : World) (z : Nat) (hz : w.heap.size = z) (t : TypeId) (v : Value) : BxE (w.alloc (.cells #[v] t)) z t := ⟨v, bx_a w z hz t v⟩
theorem be_al {w : World} {b : Nat} {t : TypeId} (h : BxE w b t) (o : Obj) : BxE (w.alloc o) b t := h.elim fun v h => ⟨v, h.alloc o⟩
theorem be_o {w : World} {b g : Nat} {t : TypeId} (h : BxE w b t) (hne : b ≠ g) (u : Value) : BxE (w.setCell ⟨g, 0, none⟩ u) b t := h.elim fun v h => ⟨v, bx_o h hne u⟩
theorem be_k {w w' : World} {b : Nat} {t : TypeId} (h : Below w.drew.heap.size w.drew w') (hx : BxE w b t) : BxE w' b t := hx.elim fun v hx => ⟨v, bx_k h hx⟩
theorem bx_s {w : World} {b : Nat} {t : TypeId} {v' : Value} (h : BxE w b t) : Boxed (w.setCell ⟨b, 0, none⟩ v') b t v' := by
  obtain ⟨v, hv⟩ := h
  exact hv.set v'
set_option maxHeartbeats 8000000 in
theorem few_seq (g1 g2 B0 Bk : Nat) (sv : Value) (N : List Nat) (mo : Int) (w : World) (hn1 : 1 ≤ N.length) (hn16 : N.length ≤ 16) (h24 : tN2 N ≤ 24) (hm0 : 0 ≤ mo) (hm1 : mo ≤ 9223372036854775807) (b1 : g1 < B0) (b2 : g2 < B0) (h1 : Boxed w g1 22 sv) (h2 : IBox w g2 mo) (hr : RI w sv (iN N)) (hbw : B0 ≤ w.heap.size) (hrw : ∀ W, Below B0 w W → RI W sv (iN N)) :
    SeqC 39 #[.pointer (some ⟨g1, 0, none⟩), .pointer (some ⟨g2, 0, none⟩)] 8 B0 Bk (FL (tN2 N) N (-1) mo).length (FwV (FL (tN2 N) N (-1) mo)) w := fun l J Jx W hW hB hJ hJx hY h0 => by
  obtain ⟨pl, hpl⟩ : ∃ pl, tN2 N = pl := ⟨_, rfl⟩
  rw [hpl] at h24 hY ⊢
  obtain ⟨wB, hwB⟩ : ∃ wB, W.heap.size = wB := ⟨_, rfl⟩
  rw [hwB] at hJ hJx hY
  obtain ⟨n, hn⟩ : ∃ n, N.length = n := ⟨_, rfl⟩
  obtain ⟨W1, hW1⟩ : ∃ W1, W.alloc (.cells #[.func (.yield l) #[] #[]] 59) = W1 := ⟨_, rfl⟩
  have hz1 : W1.heap.size = wB + 1 := by rw [← hW1, World.size_alloc, hwB]
  have y1 : Boxed W1 wB 59 (.func (.yield l) #[] #[]) := by rw [← hW1, ← hwB]; exact Boxed.new W _ _
  have hbB : Below B0 w W1 := by rw [← hW1]; exact hW.alloc (by omega) _
  have HR := hid (fun wx (hb : Below (wB + 1) W1 wx) => hrw wx (hbB.trans (hb.mono (by omega))))
  have HG := hid (fun wx (hb : Below (wB + 1) W1 wx) => And.intro (show Boxed wx g1 22 sv from (hb.block _ (by omega)).trans ((hbB.block _ b1).trans h1)) (show IBox wx g2 mo from (hb.block _ (by omega)).trans ((hbB.block _ b2).trans h2)))
  have HCl := hid (fun wx (hb : Below (wB + 1) W1 wx) => show Calls Try.prog 33 #[sv] wx fun e w' => (∃ g c, e = .returned (.slice (some ⟨g, 0, none⟩) n c) ∧ OI w' wx.heap.size (.slice (some ⟨g, 0, none⟩) n c) (iN N)) ∧ Below wx.heap.size wx w' ∧ w'.heap.size = wx.heap.size + 2 by
    have := clone_sz sv (iN N) wx (HR.out wx hb) (by rw [iN_len]; exact hn1) (by rw [iN_len]; omega)
    rw [iN_len, hn] at this
    exact this)
  have HSu := hid (fun wx (hb : Below (wB + 1) W1 wx) => show Calls Try.prog 34 #[sv] wx fun e w' => e = .returned (.int .i64 (pl : Int)) ∧ w' = wx by
    have := sumOf_any sv N wx (HR.out wx hb) (by show tN2 N ≤ 24; omega) hn16
    rw [show sN N N.length = pl from hpl] at this
    exact this)
  have HY := hid hY
  have HJ := hid hJ
  have HJx := hid hJx
  have H0 := hid h0
  have c1 := (HG.out W1 (Below.refl _ _)).1.cell
  clear hJ hJx hY h0 h1 h2 hr hrw hW
  have HK := hid (fun wx (hb : LtW W1 wx) => show wx.cell? ⟨g1, 0, none⟩ = some sv from (HG.out wx (hb.mono (by omega))).1.cell)
  have HCl2 := hid (fun wx (hb : LtW W1 wx) => HCl.out wx (hb.mono (by omega)))
  have HSu2 := hid (fun wx (hb : LtW W1 wx) => HSu.out wx (hb.mono (by omega)))
  have l0 : LtW W1 W1 := Below.refl _ _
  have l1 : LtW W1 W1.drew := l0.drew
  clear HCl HSu
  refine callsIn_wide.2 ?_
  go_enter Try.func39, Try.ntmps39
  go_upto_region 1 with fail
  go_cut [4, 5] from 8 (fun s4 s5 wx => ∃ bL bP, s4 = .pointer (some ⟨bL, 0, none⟩) ∧ s5 = .pointer (some ⟨bP, 0, none⟩) ∧ Cl4 wB n pl N W1 wx bL bP)
  case first =>
    first
      | go_region_held3 (fun wx => wx.cell? ⟨g1, 0, none⟩ = some sv) ((refine HK.out _ ?_; repeat (first | assumption | refine LtW.alloc ?_ _ | refine LtW.drew ?_ | refine LtW.set ?_ (by simp <;> omega) _))) (first
        | (go_at_call 33; refine (HCl2.out _ ?_).mono ?_; (repeat (first | assumption | refine LtW.alloc ?_ _ | refine LtW.drew ?_ | refine LtW.set ?_ (by simp <;> omega) _)); rintro e w3 ⟨⟨aL, cL, rfl, ho⟩, hb3, hz3⟩; have kc := cells_eq hb3; have kf := frozen_eq hb3; have l3 : LtW W1 w3 := by (refine LtW.step ?_ hb3; repeat (first | assumption | refine LtW.alloc ?_ _ | refine LtW.drew ?_ | refine LtW.set ?_ (by simp <;> omega) _)))
        | (go_at_call 34; refine (HSu2.out _ ?_).mono ?_; (repeat (first | assumption | refine LtW.alloc ?_ _ | refine LtW.drew ?_ | refine LtW.set ?_ (by simp <;> omega) _)); rintro e w5 ⟨rfl, hw5⟩; have hws := hw5.symm; clear hw5; subst hws))
      | fail
    all_goals
      go_wp2_with fail
      go_meet
      have q := ho.own_lt aL rfl
      have h3 := hz3
      simp only [World.size_alloc, World.size_drew, hz1] at q h3
      refine ⟨_, _, rfl, rfl, ⟨⟨aL, cL, by omega, by omega, by omega, by omega, ?_, ?_⟩, ⟨by omega, by omega⟩, ⟨by omega, by omega⟩, by omega, ?_, by simp; omega, ?_⟩⟩
      · repeat (first
          | (refine bx_a _ _ ?_ _ _; first | exact h3 | exact hz1 | (simp; omega); done)
          | (refine bx_s ?_)
          | (refine be_a _ _ ?_ _ _; first | exact h3 | exact hz1 | (simp; omega); done)
          | (refine be_al ?_ _)
          | (refine be_o ?_ ?_ _; rotate_left; omega)
          | (refine be_k hb3 ?_)
          | (refine bx_o ?_ ?_ _; rotate_left; omega)
          | (refine Boxed.alloc ?_ _)
          | (refine bx_k hb3 ?_))
      · refine OI.stay (ho.mono ?_) (fun g e => ?_)
        · first | omega | (simp; omega)
        · have e : aL = g := Option.some.inj e
          subst e
          repeat (first
            | rfl
            | (refine (Lib.alloc_old _ _ _ ?_).trans ?_; (first | omega | (simp; omega)))
            | (refine (hp_o ?_ ?_ _).trans ?_; (first | omega | (simp; omega)); omega))
      · repeat (first
          | (refine bx_a _ _ ?_ _ _; first | exact h3 | exact hz1 | (simp; omega); done)
          | (refine bx_s ?_)
          | (refine be_a _ _ ?_ _ _; first | exact h3 | exact hz1 | (simp; omega); done)
          | (refine be_al ?_ _)
          | (refine be_o ?_ ?_ _; rotate_left; omega)
          | (refine be_k hb3 ?_)
          | (refine bx_o ?_ ?_ _; rotate_left; omega)
          | (refine Boxed.alloc ?_ _)
          | (refine bx_k hb3 ?_))
      · rw [← hz1]
        show LtW W1 _
        repeat (first | exact l3 | refine LtW.alloc ?_ _ | refine LtW.set ?_ (by simp <;> omega) _)
  case rest =>
    obtain ⟨bL, bP, rfl, rfl, hc4⟩ := hcut
    have HC4 := hid hc4
    have hzc := hc4.sz
    have c5 := hc4.bp.cell
    have c6 : ∀ o1 o2 o3, (((wc.alloc o1).alloc o2).alloc o3).cell? ⟨g2, 0, none⟩ = some (.int .i64 mo) := fun o1 o2 o3 => ((HG.out _ (((hc4.be.alloc (by omega) o1).alloc (by simp; omega) o2).alloc (by simp; omega) o3)).2).facts.1
    have hmk := run_mk0 pl (by omega)
    have hmf : ∀ (fn : Fn) (first cap : Array Value) (w : World), (Instr.makeFunc fn first cap).run Try.prog w = .ok (.func fn first cap) w := fun _ _ _ _ => rfl
    obtain ⟨Z, hZ⟩ : ∃ Z, (ic (List.replicate pl 0)).toArray = Z := ⟨_, rfl⟩
    rw [hZ] at hmk
    have HZ := hid hZ
    clear hc4 hZ
    go_wp2_with fail
    obtain ⟨W9, hW9⟩ : ∃ W9, (((wc.alloc (.cells Z 3)).alloc (.cells #[.slice (some ⟨wB + 5, 0, none⟩) 0 pl] 22)).alloc (.cells #[.func (.func 40) #[] (capsF wB bL bP (wB + 5 + 1) (wB + 5 + 1 + 1))] 66)) = W9 := ⟨_, rfl⟩
    have hW9' := hW9
    unfold capsF at hW9'
    rw [hW9']
    obtain ⟨aL, cL, a1, a2, a3, a4, a5, a6⟩ := HC4.out.ex
    have hId : ID wB wB bL aL bP (wB + 6) (wB + 5) (wB + 7) := ⟨rfl, HC4.out.l, ⟨a1, a2⟩, HC4.out.p, a3, HC4.out.lp, a4, rfl, rfl, rfl⟩
    have hb9 : Below (wB + 5) wc W9 := by
      rw [← hW9]
      exact (((Below.refl _ _).alloc (by omega) _).alloc (by simp; omega) _).alloc (by simp; omega) _
    have hz9 : W9.heap.size = wB + 8 := by rw [← hW9]; simp; omega
    have kp : ∀ g, g < wB + 5 → W9.heap[g]? = wc.heap[g]? := fun g hg => hb9.block g hg
    have hF : FS wB wB bL aL bP (wB + 6) (wB + 5) (wB + 7) n cL pl l W9 N [] := by
      refine ⟨by omega, (kp _ (by omega)).trans ((HC4.out.be.block _ (by omega)).trans y1), (kp _ (by have := HC4.out.l; omega)).trans a5, a6.stay (fun g e => (Option.some.inj (show some aL = some g from e)) ▸ kp _ (by omega)), (kp _ (by have := HC4.out.p; omega)).trans HC4.out.bp, ?_, ?_, ?_, hn⟩
      · rw [← hW9]
        exact (bx_a _ _ (by simp; omega) _ _).alloc _
      · have h5 : W9.heap[wB + 5]? = some (.cells (ic (List.replicate pl 0)).toArray 3 (0, 0)) := by
          rw [← hW9, Lib.alloc_old _ _ _ (by simp; omega), Lib.alloc_old _ _ _ (by simp; omega), HZ.out, ← hzc]
          exact heap_alloc_new wc _
        exact ⟨rfl, .inr ⟨wB + 5, pl, _, rfl, by omega, h5, Nat.zero_le _, by unfold maxLen; omega, by simp [ic], by simp [ic, iN]⟩⟩
      · rw [← hW9]
        exact bx_a _ _ (by simp; omega) _ _
    have hJ9 : J 0 W9 := by
      refine HJ.out 0 W W9 H0.out ⟨?_, ?_, ?_, ?_, ?_⟩
      · rw [hb9.os, HC4.out.be.os, ← hW1]; rfl
      · rw [hb9.tape, HC4.out.be.tape, ← hW1]; rfl
      · rw [hb9.output, HC4.out.be.output, ← hW1]; rfl
      · omega
      · intro k hk _
        rw [kp k (by omega), HC4.out.be.block k (by omega), ← hW1]
        exact Lib.alloc_old W _ k (by omega)
    have HS := hid (callsIn_wide.1 (search_any Bk wB wB bL aL bP (wB + 6) (wB + 5) (wB + 7) n cL pl l hId (by omega) h24 (FL pl N (-1) mo) J Jx HJ.out HJx.out (fun k v A W1 h1 h2 h3 h4 h5 => HY.out k v A W1 h1 h2 h3 h4 h5) pl N [] (-1) mo 0 W9 hpl rfl hF (.inl rfl) hm0 hm1 (fun i x hx => by rw [Nat.zero_add]; exact hx) hJ9))
    clear hF hJ9 kp hb9 hW9 hW9' a5 a6
    refine Calls.mono HS.out ?_
    rintro e W' ⟨b, rfl, hf, hz⟩
    have HZ2 := hid hz
    clear hz hf
    go_wp2
    go_end0
    rcases HZ2.out with ⟨_, hj⟩ | ⟨_, k9, hx⟩
    · rw [Nat.zero_add] at hj
      exact ⟨⟨_, rfl⟩, .inl hj⟩
    · exact ⟨⟨_, rfl⟩, .inr ⟨k9, hx⟩⟩
end Go.Proofs.Ytaiccmbhdgecgaa
