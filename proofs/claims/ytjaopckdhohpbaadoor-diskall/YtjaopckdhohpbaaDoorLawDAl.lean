/-
  DiskAll: the law's walk.
-/
import Derived.Test.YtjaopckdhohpbaaDoorChu
import Derived.Stop.RegionWithIn
import Derived.Sort.CutIn
import Derived.Deep.RegionHeld3
namespace Go.Proofs.YtjaopckdhohpbaaDoor
open Go.RowKit Go.Shelf
set_option maxRecDepth 100000
set_option linter.unusedVariables false
set_option linter.unusedSimpArgs false
attribute [local go_sem] Oper.semAt_some

theorem seq_not (fn : Fn) (fi ca : Array Value) (w : World) : (binOp .eql 28 (.func fn fi ca) .nilFunc).run Tryd.prog w = .ok (.bool false) w := eql_func_nil w Tryd.underlying28 fn fi ca
theorem results_cellB {fn : Func} {p : Tmp} (h : fn.results = #[.cell p 4]) (tmps : Array Value) (w : World) (g : Nat) (b : Bool) (hp : tmps.getD p undef = .pointer (some ⟨g, 0, none⟩)) (hc : w.cell? ⟨g, 0, none⟩ = some (.bool b)) : (results fn tmps).run Tryd.prog w = .ok (.bool b) w := by
  have hp' : tmps[p]?.getD undef = .pointer (some ⟨g, 0, none⟩) := by simpa using hp
  simp [results, h, hp', asAddr, go_sem, hc]
/-- the append by a name of its own -/
def apC (a : Array Value) : Sem Value := Builtin.append_ #[31, 31] 31 a
theorem apC_op (a : Array Value) : Builtin.append_ #[31, 31] 31 a = apC a := rfl
attribute [local go_sem ↓] apC_op
set_option maxHeartbeats 16000000 in
theorem all_law (v : Value) (P : List Pt) (w : World) (hfl : HasFl w) (hp : PT w v P) (hP : P.length ≤ 9223372036854775807) :
    Calls Tryd.prog 3 #[v] w fun e w' => e = .returned (.bool true) ∧ Below w.heap.size w w' := by
  have hw0 : 0 < w.heap.size := by
    obtain ⟨t, fr, hh⟩ := hfl
    exact (Array.getElem?_eq_some_iff.1 hh).1
  have hmf : ∀ (fn : Fn) (first cap : Array Value) (w : World), (Instr.makeFunc fn first cap).run Tryd.prog w = .ok (.func fn first cap) w := fun _ _ _ _ => rfl
  obtain ⟨w0, hw0e⟩ : ∃ w0, w.alloc (.cells #[.bool false] 4) = w0 := ⟨_, rfl⟩
  have b0 : Below w.heap.size w w0 := by rw [← hw0e]; exact alloc_below _ _
  have x2 : w0.heap[w.heap.size]? = some (.cells #[.bool false] 4 (0, 0)) := by rw [← hw0e]; exact heap_alloc_new w _
  have z0 : w0.heap.size = w.heap.size + 1 := by rw [← hw0e]; simp
  have hp0 := hp.below b0
  have hfl0 := hfl.below b0
  obtain ⟨ao, pc, rfl, hpc, hpn, hpr⟩ := hp
  have HB0 := hid (And.intro b0 (And.intro x2 z0))
  have HFl := hid hfl0
  obtain ⟨Q, hQ⟩ : ∃ Q, P.take 7 = Q := ⟨_, rfl⟩
  have hQl : Q.length = min P.length 7 := by rw [← hQ, List.length_take, Nat.min_comm]
  have hQ7 : Q.length ≤ 7 := by omega
  have hq0 : PT w0 (.slice ao Q.length pc) Q := by
    have := hp0.take (min P.length 7) (Nat.min_le_left _ _)
    rw [show P.take (min P.length 7) = P.take 7 by rcases Nat.le_total P.length 7 with h | h; (· rw [Nat.min_eq_left h, List.take_of_length_le h, List.take_length]); (· rw [Nat.min_eq_right h]), hQ, ← hQl] at this
    exact this
  have HLd := hid (laid_any _ Q w0 hfl0 hq0 (by omega) (by omega))
  have HAre := hid (show 0 < w.heap.size from hw0)
  clear b0 x2 hp0 hfl0 hpr hfl hq0
  refine (callsIn_wide (n := 5)).1 ?_
  refine callsIn_of_wp_marks Tryd.func3 rfl trivial ?_ rfl
  simp only [Tryd.ntmps3, List.size_toArray, List.length_cons, List.length_nil, Nat.reduceAdd, Nat.reduceSub, Array.replicate_succ, Array.replicate_zero, List.push_toArray, List.append_toArray, List.nil_append, List.cons_append]
  gi_upto_if 13 with fail
  gi_cut [0] from 11 (fun s0 wx => s0 = .slice ao Q.length pc ∧ wx = w0)
  case first =>
    by_cases h7 : 7 < P.length
    · have h7I : (7 : Int) < (P.length : Int) := by omega
      have h7c : (7 : Int) ≤ (pc : Int) := by omega
      have h7n : 7 ≤ pc := by omega
      gi_wp2_with fail
      gi_meet
      exact ⟨by rw [show Q.length = 7 by omega], rfl⟩
    · have h7I : ¬ (7 : Int) < (P.length : Int) := by omega
      gi_wp2_with fail
      gi_meet
      exact ⟨by rw [show Q.length = P.length by omega], rfl⟩
  case rest =>
    obtain ⟨rfl, hwc⟩ := hcut
    subst hwc
    clear hQl hQ hpc hpn hP
    gi_wp2_with fail
    refine ⟨trivial, (callsIn_wide.2 HLd.out).mono ?_⟩
    rintro e w1 ⟨⟨d, f, s, cap, tail, dv, rfl, hdk⟩, hb1⟩
    obtain ⟨O, hO⟩ : ∃ O, Q.map opP = O := ⟨_, rfl⟩
    have hOl : O.length = Q.length := by rw [← hO, List.length_map]
    have HOk := hid (show OkO (zs 768).length O by rw [← hO, zs_len]; exact OkP Q)
    rw [hO] at hdk
    obtain ⟨N, hN⟩ : ∃ N, O.length = N := ⟨_, rfl⟩
    have hN7 : N ≤ 7 := by omega
    obtain ⟨k, hk⟩ : ∃ k, N - brr O N = k := ⟨_, rfl⟩
    have hk7 : k ≤ 7 := by omega
    have HN := hid hN
    have HK := hid hk
    obtain ⟨w2, hw2⟩ : ∃ w2, w1.alloc (.cells #[.pointer (some ⟨d, 0, none⟩)] 23) = w2 := ⟨_, rfl⟩
    have b2 : Below w1.heap.size w1 w2 := by rw [← hw2]; exact alloc_below _ _
    have x3 : w2.heap[w1.heap.size]? = some (.cells #[.pointer (some ⟨d, 0, none⟩)] 23 (0, 0)) := by rw [← hw2]; exact heap_alloc_new w1 _
    have z2 : w2.heap.size = w1.heap.size + 1 := by rw [← hw2]; simp
    have HW2 := hid hw2
    have c3 : w2.cell? ⟨w1.heap.size, 0, none⟩ = some (.pointer (some ⟨d, 0, none⟩)) := by rw [Lib.cell_of_heap x3]; rfl
    have HD2 := hid (hdk.below b2)
    have HB2 := hid (show Below w.heap.size w w2 from HB0.out.1.trans ((hb1.trans (b2.mono hb1.size)).mono HB0.out.1.size))
    have HX := hid (And.intro ((hb1.trans (b2.mono hb1.size)).block _ (by have := HB0.out.2.2; omega) |>.trans HB0.out.2.1) x3)
    have HF2 := hid (HFl.out.below (hb1.trans (b2.mono hb1.size)))
    have HPe := hid (pending_any _ d f s cap tail (zs 768) (seenP Q) dv O w2 HF2.out HD2.out HOk.out (by omega))
    rw [hN, hk] at HPe
    have HZ2 := hid z2
    have HZ1 := hid (show w.heap.size + 1 ≤ w1.heap.size by have := hb1.size; have := HB0.out.2.2; omega)
    clear hO hOl hN hk hb1 hw2 b2 x3 hdk z2 hQ7 HLd
    gi_wp2_with fail
    rw [HW2.out]
    refine ⟨trivial, (callsIn_wide.2 HPe.out).mono ?_⟩
    rintro e w3 ⟨⟨pg, rfl⟩, hb3⟩
    have HD3 := hid (HD2.out.below hb3)
    have HF3 := hid (HF2.out.below hb3)
    have HB3 := hid (HB2.out.trans (hb3.mono HB2.out.size))
    have HX3 := hid (show w3.heap[w.heap.size]? = some (.cells #[.bool false] 4 (0, 0)) ∧ w3.heap[w1.heap.size]? = some (.cells #[.pointer (some ⟨d, 0, none⟩)] 23 (0, 0)) from ⟨(hb3.block _ (Array.getElem?_eq_some_iff.1 HX.out.1).1).trans HX.out.1, (hb3.block _ (Array.getElem?_eq_some_iff.1 HX.out.2).1).trans HX.out.2⟩)
    have HZ3 := hid (show w1.heap.size + 1 ≤ w3.heap.size by have := hb3.size; have := HZ2.out; omega)
    have HCo := hid (fun (wx : World) (hb : Below w3.heap.size w3 wx) => by have := count_any wc.heap.size d f s cap tail (zs 768) (seenP Q) dv O wx (HD3.out.below hb); rw [HN.out] at this; exact this)
    have HCh := hid (fun (wx : World) (hb : Below w3.heap.size w3 wx) => (choices_any wc.heap.size d f s cap N k tail (zs 768) (seenP Q) dv O wx (HF3.out.below hb) (HD3.out.below hb) HOk.out (by have := HN.out; omega) (by have := HN.out; omega) HK.out (by omega)).mono fun e w' g => (show (∃ g, e = .returned (.func (.func 29) #[] #[.pointer (some ⟨g, 0, none⟩)]) ∧ IBox w' g (k : Int)) ∧ Below w3.heap.size w3 w' from ⟨by obtain ⟨⟨g, h1, h2, h3⟩, _⟩ := g; exact ⟨g, h1, h2⟩, hb.trans (g.2.mono hb.size)⟩))
    have hkI : (k : Int) ≤ 7 := by omega
    clear hb3 HPe HD2 HF2 HX HB2 HW2 c3
    gi_upto_region 7 with fail
    gi_cut [5] from 11 (fun s5 wx => (∃ g, s5 = .func (.func 29) #[] #[.pointer (some ⟨g, 0, none⟩)] ∧ IBox wx g (k : Int)) ∧ Below w3.heap.size w3 wx)
    case first =>
      have c3 : w3.cell? ⟨w1.heap.size, 0, none⟩ = some (.pointer (some ⟨d, 0, none⟩)) := by rw [Lib.cell_of_heap HX3.out.2]; rfl
      have s0 : Below w3.heap.size w3 w3.drew := (Below.refl _ _).drew
      refine Code.wpIn_mono NoPanic.imp ?_
      gi_region_with (first
        | (refine ⟨trivial, ?_⟩; refine (callsIn_wide.2 (HCo.out _ s0)).mono ?_; rintro e wz ⟨rfl, hwz⟩; have hws := hwz.symm; clear hwz; subst hws)
        | (refine ⟨trivial, ?_⟩; refine (callsIn_wide.2 (HCh.out _ s0)).mono ?_; rintro e w4 ⟨⟨g4, rfl, x4⟩, s4⟩))
      all_goals
        refine NoPanic.normal ?_
        gi_wp2_with fail
        gi_meet
        exact ⟨⟨_, rfl, x4⟩, s4⟩
    case rest =>
      obtain ⟨⟨g, rfl, hx⟩, hb4⟩ := hcut
      obtain ⟨ws, hws⟩ : ∃ ws, ws = wc := ⟨_, rfl⟩
      subst hws
      have HDs := hid (HD3.out.below hb4)
      have HFs := hid (HF3.out.below hb4)
      have HBs := hid (HB3.out.trans (hb4.mono HB3.out.size))
      have HZs := hid (show w1.heap.size + 1 ≤ ws.heap.size by have := hb4.size; have := HZ3.out; omega)
      have HXs := hid (show ws.heap[w.heap.size]? = some (.cells #[.bool false] 4 (0, 0)) ∧ ws.heap[w1.heap.size]? = some (.cells #[.pointer (some ⟨d, 0, none⟩)] 23 (0, 0)) from ⟨(hb4.block _ (Array.getElem?_eq_some_iff.1 HX3.out.1).1).trans HX3.out.1, (hb4.block _ (Array.getElem?_eq_some_iff.1 HX3.out.2).1).trans HX3.out.2⟩)
      have HCw := hid (fun (wx : World) (hb : Below ws.heap.size ws wx) => by have := count_any _ d f s cap tail (zs 768) (seenP Q) dv O wx (HDs.out.below hb); rw [HN.out] at this; exact this)
      have HAt := hid (fun (wx : World) (hb : Below ws.heap.size ws wx) (kv : Value) (q : List Int × Int × Int) (hr : RI wx kv q.1) (hl : q.1.length ≤ 10) (h0 : 0 ≤ q.2.2) (h1 : q.2.2 ≤ 128) => at_any _ d f s cap N tail (zs 768) (seenP Q) dv kv O q.1 q.2.1 q.2.2 wx (HFs.out.below hb) (HDs.out.below hb) HOk.out (by have := HN.out; omega) (by have := HN.out; omega) (by rw [zs_len]; omega) (by rw [zs_len]; omega) hr (by omega) h0 h1)
      have HSq := hid (ch_seq g k ws.heap.size ws (by omega) hx.facts.2.2 hx)
      obtain ⟨M, hM⟩ : ∃ M, (chA k).length = M := ⟨_, rfl⟩
      have hMe := chA_len ⟨k, by omega⟩
      have HM := hid hM
      have hseqn := seq_not (.func 29) #[] #[.pointer (some ⟨g, 0, none⟩)]
      obtain ⟨wb, hwb⟩ : ∃ wb, ws.alloc (.cells #[.slice none 0 0] 31) = wb := ⟨_, rfl⟩
      have bwb : Below ws.heap.size ws wb := by rw [← hwb]; exact alloc_below _ _
      have xsb : wb.heap[ws.heap.size]? = some (.cells #[.slice none 0 0] 31 (0, 0)) := by rw [← hwb]; exact heap_alloc_new ws _
      have zwb : wb.heap.size = ws.heap.size + 1 := by rw [← hwb]; simp
      have HZb := hid zwb
      have HWb := hid hwb
      have HBb := hid bwb
      have HI0 := hid (show SnI k ws ws.heap.size wb.heap.size 0 (.slice none 0 0) [] wb from ⟨bwb, xsb, World.ownsRow_nil _ _ _ _, rfl, Nat.zero_le _, by simp⟩)
      clear bwb xsb zwb hwb hx HCo HCh HD3 HF3 HB3 HX3 HZ3 HZ2 hb4 hM
      gi_wp2_with fail
      rw [HWb.out]
      have hsb : ws.heap.size < wb.heap.size := by have := HZb.out; omega
      refine range_w3 (w0 := ws) (gf := 29) (lb := #[.pointer (some ⟨g, 0, none⟩)]) (n := (chA k).length) (D := DcV k) (q := 7) rfl (enters_of Tryd.func29 (by kernel_rfl) rfl) HSq.out HBb.out (fun n W => ∃ sv L, SnI k ws ws.heap.size wb.heap.size n sv L W) ?hI ⟨_, _, HI0.out⟩ crO ?assign ?body ?go
      case hI =>
        rintro n A A' ⟨sv, L, hs⟩ hc
        exact ⟨sv, L, hs.chg hsb (by omega) hc⟩
      case assign =>
        rintro l x W K ⟨n, A, W1, q, kv, _, rfl, hok⟩ hK
        obtain ⟨ko, kc, rfl⟩ := hok.sl
        clear hok
        have HKK := hid hK
        unfold crO at HKK
        simp only [List.setIfInBounds_toArray, List.set_cons_succ, List.set_cons_zero] at HKK ⊢
        clear hK
        gi_wp2
        exact HKK.out
      case body =>
        rintro l n x A W1 W ⟨sv, L, hs⟩ hn hAW hD hc hz hsz
        obtain ⟨q, kv, hq, rfl, ho, hs2, hx7⟩ := hs.fresh hsb (by omega) hAW hD hc hz hsz
        have hzW : wb.heap.size + 2 ≤ W.heap.size := by have := hAW.size; omega
        simp only [List.setIfInBounds_toArray, List.set_cons_succ, List.set_cons_zero]
        have hqa := chA_at hq
        obtain ⟨kl, kT, kB⟩ := q
        simp only [] at hq ho hx7 hqa
        obtain ⟨ko, kc, rfl⟩ := ho.sl
        obtain ⟨tb, htb⟩ : ∃ tb, W1.heap.size = tb := ⟨_, rfl⟩
        rw [htb] at hx7 ⊢
        obtain ⟨so, sc, rfl⟩ := hs2.form
        have HS := hid hs2
        have HO := hid ho
        have HQ := hid hq
        have HQa := hid hqa
        have HZW := hid hzW
        have HX7 := hid (fun (wx : World) (hb : Below W.heap.size W wx) => (show (wx.cell? ⟨tb, 0, none⟩ = some (.slice ko kl.length kc) ∧ wx.cell? ⟨tb, 1, none⟩ = some (.int .i64 kT) ∧ wx.cell? ⟨tb, 2, none⟩ = some (.int .i64 kB)) ∧ wx.cell? ⟨w1.heap.size, 0, none⟩ = some (.pointer (some ⟨d, 0, none⟩)) ∧ wx.cell? ⟨ws.heap.size, 0, none⟩ = some (.slice so n sc) from by
          have h7 := (hb.block tb (Array.getElem?_eq_some_iff.1 hx7).1).trans hx7
          have h6 := (hb.block _ (Array.getElem?_eq_some_iff.1 hs2.box).1).trans hs2.box
          have h3 := ((hs2.be.trans (hb.mono hs2.be.size)).block _ (Array.getElem?_eq_some_iff.1 HXs.out.2).1).trans HXs.out.2
          exact ⟨⟨by rw [Lib.cell_of_heap h7]; rfl, by rw [Lib.cell_of_heap h7]; rfl, by rw [Lib.cell_of_heap h7]; rfl⟩, by rw [Lib.cell_of_heap h3]; rfl, by rw [Lib.cell_of_heap h6]; rfl⟩))
        have HC2 := hid (fun (wx : World) (hb : Below W.heap.size W wx) => HCw.out wx (hs2.be.trans (hb.mono hs2.be.size)))
        have HA2 := hid (fun (wx : World) (hb : Below W.heap.size W wx) => (HAt.out wx (hs2.be.trans (hb.mono hs2.be.size)) _ (kl, kT, kB) (ho.later hb).ri hqa.1 hqa.2.1 hqa.2.2).mono fun e w' g => (show (∃ v', e = .returned (.tuple #[v', .int .i64 0])) ∧ Below W.heap.size W w' from ⟨by obtain ⟨⟨v', h1, _⟩, _⟩ := g; exact ⟨v', h1⟩, hb.trans (g.2.mono hb.size)⟩))
        have HCr := hid (fun (wx : World) (hb : Below W.heap.size W wx) (j : Nat) (hj : j < n) (a : Value) (p : List Int × Int × Int) (hp : (chA k)[j]? = some p) (ha : OwK W (wb.heap.size + 2) a p.1) => (crashes_any a (.slice ko kl.length kc) p (kl, kT, kB) wx (ha.later hb).ri (ho.later hb).ri (by have := (chA_at hp).1; omega) (by have := hqa.1; simp only []; omega) (fun e => by
          have hn' := (List.getElem?_eq_some_iff.1 hq)
          have hj' := (List.getElem?_eq_some_iff.1 hp)
          exact chA_apart k hk7 j n hj hn'.1 (by rw [hj'.2, hn'.2, e]))).mono fun e w' g => (show e = .returned (.bool false) ∧ Below W.heap.size W w' from ⟨g.1, hb.trans (g.2.mono hb.size)⟩))
        have hnM : n ≤ 1000000 := by
          have : 2 ^ k ≤ 2 ^ 7 := Nat.pow_le_pow_right (by omega) hk7
          have h2 : k * 2 ^ k ≤ 7 * 2 ^ 7 := Nat.mul_le_mul hk7 this
          have h3 : (chA k).length ≤ 1000000 := by rw [hMe]; omega
          omega
        have hM6 : (chA k).length ≤ 1000000 := by
          have : 2 ^ k ≤ 2 ^ 7 := Nat.pow_le_pow_right (by omega) hk7
          have h2 : k * 2 ^ k ≤ 7 * 2 ^ 7 := Nat.mul_le_mul hk7 this
          rw [hMe]; omega
        clear hs hAW hD hc hz hsz ho hs2 hx7 hq hqa hzW htb hMe hseqn
        gi_upto_region 13 with fail
        gi_cut [9] from 31 (fun s9 wx => s9 = .int .i64 0 ∧ Below W.heap.size W wx)
        case first =>
          have s0 : Below W.heap.size W W.drew := (Below.refl _ _).drew
          obtain ⟨⟨c0, c1, c2⟩, c3, c6⟩ := HX7.out W (Below.refl _ _)
          refine Code.wpIn_mono NoPanic.imp ?_
          gi_region_with (first
            | (refine ⟨trivial, ?_⟩; refine ((callsIn_wide.2 (HC2.out _ s0)).inRound l).mono ?_; rintro e wz ⟨rfl, hwz⟩; have hws := hwz.symm; clear hwz; subst hws)
            | (refine ⟨trivial, ?_⟩; refine ((callsIn_wide.2 (HA2.out _ s0)).inRound l).mono ?_; rintro e w4 ⟨⟨v4, rfl⟩, s4⟩))
          all_goals
            refine NoPanic.normal ?_
            gi_wp2_with fail
            gi_meet
            exact ⟨rfl, s4⟩
        case rest =>
          obtain ⟨rfl, hbW⟩ := hcut
          have HBW := hid hbW
          clear hbW
          gi_wp2_with fail
          gi_loopw [10] (fun s10 wr => ∃ j : Nat, s10 = .int .i64 (j : Int) ∧ j ≤ n ∧ Below W.heap.size W wr) (fun s10 _ => n - (intOf s10).toNat)
          case atStart => exact ⟨0, rfl, Nat.zero_le _, HBW.out⟩
          case round =>
            obtain ⟨j, rfl, hj, hbr⟩ := hrel
            have HBR := hid hbr
            clear hbr HBW
            obtain ⟨⟨c0, c1, c2⟩, c3, c6⟩ := HX7.out wr HBR.out
            by_cases hlt : j < n
            · have hI : (j : Int) < (n : Int) := by omega
              have hdI : decide (j < n) = true := by simp; exact hlt
              obtain ⟨sg, sc', a, p, hsv, hnc, hp, ha, hg, _, e0, e1, e2⟩ := HS.out.at j hlt
              simp only [Value.slice.injEq] at hsv
              obtain ⟨rfl, _, rfl⟩ := hsv
              obtain ⟨pl, pT, pB⟩ := p
              simp only [] at hp ha e1 e2
              obtain ⟨ao', ac', rfl⟩ := ha.sl
              have k0 := below_cells HBR.out _ _ e0
              have k1 := below_cells HBR.out _ _ e1
              have k2 := below_cells HBR.out _ _ e2
              have HC3 := hid (fun (wx : World) (hb : Below W.heap.size W wx) => HCr.out wx hb j hlt _ (pl, pT, pB) hp ha)
              have s0 : Below W.heap.size W wr.drew := HBR.out.drew
              have hncI : (n : Int) ≤ (sc : Int) := by omega
              clear e0 e1 e2 hp ha hg
              gi_wp2_with fail
              refine Code.wpIn_mono NoPanic.imp ?_
              gi_region_with (refine ⟨trivial, ?_⟩; refine ((callsIn_wide.2 (HC3.out _ s0)).inRound l).mono ?_; rintro e w5 ⟨rfl, s5⟩)
              all_goals
                refine NoPanic.normal ?_
                gi_wp2
                go_roundw
                case rel => exact ⟨j + 1, by go_num, by omega, s5⟩
                case measure => simp [intOf]; omega
            · have hI : ¬ (j : Int) < (n : Int) := by omega
              have hdI : decide (j < n) = false := by simp; omega
              have hsr := HS.out.later hsb (by omega) HBR.out
              have hzr := HBR.out.size
              have hor := HO.out.later HBR.out
              obtain ⟨v', w2', hap, hc', hf', hs', hk'⟩ := hsr.app hsb (Nat.le_refl _) (by have := HZW.out; omega) hM6 (kl, kT, kB) HQ.out _ hor
              simp only [] at hap
              rw [apC_op] at hap
              obtain ⟨vo, vc, rfl⟩ := hs'.form
              have HS' := hid hs'
              have HK' := hid (show KpW ws.heap.size wb.heap.size 2 W _ from KpW.trans ⟨HBR.out.size, fun g hg => HBR.out.block g (by have := HZW.out; have := HS.out.be.size; omega)⟩ hk')
              clear hs' hk' hsr hor
              gi_wp2
              exact .inl ⟨rfl, HK'.out, _, _, HS'.out⟩
      case go =>
        rintro W ⟨sv, L, hs⟩ hK
        obtain ⟨so, sc, rfl⟩ := hs.form
        have hsh := shl_one ⟨k, by omega⟩
        simp only [] at hsh hMe
        rw [hMe] at hs
        obtain ⟨P2, hP2⟩ : ∃ P2, P2 = 2 ^ k := ⟨_, rfl⟩
        rw [← hP2] at hs hsh
        have hP7 : P2 ≤ 128 := by rw [hP2]; exact Nat.pow_le_pow_right (by omega : 0 < 2) hk7
        obtain ⟨R, hR⟩ : ∃ R, R = k * P2 := ⟨_, rfl⟩
        have hR9 : R ≤ 7 * 128 := by rw [hR]; exact Nat.mul_le_mul hk7 hP7
        have hRI : (k : Int) * (P2 : Int) = (R : Int) := by rw [hR]; exact (Int.natCast_mul _ _).symm
        rw [← hR] at hs
        have HSh : wrap64 ((2 : Int) ^ k) = (P2 : Int) := hsh
        obtain ⟨R2, hR2⟩ : ∃ R2, R / 2 = R2 := ⟨_, rfl⟩
        have htd : Int.tdiv (R : Int) 2 = (R2 : Int) := by rw [← hR2]; exact (Int.tdiv_eq_ediv_of_nonneg (by omega)).trans (by omega)
        have hR29 : R2 ≤ 7 * 128 := by omega
        obtain ⟨n, hn⟩ : ∃ n, P2 + R2 = n := ⟨_, rfl⟩
        rw [hR2, hn] at hs
        have hnI : (P2 : Int) + (R2 : Int) = (n : Int) := by omega
        have hn9 : n ≤ 9 * 128 := by omega
        have c6 : W.cell? ⟨ws.heap.size, 0, none⟩ = some (.slice so n sc) := by rw [Lib.cell_of_heap hs.box]; rfl
        have hx2 := (hs.be.block _ (Array.getElem?_eq_some_iff.1 HXs.out.1).1).trans HXs.out.1
        have c2 : W.cell? ⟨w.heap.size, 0, none⟩ = some (.bool false) := by rw [Lib.cell_of_heap hx2]; rfl
        have f2 : W.frozen? ⟨w.heap.size, 0, none⟩ = false := Lib.frozen_of_heap hx2 0
        have hsz2 := hs.be.size
        have dl : wb.heap.size < W.heap.size := (Array.getElem?_eq_some_iff.1 hK).1
        have FIN := hid (fun (wx : World) (hb : Below W.heap.size W wx) => (show (wx.setCell ⟨w.heap.size, 0, none⟩ (.bool true)).heap[wb.heap.size]? = some (.deferred (some [])) ∧ ((wx.setCell ⟨w.heap.size, 0, none⟩ (.bool true)).putObj wb.heap.size (.deferred none)).cell? ⟨w.heap.size, 0, none⟩ = some (.bool true) ∧ Below w.heap.size w ((wx.setCell ⟨w.heap.size, 0, none⟩ (.bool true)).putObj wb.heap.size (.deferred none)) from by
          have hne : wb.heap.size ≠ w.heap.size := by have := HZs.out; have := HZ1.out; omega
          have k1 : (wx.setCell ⟨w.heap.size, 0, none⟩ (.bool true)).heap[wb.heap.size]? = some (.deferred (some [])) := (heap_setCell_other wx ⟨w.heap.size, 0, none⟩ wb.heap.size _ hne).trans ((hb.block _ dl).trans hK)
          have k2 := heap_setCell_same wx w.heap.size 0 _ _ (.bool true) ((hb.block w.heap.size (by have := HZs.out; have := HZ1.out; omega)).trans hx2)
          refine ⟨k1, ?_, ?_⟩
          · rw [Lib.cell_of_heap ((World.putObj_heap_other (fun e => hne e.symm)).trans k2)]
            rfl
          · have hws : w.heap.size ≤ ws.heap.size := HBs.out.size
            exact ((HBs.out.trans (hs.be.mono hws)).trans ((hb.mono (show w.heap.size ≤ W.heap.size by omega)).setCell (p := ⟨w.heap.size, 0, none⟩) (Nat.le_refl _) (.bool true))).trans (belowK_b (w := w) (Nat.le_refl _) _ wb.heap.size _ _ (by have := HZs.out; have := HZ1.out; omega) k1 rfl rfl)))
        have s0 : Below W.heap.size W W.drew := (Below.refl _ _).drew
        clear hs hK hMe hsh hP2 hR hR2 hn hx2 hseqn HM hsz2 dl
        gi_wp2_with fail
        refine Code.wpIn_mono NoPanic.imp ?_
        gi_region
        all_goals
          refine NoPanic.normal ?_
          obtain ⟨k1, k2, k3⟩ := FIN.out _ s0
          have K1 := hid k1
          have K3 := hid k3
          clear k1 k3
          gi_wp2
          refine ⟨by simp, .inl ⟨_, _, rfl, run_takeDeferred K1.out, ?_⟩⟩
          exact ⟨.bool true, results_cellB rfl _ _ (w.heap.size) true rfl k2, rfl, K3.out⟩
end Go.Proofs.YtjaopckdhohpbaaDoor
