/-
  PlanRestocks: the walk.
-/
import Derived.Test.YtgnnopjkbmbjbaaPq6
import Derived.Test.YtgnnopjkbmbjbaaPq7
import Derived.Test.YtgnnopjkbmbjbaaPq8
import Derived.Test.YtgnnopjkbmbjbaaItemsIn2
import Derived.Deep.RegionHeld3
namespace Go.Proofs.Ytgnnopjkbmbjbaa
open Go.RowKit
set_option maxRecDepth 100000
set_option linter.unusedSimpArgs false

def bhB : ByteArray := ⟨#[98, 101, 104, 105, 110, 100]⟩
def bhI : It := ⟨⟨#[98, 101, 104, 105, 110, 100]⟩, 0, 0, 0, 0, 0⟩
/-- half of what is there -/
def hlf (x : It) : It := { x with have_ := x.have_.tdiv 2 }
/-- the first n halved -/
def hfN (L : List It) (n : Nat) : List It := (L.take n).map hlf ++ L.drop n
theorem hfN_len (L : List It) (n : Nat) : (hfN L n).length = L.length := by simp [hfN]; omega
theorem hfN_zero (L : List It) : hfN L 0 = L := by simp [hfN]
theorem hfN_all (L : List It) : hfN L L.length = L.map hlf := by simp [hfN]
theorem hfN_at (L : List It) (n : Nat) (h : n < L.length) : (hfN L n)[n]'(by rw [hfN_len]; exact h) = L[n] := by
  have e : ((L.take n).map hlf).length = n := by simp; omega
  unfold hfN
  rw [List.getElem_append_right (by omega)]
  simp only [e, Nat.sub_self, List.getElem_drop, Nat.add_zero]
theorem hfN_succ (L : List It) (n : Nat) (h : n < L.length) : (hfN L n).set n (hlf L[n]) = hfN L (n + 1) := by
  have e : ((L.take n).map hlf).length = n := by simp; omega
  unfold hfN
  rw [List.take_succ_eq_append_getElem h, List.map_append, List.append_assoc, List.set_append_right _ _ (by omega), e, Nat.sub_self, List.drop_eq_getElem_cons h]
  rfl
theorem half_in {x : Int} (h : I64 x) : -9223372036854775808 ≤ x.tdiv 2 ∧ x.tdiv 2 ≤ 9223372036854775807 := by
  obtain ⟨h1, h2⟩ := h
  rcases Int.le_total 0 x with h0 | h0
  · rw [Int.tdiv_eq_ediv_of_nonneg h0]; omega
  · have e : x.tdiv 2 = -((-x).tdiv 2) := by rw [Int.neg_tdiv, Int.neg_neg]
    rw [e, Int.tdiv_eq_ediv_of_nonneg (by omega)]; omega
theorem iteminfo : (Try.prog.info? 24).map (fun i => (i.zero, i.size, i.bytes)) = some (some (.agg #[.string ⟨#[]⟩, .int .i64 0, .int .i64 0, .int .i64 0, .int .i64 0, .int .i64 0]), 6, 56) := by kernel_rfl
theorem RsE.two {L : List It} {b b' : Nat} {e e' : Ending} {w1 w2 : World} (h : RsE L b e w1) (h' : RsE L b' e' w2) : ∃ (v v' : Value) (M : List Ln) (er n : Int), e = .returned (.tuple #[v, .int .i64 er, .int .i64 n]) ∧ e' = .returned (.tuple #[v', .int .i64 er, .int .i64 n]) ∧ OL lnC 2 31 w1 b v M ∧ OL lnC 2 31 w2 b' v' M ∧ M.length ≤ L.length := by
  obtain ⟨v, M, er, n, rfl, hA, hO⟩ := h
  obtain ⟨v', M', er', n', rfl, hA', hO'⟩ := h'
  obtain ⟨rfl, rfl, rfl⟩ := hA.same hA'
  refine ⟨v, v', M, er, n, rfl, rfl, hO, hO', ?_⟩
  rcases hA with ⟨_, rfl, _⟩ | ⟨_, _, _, _, _, rfl, _⟩ | ⟨_, _, rfl, _⟩
  · simp
  · simp
  · exact rsL_len L
set_option maxHeartbeats 4000000 in
theorem planRestocks_any (v : Value) (L : List It) (w : World) (h : RL itC 6 w v L) (hok : ∀ x ∈ L, ItO x) (hs : L.length * 56 ≤ 140737488351232) :
    Calls Try.prog 4 #[v] w fun e w' => e = .returned (.bool true) ∧ Below w.heap.size w w' := by
  have H := hid h
  have HOK := hid hok
  obtain ⟨ao, cp, rfl⟩ := h.len0
  clear h hok
  go_enter Try.func4, Try.ntmps4
  go_wp2_with (at_builtin; refine wpList_appL (enc := itC) iteminfo Try.underlying29 rfl (by omega) itC_len itC_one rfl _ _ rfl w.heap.size _ _ rfl (OL.nil w w.heap.size) _ L rfl H.out ?hlen ?hl2 (Nat.le_refl _) ?hnext)
  case hlen => simp only [List.length_nil]; omega
  case hl2 => simp only [maxLen, List.length_nil]; omega
  case hnext =>
  intro v1 w1 o1 g1
  have O1 := hid o1
  have B1 := hid ((Below.refl w.heap.size w).grown g1 (Nat.le_refl _) (fun b hb => by simp [Value.ownBlock] at hb))
  clear o1 g1
  have HOx := hid (OL.alloc O1.out (.cells #[.string ⟨#[98, 101, 104, 105, 110, 100]⟩, .int .i64 0, .int .i64 0, .int .i64 0, .int .i64 0, .int .i64 0] 24))
  have HBx := hid (B1.out.trans ((alloc_below w1 (.cells #[.string ⟨#[98, 101, 104, 105, 110, 100]⟩, .int .i64 0, .int .i64 0, .int .i64 0, .int .i64 0, .int .i64 0] 24)).mono B1.out.size))
  go_wp2_with (at_builtin; refine wpList_appL (enc := itC) iteminfo Try.underlying29 rfl (by omega) itC_len itC_one rfl _ _ rfl w.heap.size _ _ rfl HOx.out _ [bhI] rfl (rl_one (heap_alloc_new w1 _) rfl) ?hlen ?hl2 HBx.out.size ?hnext)
  case hlen => simp only [List.length_cons, List.length_nil]; omega
  case hl2 => simp only [maxLen, List.length_cons, List.length_nil]; omega
  case hnext =>
  intro v2 w2 o2 g2
  have B2 := hid (HBx.out.grown g2 HBx.out.size (fun b hb => (HOx.out.block_ge b hb).1))
  have O2 := hid o2
  obtain ⟨g, cap, cur, rfl, hcap, hbg, hg, hcur⟩ := o2.block (by simp)
  clear g2 o2 HOx HBx O1 B1
  rw [List.length_append, List.length_singleton] at *
  have RP := hid (RL.pre (OL.reads itC_len O2.out))
  have ln : (L.length : Int) ≤ 2513169434843 := by omega
  have cl : (L.length : Int) ≤ (cap : Int) := by omega
  go_wp2_with fail
  refine Calls.mono (restock_any _ L w2 RP.out (by omega)) ?_
  rintro e w3 ⟨⟨va, M, er, n, rfl, hA, hO⟩, s3⟩
  have B3 := hid (B2.out.trans (s3.mono B2.out.size))
  have O3 := hid (O2.out.below s3)
  have MA := hid (OL.reads lnC_len hO)
  have HAA := hid hA
  have hg3 := Nat.lt_of_lt_of_le hg s3.size
  clear RP hO hA s3 O2 B2 hg hcur cur
  go_wp2_with fail
  refine Calls.mono (rrestock_any _ L w3 (H.out.below B3.out) (by omega) (fun x hx => by have := (HOK.out x hx).2; unfold maxLen at this; omega)) ?_
  rintro e w4 ⟨⟨vb, M', er', n', rfl, hA', hO'⟩, s4⟩
  obtain ⟨rfl, rfl, rfl⟩ := HAA.out.same hA'
  have ml : M.length ≤ L.length := by
    rcases hA' with ⟨_, rfl, _⟩ | ⟨_, _, _, _, _, rfl, _⟩ | ⟨_, _, rfl, _⟩
    · simp
    · simp
    · exact rsL_len L
  have B4 := hid (B3.out.trans (s4.mono B3.out.size))
  have O4 := hid (O3.out.below s4)
  have MB := hid (OL.reads lnC_len hO')
  have MA4 := hid (MA.out.below s4)
  have hg4 := Nat.lt_of_lt_of_le hg3 s4.size
  clear hO' hA' s4 O3 B3 HAA MA hg3
  go_wp2_with fail
  refine Calls.mono (lines_same va vb M w4 MA4.out MB.out (by omega)) ?_
  rintro e w5 ⟨rfl, s5⟩
  have B5 := hid (B4.out.trans (s5.mono B4.out.size))
  have O5 := hid (O4.out.below s5)
  have hg5 := Nat.lt_of_lt_of_le hg4 s5.size
  have bq : w5.cell? ⟨g, L.length * 6, none⟩ = some (.string ⟨#[98, 101, 104, 105, 110, 100]⟩) := by
    obtain ⟨g', off', c', e1, _, hr⟩ := (OL.reads itC_len O5.out).form (by simp)
    rw [List.length_append, List.length_singleton] at e1
    cases e1
    have := hr L.length (by simp) 0 (.string ⟨#[98, 101, 104, 105, 110, 100]⟩) (by simp [bhI, itC])
    simpa using this
  clear s5 O4 B4 MA4 MB ml hg4
  have l1 : (0 : Int) ≤ (L.length : Int) := by omega
  have l2 : (L.length : Int) < (L.length : Int) + 1 := by omega
  go_wp2_with (at_builtin; refine wpList_appL (enc := itC) iteminfo Try.underlying29 rfl (by omega) itC_len itC_one rfl _ _ rfl w5.heap.size _ _ rfl (OL.nil w5 w5.heap.size) _ L rfl (H.out.below B5.out) ?hlen ?hl2 (Nat.le_refl _) ?hnext)
  case hlen => simp only [List.length_nil]; omega
  case hl2 => simp only [maxLen, List.length_nil]; omega
  case hnext =>
  intro v6 w6 o6 g6
  have s6 := (Below.refl w5.heap.size w5).grown g6 (Nat.le_refl _) (fun b hb => by simp [Value.ownBlock] at hb)
  have O6 := hid (show OL itC 6 24 w6 w5.heap.size v6 L by simpa using o6)
  have P6 := hid (O5.out.below s6)
  have B6 := hid (B5.out.trans (s6.mono B5.out.size))
  clear o6 g6 s6 B5 O5 bq
  obtain ⟨a6, c6, rfl⟩ := (OL.reads itC_len O6.out).len0
  go_wp2_with fail
  go_loopw [11] (fun i wr => ∃ k : Nat, k ≤ L.length ∧ i = .int .i64 (k : Int) ∧ OL itC 6 24 wr w.heap.size (.slice (some ⟨g, 0, none⟩) (L.length + 1) cap) (hfN L k ++ [bhI]) ∧ OL itC 6 24 wr w5.heap.size (.slice a6 L.length c6) (hfN L k) ∧ Below w.heap.size w wr) (fun i _ => L.length - (intOf i).toNat)
  case atStart => exact ⟨0, by omega, rfl, by rw [hfN_zero]; exact P6.out, by rw [hfN_zero]; exact O6.out, B6.out⟩
  case round =>
    obtain ⟨k, hk, rfl, q1, q2, hb⟩ := hrel
    have Q1 := hid q1
    have Q2 := hid q2
    have HB := hid hb
    clear q1 q2
    by_cases hlt : k < L.length
    · have hI : (k : Int) < (L.length : Int) := by omega
      have hI2 : (k : Int) < (L.length : Int) + 1 := by omega
      obtain ⟨g6, cap6, cur6, e6, hcap6, hbg6, hg6, hcur6⟩ := Q2.out.block (by rw [hfN_len]; omega)
      rw [hfN_len] at e6 hcap6
      cases e6
      obtain ⟨_, _, cur1, e1, _, _, _, hcur1⟩ := Q1.out.block (by simp)
      rw [List.length_append, List.length_singleton, hfN_len] at e1
      cases e1
      have hne : g ≠ g6 := by omega
      obtain ⟨gi, offi, ci, ei, hci, i0, i1, i2, i3, i4, i5⟩ := item_at (H.out.below hb) k hlt
      cases ei
      obtain ⟨g', off', c', e1', hc', d0, d1, d2, d3, d4, d5⟩ := item_at (OL.reads itC_len Q1.out) k (by rw [List.length_append, hfN_len]; simp; omega)
      rw [List.length_append, List.length_singleton, hfN_len] at e1'
      cases e1'
      rw [Nat.zero_add] at d0 d1 d2 d3 d4 d5
      have ex : (hfN L k ++ [bhI])[k]'(by rw [List.length_append, hfN_len]; simp; omega) = L[k] := by
        rw [List.getElem_append_left (by rw [hfN_len]; exact hlt), hfN_at L k hlt]
      rw [ex] at d0 d1 d2 d3 d4 d5
      have HX := hid (HOK.out _ (List.getElem_mem hlt)).1.1
      have HS := hid (hfN_succ L k hlt)
      have HT := hid (hfN_at L k hlt)
      have fz1 := fun o => Lib.frozen_of_heap hcur1 o
      have fz6 := fun o => Lib.frozen_of_heap hcur6 o
      clear hb ex hcur1 hcur6
      have EV : ∃ u : Int, (L[k]'hlt).have_.tdiv 2 = u ∧ -9223372036854775808 ≤ u ∧ u ≤ 9223372036854775807 := ⟨_, rfl, (half_in HX.out).1, (half_in HX.out).2⟩
      obtain ⟨u, hu, u1, u2⟩ := EV
      have HV := hid (show itC (hlf (L[k]'hlt)) = (itC (L[k]'hlt)).set 1 (.int .i64 u) by rw [← hu]; rfl)
      generalize L[k]'hlt = x at *
      obtain ⟨xc, xa, xb, xp, xu, xk⟩ := x
      dsimp only at *
      have r1 : (xc.toList == xc.toList) = true := by simp
      go_wp2_with fail
      go_quiet (fail)
      have BQ := hid (below_drewN HB.out nq)
      have Q1q := hid (Q1.out.below (below_drewN (Below.refl _ _) nq))
      have Q2q := hid (Q2.out.below (below_drewN (Below.refl _ _) nq))
      replace i1 : (wr.drewN nq).cell? ⟨gi, offi + k * 6 + 1, none⟩ = some (.int .i64 xa) := i1
      replace d1 : (wr.drewN nq).cell? ⟨g, k * 6 + 1, none⟩ = some (.int .i64 xa) := d1
      replace fz1 : ∀ o, (wr.drewN nq).frozen? ⟨g, o, none⟩ = false := fz1
      replace fz6 : ∀ o, (wr.drewN nq).frozen? ⟨g6, o, none⟩ = false := fz6
      obtain ⟨u0, d6⟩ : ∃ u0, (wr.drewN nq).cell? ⟨g6, k * 6 + 1, none⟩ = some u0 := by
        obtain ⟨g', off', c', e1', hc', _, d6, _⟩ := item_at (OL.reads itC_len Q2q.out) k (by rw [hfN_len]; omega)
        rw [hfN_len] at e1'
        cases e1'
        rw [Nat.zero_add] at d6
        exact ⟨_, d6⟩
      generalize wr.drewN nq = wq at *
      clear i0 i2 i3 i4 i5 d0 d2 d3 d4 d5 Q1 Q2 HB
      have lq : k < (hfN L k).length := by rw [hfN_len]; exact hlt
      have R1 := hid (OL.setc itC_len Q1q.out rfl k (by rw [List.length_append]; omega) 1 (by omega) (hlf ⟨xc, xa, xb, xp, xu, xk⟩) (.int .i64 u) (by rw [List.getElem_append_left lq, HT.out]; exact HV.out))
      have R2 := hid (Q2q.out.setOther (g := g) (o := k * 6 + 1) (.int .i64 u) (fun b hb => by have : g6 = b := (by simpa [Value.ownBlock] using hb); omega))
      rw [List.set_append_left _ _ lq, HS.out] at R1
      have BS := hid (Below.setCell (B := w.heap.size) BQ.out (p := ⟨g, k * 6 + 1, none⟩) hbg (.int .i64 u))
      have R1b := hid (R1.out.setOther (g := g6) (o := k * 6 + 1) (.int .i64 u) (fun b hb => by have : g = b := (by simpa [Value.ownBlock] using hb); omega))
      have R2b := hid (OL.setc itC_len R2.out rfl k lq 1 (by omega) (hlf ⟨xc, xa, xb, xp, xu, xk⟩) (.int .i64 u) (by rw [HT.out]; exact HV.out))
      rw [HS.out] at R2b
      have BS2 := hid (Below.setCell (B := w.heap.size) BS.out (p := ⟨g6, k * 6 + 1, none⟩) (show w.heap.size ≤ g6 by omega) (.int .i64 u))
      go_wp2_with fail
      go_roundw
      case rel => exact ⟨k + 1, by omega, by go_num, R1b.out, R2b.out, BS2.out⟩
      case measure => simp [intOf]; omega
    · obtain rfl : k = L.length := by omega
      rw [hfN_all] at Q1 Q2
      have ll : (L.map hlf).length = L.length := by simp
      have RP := hid (RL.pre (OL.reads itC_len Q1.out))
      have RO := hid (OL.reads itC_len Q2.out)
      rw [ll] at RP
      clear hb Q1 Q2
      go_wp2_with fail
      refine Calls.mono (restock_any _ (L.map hlf) wr RP.out (by omega)) ?_
      rintro e w7 ⟨⟨vc, M2, er2, n2, rfl, hA, hO⟩, s7⟩
      have B7 := hid (HB.out.trans (s7.mono HB.out.size))
      have RO7 := hid (RO.out.below s7)
      have MA := hid (OL.reads lnC_len hO)
      have HAA := hid hA
      clear hO hA s7 RP RO HB
      go_wp2_with fail
      refine Calls.mono (rrestock_any _ (L.map hlf) w7 RO7.out (by omega) (fun x hx => by
        obtain ⟨y, hy, rfl⟩ := List.mem_map.1 hx
        have := (HOK.out y hy).2
        unfold maxLen at this
        show (y.code.size : Int) ≤ _
        omega)) ?_
      rintro e w8 ⟨⟨vd, M2', er2', n2', rfl, hA', hO'⟩, s8⟩
      obtain ⟨rfl, rfl, rfl⟩ := HAA.out.same hA'
      have ml : M2.length ≤ (L.map hlf).length := by
        rcases hA' with ⟨_, rfl, _⟩ | ⟨_, _, _, _, _, rfl, _⟩ | ⟨_, _, rfl, _⟩
        · simp
        · simp
        · exact rsL_len _
      have B8 := hid (B7.out.trans (s8.mono B7.out.size))
      have MB := hid (OL.reads lnC_len hO')
      have MA8 := hid (MA.out.below s8)
      clear hO' hA' s8 B7 HAA MA RO7
      go_wp2_with fail
      refine Calls.mono (lines_same vc vd M2 w8 MA8.out MB.out (by omega)) ?_
      rintro e w9 ⟨rfl, s9⟩
      have B9 := hid (B8.out.trans (s9.mono B8.out.size))
      clear s9 B8 MA8 MB ml ll
      go_wp2
      go_ret
      exact ⟨rfl, B9.out⟩
end Go.Proofs.Ytgnnopjkbmbjbaa
