/-
  LinUntils: the walk.
-/
import Derived.Test.YtgjalfmnnoaemaaLj3
namespace Go.Proofs.Ytgjalfmnnoaemaa
open Go.RowKit
set_option maxRecDepth 100000

theorem RO.len {w : World} {v : Value} {L : List Opx} (h : RO w v L) : L.length ≤ 9223372036854775807 := by
  rcases h with ⟨rfl, _⟩ | ⟨_, _, _, _, hc, _⟩
  · simp
  · omega
/-- a list that may be written over, k cells each, at cell o; not in block r -/
def LW (w : World) (base r : Nat) (v : Value) (n k o : Nat) : Prop := ∃ ao cap, v = .slice ao n cap ∧ n ≤ cap ∧ n ≤ 9223372036854775807 ∧ ∀ i, i < n → ∃ g, ao = some ⟨g, 0, none⟩ ∧ base ≤ g ∧ g ≠ r ∧ (∃ u, w.cell? ⟨g, i * k + o, none⟩ = some u) ∧ ∀ p, w.frozen? ⟨g, p, none⟩ = false
/-- a list of ops that may be written over -/
def WS (w : World) (base : Nat) (v : Value) (E : List Opv) : Prop := ∃ r cap, v = .slice (some ⟨r, 0, none⟩) E.length cap ∧ E.length ≤ cap ∧ base ≤ r ∧ (∀ p, w.frozen? ⟨r, p, none⟩ = false) ∧ ∀ j (hj : j < E.length), w.cell? ⟨r, j * 14 + 2, none⟩ = some E[j].2.1 ∧ w.cell? ⟨r, j * 14 + 9, none⟩ = some E[j].2.2 ∧ (∃ u, w.cell? ⟨r, j * 14 + 11, none⟩ = some u) ∧ LW w base r E[j].2.1 E[j].1.req.lines.length 2 1 ∧ LW w base r E[j].2.2 E[j].1.rep.levels.length 3 2
theorem ex_set {w : World} {q : Addr} {u : Value} (h : w.cell? q = some u) (p : Addr) (v : Value) : ∃ u', (w.setCell p v).cell? q = some u' := by
  by_cases e : p = q
  · subst e; exact ⟨_, World.cell?_setCell_same _ _ _ h⟩
  · exact ⟨u, by rw [World.cell?_setCell_other _ _ _ _ e]; exact h⟩
theorem LW.set {w : World} {base r : Nat} {v : Value} {n k o : Nat} (h : LW w base r v n k o) (p : Addr) (x : Value) : LW (w.setCell p x) base r v n k o := by
  obtain ⟨ao, cap, hv, h1, h2, h3⟩ := h
  refine ⟨ao, cap, hv, h1, h2, fun i hi => ?_⟩
  obtain ⟨g, e, hb, hr, ⟨u, hu⟩, hf⟩ := h3 i hi
  exact ⟨g, e, hb, hr, ex_set hu p x, fun q => by rw [World.frozen?_setCell]; exact hf q⟩
theorem WS.set {w : World} {base : Nat} {v : Value} {E : List Opv} (h : WS w base v E) (b o : Nat) (x : Value) (hp : ∀ r n cap, v = .slice (some ⟨r, 0, none⟩) n cap → b ≠ r ∨ ∃ j, o = j * 14 + 11) : WS (w.setCell ⟨b, o, none⟩ x) base v E := by
  obtain ⟨r, cap, hv, h1, h2, h3, h4⟩ := h
  refine ⟨r, cap, hv, h1, h2, fun q => by rw [World.frozen?_setCell]; exact h3 q, fun j hj => ?_⟩
  obtain ⟨k1, k2, ⟨u, k3⟩, k4, k5⟩ := h4 j hj
  have hne := hp r _ _ hv
  refine ⟨?_, ?_, ex_set k3 _ _, k4.set _ _, k5.set _ _⟩
  · rw [World.cell?_setCell_other _ _ _ _ (fun e => by cases e; rcases hne with h | ⟨i, h⟩ <;> omega)]; exact k1
  · rw [World.cell?_setCell_other _ _ _ _ (fun e => by cases e; rcases hne with h | ⟨i, h⟩ <;> omega)]; exact k2
theorem lw_of {w : World} {base r : Nat} {e : TypeId} {v out : Value} {n k o : Nat} {xs : List Value} (h : w.ownsRow base e k v n xs) (ho : o < k) (hne : NE v out) (hr : out.ownBlock = some r) (hm : n ≤ 9223372036854775807) : LW w base r v n k o := by
  have hc := fun g hg => World.ownsRow.cells h (g := g) hg
  have hxl : xs.length = n * k := h.1
  rcases h.2 with ⟨rfl, h0⟩ | ⟨g, cap, cur, rfl, hb, hg, h1, _⟩
  · exact ⟨none, 0, by rw [h0], by omega, hm, fun i hi => by omega⟩
  · refine ⟨_, cap, rfl, h1, hm, fun i hi => ⟨g, rfl, hb, ?_, ?_, fun p => Lib.frozen_of_heap hg p⟩⟩
    · rcases hne with h | h
      · cases h
      · intro e2; subst e2; exact h hr.symm
    · have hlt : i * k + o < xs.length := by
        rw [hxl]
        have : (i + 1) * k ≤ n * k := Nat.mul_le_mul_right k hi
        rw [Nat.add_mul, Nat.one_mul] at this
        omega
      have := hc g rfl (i * k + o) _ (List.getElem?_eq_getElem hlt)
      rw [Addr.add_lit, Nat.zero_add] at this
      exact ⟨_, this⟩
/-- what Until answers may be written over, if it is not empty -/
theorem UO.write {w : World} {base : Nat} {v : Value} {R : List Opx} (h : UO w base v R) (h0 : 0 < R.length) : ∃ E : List Opv, E.length = R.length ∧ WS w base v E := by
  obtain ⟨E, rfl, ho, hu⟩ := h
  rw [List.length_map] at h0
  have hc := fun g hg => World.ownsRow.cells ho (g := g) hg
  rcases ho.2 with ⟨_, h2⟩ | ⟨g, cap, cur, rfl, hb, hgg, hn, hm, _⟩
  · omega
  refine ⟨E, by rw [List.length_map], g, cap, rfl, hn, hb, fun p => Lib.frozen_of_heap hgg p, fun j hj => ?_⟩
  obtain ⟨h1, h2, h3, h4⟩ := hu E[j] (List.getElem_mem hj)
  have at' : ∀ i u, i < 14 → (encO E[j])[i]? = some u → w.cell? ⟨g, j * 14 + i, none⟩ = some u := fun i u hi hu => by
    have := hc g rfl (j * 14 + i) u (by rw [eo_at E j hj i hi]; exact hu)
    rw [Addr.add_lit, Nat.zero_add] at this
    exact this
  exact ⟨at' 2 _ (by omega) rfl, at' 9 _ (by omega) rfl, ⟨_, at' 11 _ (by omega) rfl⟩, lw_of h1 (by omega) h3 rfl h1.reads.len, lw_of h2 (by omega) h4 rfl h2.reads.len⟩
/-- one op that may be written over -/
def WK (w : World) (base r k : Nat) (v1 : Value) (n1 : Nat) (v2 : Value) (n2 : Nat) : Prop := base ≤ r ∧ (∀ p, w.frozen? ⟨r, p, none⟩ = false) ∧ w.cell? ⟨r, k * 14 + 2, none⟩ = some v1 ∧ w.cell? ⟨r, k * 14 + 9, none⟩ = some v2 ∧ (∃ u, w.cell? ⟨r, k * 14 + 11, none⟩ = some u) ∧ LW w base r v1 n1 2 1 ∧ LW w base r v2 n2 3 2
theorem WS.at {w : World} {base r n cap : Nat} {E : List Opv} (h : WS w base (.slice (some ⟨r, 0, none⟩) n cap) E) (k : Nat) (hk : k < E.length) : WK w base r k E[k].2.1 E[k].1.req.lines.length E[k].2.2 E[k].1.rep.levels.length := by
  obtain ⟨r', cap', hv, h1, h2, h3, h4⟩ := h
  injection hv with e1 e2 e3
  cases e1
  obtain ⟨k1, k2, k3, k4, k5⟩ := h4 k hk
  exact ⟨h2, h3, k1, k2, k3, k4, k5⟩
set_option maxHeartbeats 4000000 in
theorem linUntils_walk (v : Value) (L : List Opx) (m : Int) (w : World) (h1 : RO w v L) (hL : LOk L) :
    Calls Try.prog 4 #[v, .int .i64 m] w fun e w' => e = .returned (.bool true) ∧ Below w.heap.size w w' := by
  have H1 := hid h1
  have HL := hid hL
  have HT := hid (twin_is v L w h1 hL)
  obtain ⟨a1, p1, rfl⟩ := h1.form
  clear h1 hL
  go_enter Try.func4, Try.ntmps4
  go_wp2_with fail
  refine Calls.mono HT.out ?_
  rintro e w1 ⟨⟨t, rfl, hto⟩, hb1⟩
  have HTO := hid hto
  have B1 := hid hb1
  have HC := hid (until_any t L m w1 hto.reads HL.out)
  obtain ⟨a2, p2, rfl⟩ := hto.reads.form
  clear HT hto hb1
  go_wp2_with fail
  refine Calls.mono HC.out ?_
  rintro e w2 ⟨⟨va, R, rfl, hur, huo⟩, hb2⟩
  have B2 := hid hb2
  have UR2 := hid hur
  have UO2 := hid huo
  have HC2 := hid (runtil_any _ L m w2 (H1.out.below (B1.out.trans (hb2.mono B1.out.size))) HL.out)
  obtain ⟨a3, p3, rfl⟩ := huo.reads.form
  clear HC hur huo hb2
  go_wp2_with fail
  refine Calls.mono HC2.out ?_
  rintro e w3 ⟨⟨vb, R', rfl, hur, huo⟩, hb3⟩
  obtain rfl := UR2.out.same hur
  have B3 := hid (B2.out.trans (hb3.mono B2.out.size))
  have UO3 := hid (UO2.out.later hb3)
  have HS := hid (sameOps_is _ _ R w3 UO3.out.reads huo.reads UO3.out.reads.len)
  obtain ⟨a4, p4, rfl⟩ := huo.reads.form
  clear HC2 hur huo hb3 UO2 B2
  go_wp2_with fail
  refine Calls.mono HS.out ?_
  rintro e w4 ⟨rfl, hb4⟩
  have B4 := hid (show Below w1.heap.size w1 w4 from B3.out.trans (hb4.mono B3.out.size))
  have UO4 := hid (UO3.out.later hb4)
  clear HS hb4 UO3 B3
  go_wp2_with fail
  have FIN := hid (fun wx (hb : Below w1.heap.size w1 wx) => kept_is _ _ L wx (HTO.out.below hb) (H1.out.below (B1.out.trans (hb.mono B1.out.size))))
  obtain ⟨E, hEl, hWS⟩ : ∃ E : List Opv, E.length = R.length ∧ (0 < R.length → WS w4 w1.heap.size (.slice a3 R.length p3) E) := by
    rcases Nat.eq_zero_or_pos R.length with h0 | h0
    · exact ⟨[], by rw [h0]; rfl, fun h => by omega⟩
    · obtain ⟨E, e, h⟩ := UO4.out.write h0
      exact ⟨E, e, fun _ => h⟩
  have HEl := hid hEl
  have HW4 := hid hWS
  have HR := hid UO4.out.reads.len
  clear hEl hWS UO4 H1 HTO HL UR2
  go_loopw [8] (fun i wr => ∃ k : Nat, k ≤ R.length ∧ i = .int .i64 (k : Int) ∧ (0 < R.length → WS wr w1.heap.size (.slice a3 R.length p3) E) ∧ Below w1.heap.size w1 wr) (fun i _ => R.length - (intOf i).toNat)
  case atStart => exact ⟨0, by omega, rfl, HW4.out, B4.out⟩
  case round =>
    obtain ⟨k, hk, rfl, hws, hbl⟩ := hrel
    have hlen := HR.out
    by_cases hlt : k < R.length
    · have hI : (k : Int) < (R.length : Int) := by omega
      have h := hws (by omega)
      obtain ⟨r, cap, hv, hcap, hbr, _⟩ := h
      injection hv with e1 e2 e3
      subst e1
      subst e3
      have h := hws (by omega)
      have hkE : k < E.length := by rw [HEl.out]; exact hlt
      have KW := hid (fun wx (h : WS wx w1.heap.size (.slice (some ⟨r, 0, none⟩) R.length p3) E) => h.at k hkE)
      generalize (E[k]'hkE).2.1 = v1 at KW
      generalize (E[k]'hkE).2.2 = v2 at KW
      generalize (E[k]'hkE).1.req.lines.length = n1 at KW
      generalize (E[k]'hkE).1.rep.levels.length = n2 at KW
      obtain ⟨_, hf, _, _, ⟨u11, c11⟩, ⟨ao1, cp1, rfl, hn1, hm1, _⟩, ⟨ao2, cp2, rfl, hn2, hm2, _⟩⟩ := KW.out wr h
      have f11 := hf (k * 14 + 11)
      obtain ⟨W1, hW1⟩ : ∃ W1, wr.setCell ⟨r, k * 14 + 11, none⟩ (.int .i64 (-3)) = W1 := ⟨_, rfl⟩
      have WS1 := hid (show WS W1 w1.heap.size (.slice (some ⟨r, 0, none⟩) R.length p3) E by rw [← hW1]; exact h.set _ _ _ (fun _ _ _ _ => .inr ⟨k, rfl⟩))
      have BB1 := hid (show Below w1.heap.size w1 W1 by rw [← hW1]; exact below_put hbl hbr)
      have hcR : (R.length : Int) ≤ (p3 : Int) := by omega
      have HH := hid (And.intro hn1 hn2)
      clear e2 hcap hws hbl h hf hn1 hn2
      go_wp2_with fail
      clear c11 f11 hW1
      go_loopw [9] (fun i wx => ∃ q : Nat, q ≤ n1 ∧ i = .int .i64 (q : Int) ∧ WS wx w1.heap.size (.slice (some ⟨r, 0, none⟩) R.length p3) E ∧ Below w1.heap.size w1 wx) (fun i _ => n1 - (intOf i).toNat)
      case atStart => exact ⟨0, by omega, rfl, WS1.out, BB1.out⟩
      case round =>
        obtain ⟨q, hq, rfl, hws, hbl⟩ := hrel
        obtain ⟨_, _, c2, _, _, ⟨_, _, e1, hn1, _, hl1⟩, _⟩ := KW.out wr hws
        cases e1
        have HWS := hid hws
        have HBL := hid hbl
        by_cases hqn : q < n1
        · obtain ⟨g, rfl, hg1, hg2, ⟨ug, cg⟩, fg⟩ := hl1 q hqn
          have hqI : (q : Int) < (n1 : Int) := by omega
          have fg1 := fg (q * 2 + 1)
          obtain ⟨W2, hW2⟩ : ∃ W2, wr.setCell ⟨g, q * 2 + 1, none⟩ (.int .i64 (-9)) = W2 := ⟨_, rfl⟩
          have WS2 := hid (show WS W2 w1.heap.size (.slice (some ⟨r, 0, none⟩) R.length p3) E by rw [← hW2]; exact HWS.out.set _ _ _ (fun _ _ _ e => by cases e; exact .inl hg2))
          have BB2 := hid (show Below w1.heap.size w1 W2 by rw [← hW2]; exact below_put hbl hg1)
          clear hws hbl hl1 fg
          go_wp2_with fail
          go_roundw
          case rel => exact ⟨q + 1, by omega, by go_num, WS2.out, BB2.out⟩
          case measure => simp [intOf]; omega
        · have hqI : ¬ (q : Int) < (n1 : Int) := by omega
          clear hws hbl hl1
          go_wp2_with fail
          clear c2
          go_loopw [10] (fun i wx => ∃ q : Nat, q ≤ n2 ∧ i = .int .i64 (q : Int) ∧ WS wx w1.heap.size (.slice (some ⟨r, 0, none⟩) R.length p3) E ∧ Below w1.heap.size w1 wx) (fun i _ => n2 - (intOf i).toNat)
          case atStart => exact ⟨0, by omega, rfl, HWS.out, HBL.out⟩
          case round =>
            obtain ⟨p, hp, rfl, hws, hbl⟩ := hrel
            obtain ⟨_, _, _, c9, _, _, ⟨_, _, e2, hn2, _, hl2⟩⟩ := KW.out wr hws
            cases e2
            have HWS := hid hws
            have HBL := hid hbl
            by_cases hpn : p < n2
            · obtain ⟨g, rfl, hg1, hg2, ⟨ug, cg⟩, fg⟩ := hl2 p hpn
              have hpI : (p : Int) < (n2 : Int) := by omega
              have fg1 := fg (p * 3 + 2)
              obtain ⟨W2, hW2⟩ : ∃ W2, wr.setCell ⟨g, p * 3 + 2, none⟩ (.int .i64 (-9)) = W2 := ⟨_, rfl⟩
              have WS2 := hid (show WS W2 w1.heap.size (.slice (some ⟨r, 0, none⟩) R.length p3) E by rw [← hW2]; exact HWS.out.set _ _ _ (fun _ _ _ e => by cases e; exact .inl hg2))
              have BB2 := hid (show Below w1.heap.size w1 W2 by rw [← hW2]; exact below_put hbl hg1)
              clear hws hbl hl2 fg
              go_wp2_with fail
              go_roundw
              case rel => exact ⟨p + 1, by omega, by go_num, WS2.out, BB2.out⟩
              case measure => simp [intOf]; omega
            · have hpI : ¬ (p : Int) < (n2 : Int) := by omega
              clear hws hbl hl2
              go_wp2_with fail
              go_roundw
              case rel => exact ⟨k + 1, by omega, by go_num, fun _ => HWS.out, HBL.out⟩
              case measure => simp [intOf]; omega
    · have HF := hid (FIN.out wr hbl)
      have B5 := hid (B1.out.trans (hbl.mono B1.out.size))
      clear hws hbl FIN
      go_wp2_with fail
      refine Calls.mono HF.out ?_
      rintro e w5 ⟨rfl, hb5⟩
      have B6 := hid (B5.out.trans (hb5.mono B5.out.size))
      clear HF hb5
      go_wp2
      go_ret
      exact ⟨rfl, B6.out⟩
end Go.Proofs.Ytgjalfmnnoaemaa
