/-
  plan: Smooth; the document's.
-/
import Derived.Test.YtgnnopjkbmbjbaaDoorFs2
namespace Go.Proofs.YtgnnopjkbmbjbaaDoor
open Go.RowKit
set_option maxRecDepth 100000
set_option linter.unusedSimpArgs false

/-- a float as cells -/
def eF (x : Nat) : List Value := [.float .f64 x]
theorem eF_len (x : Nat) : (eF x).length = 1 := rfl
theorem eF_one (x : Nat) : ∀ u ∈ eF x, u.oneCell' = true := by simp [eF, Value.oneCell']
theorem fltinfo : (Tryd.prog.info? 28).map (fun i => (i.zero, i.size, i.bytes)) = some (some (.float .f64 0), 1, 8) := by kernel_rfl
theorem rl_one {α : Type} {enc : α → List Value} {k : Nat} {w : World} {b : Nat} {x : α} {t : TypeId} {cur : Array Value} (h : w.heap[b]? = some (.cells cur t (0, 0))) (hc : cur.toList = enc x) : RL enc k w (.slice (some ⟨b, 0, none⟩) 1 1) [x] := by
  refine ⟨_, 1, rfl, Nat.le_refl _, fun e => (by cases e), fun i hi => ⟨b, 0, rfl, fun j u hj => ?_⟩⟩
  obtain rfl : i = 0 := by simp at hi; omega
  rw [Lib.cell_of_heap h]
  simp only [List.getElem_cons_zero] at hj
  rw [← hc, Array.getElem?_toList] at hj
  simpa using hj
theorem flt_at {w : World} {v : Value} {L : List Nat} (h : RL eF 1 w v L) (i : Nat) (hi : i < L.length) : ∃ g off c, v = .slice (some ⟨g, off, none⟩) L.length c ∧ L.length ≤ c ∧ w.cell? ⟨g, off + i, none⟩ = some (.float .f64 L[i]) := by
  obtain ⟨g, off, c, hv, hc, hr⟩ := h.form (by omega)
  exact ⟨g, off, c, hv, hc, by have := hr i hi 0 _ rfl; rw [Nat.mul_one] at this; exact this⟩
/-- 1 less the weight -/
def rsT (wt : Nat) : Nat := (dbl.sub 4607182418800017408 wt).getD 0
theorem rsT_ok {wt : Nat} (h : wOk wt = true) : dbl.sub 4607182418800017408 wt = some (rsT wt) ∧ NN wt 1 ∧ NN (rsT wt) 1 := by
  obtain ⟨h1, r, h2, h3⟩ := w_NN h
  have e : rsT wt = r := by unfold rsT; rw [h2]; rfl
  rw [e]
  exact ⟨h2, h1, h3⟩
set_option maxHeartbeats 4000000 in
theorem smoothed_any (v : Value) (L : List Int) (wt : Nat) (w : World) (h : RL eI 1 w v L) (hH : HOk L) (hl : L.length ≤ 4096) (hw : wOk wt = true) : Calls Tryd.prog 8 #[v, .float .f64 wt] w fun e w' => (∃ u, e = .returned u ∧ OL eF 1 28 w' w.heap.size u (smO wt (rsT wt) L)) ∧ Below w.heap.size w w' := by
  have H := hid h
  obtain ⟨ao, cp, rfl⟩ := h.len0
  obtain ⟨s1, s2, s3⟩ := rsT_ok hw
  have S1 := fun w => run_float_arith (P := Tryd.prog) w .sub 28 .f64 _ _ _ s1
  have NW := hid s2
  have NR := hid s3
  have HH := hid hH
  have HLl := hid hl
  clear h hH s1 s2 s3 hw
  go_enter Tryd.func8, Tryd.ntmps8
  go_wp2_with fail
  go_loopw [14, 6] (fun i l wr => ∃ k : Nat, k ≤ L.length ∧ i = .int .i64 (k : Int) ∧ OL eF 1 28 wr w.heap.size l (smO wt (rsT wt) (L.take k)) ∧ Below w.heap.size w wr) (fun i _ _ => L.length - (intOf i).toNat)
  case atStart => exact ⟨0, by omega, rfl, by simpa [smO] using OL.nil _ _, Below.refl _ _⟩
  case round =>
    obtain ⟨k, hk, rfl, how, hb⟩ := hrel
    have HOW := hid how
    have HB := hid hb
    have SL := hid (smO_len wt (rsT wt) L k hk)
    by_cases hlt : k < L.length
    · have hIk : (k : Int) < (L.length : Int) := by omega
      obtain ⟨g, off, c, e1, hc, c0⟩ := int_at (H.out.below hb) k hlt
      cases e1
      have HT := hid (smO_take wt (rsT wt) L k hlt)
      rcases Nat.eq_zero_or_pos k with h0 | h0
      · have e2 : ¬ (0 : Int) < (k : Int) := by omega
        have NX := hid (show smN wt (rsT wt) (smO wt (rsT wt) (L.take k)) (L[k]'hlt) = floatOfInt .f64 (L[k]'hlt) by
          have hl0 := SL.out
          generalize smO wt (rsT wt) (L.take k) = acc at *
          have : acc = [] := List.eq_nil_of_length_eq_zero (by omega)
          rw [this]
          rfl)
        rw [NX.out] at HT
        have HOx := hid (OL.alloc HOW.out (.cells #[.float .f64 (floatOfInt .f64 (L[k]'hlt))] 28))
        have HBx := hid (bel_step HB.out (alloc_below wr (.cells #[.float .f64 (floatOfInt .f64 (L[k]'hlt))] 28)))
        have lq := SL.out
        have ll := HLl.out
        clear how hb h0 NX
        generalize L[k]'hlt = x at *
        go_wp2_with (at_builtin; refine wpList_appL (enc := eF) fltinfo Tryd.underlying24 rfl (by omega) eF_len eF_one rfl _ _ rfl w.heap.size _ _ rfl HOx.out _ [floatOfInt .f64 x] rfl (rl_one (heap_alloc_new wr _) rfl) ?hlen ?hl2 HBx.out.size ?hnext)
        case hlen => first | (simp only [List.length_cons, List.length_nil]; omega) | omega | (simp; omega)
        case hl2 => first | (simp only [maxLen, List.length_cons, List.length_nil]; omega) | (unfold maxLen; omega)
        case hnext =>
          intro v2 w2 ho2 hg2
          have HO2 := hid ho2
          have HB2 := hid (HBx.out.grown hg2 HBx.out.size (fun b hb => (HOx.out.block_ge b hb).1))
          clear ho2 hg2
          go_wp2_with fail
          go_roundw
          case rel => exact ⟨k + 1, by omega, by go_num, by rw [HT.out]; exact HO2.out, HB2.out⟩
          case measure => simp [intOf]; omega
      · have e2 : (0 : Int) < (k : Int) := by omega
        obtain ⟨j, hj⟩ : ∃ j : Nat, k = j + 1 := ⟨k - 1, by omega⟩
        obtain ⟨p, hp, np⟩ := smO_last NW.out NR.out HH.out HLl.out j (by omega)
        rw [← hj] at hp
        have hpj : (smO wt (rsT wt) (L.take k))[j]'(by rw [SL.out]; omega) = p := by
          rw [List.getLast?_eq_getElem?, SL.out] at hp
          rw [show k - 1 = j by omega, List.getElem?_eq_getElem (by rw [SL.out]; omega)] at hp
          exact Option.some.inj hp
        have NX := hid (show smN wt (rsT wt) (smO wt (rsT wt) (L.take k)) (L[k]'hlt) = stO wt (rsT wt) p (L[k]'hlt) by unfold smN; rw [hp])
        rw [NX.out] at HT
        obtain ⟨x0, x1⟩ := HH.out _ (List.getElem_mem hlt)
        obtain ⟨n, hn⟩ := Int.eq_ofNat_of_zero_le x0
        have ll := HLl.out
        obtain ⟨fa, fb, b1, b2, b3, _⟩ := stO_ok n NW.out NR.out np (show n ≤ 1099511627776 by omega) (by omega)
        rw [← hn] at b1 b3
        have A1 := fun w => run_float_arith (P := Tryd.prog) w .mul 28 .f64 _ _ _ b1
        have A2 := fun w => run_float_arith (P := Tryd.prog) w .mul 28 .f64 _ _ _ b2
        have A3 := fun w => run_float_arith (P := Tryd.prog) w .add 28 .f64 _ _ _ b3
        obtain ⟨gf, offf, cf, ef, hcf, cc⟩ := flt_at (OL.reads eF_len HOW.out) j (by rw [SL.out]; omega)
        rw [hpj] at cc
        rw [SL.out] at ef hcf
        subst ef
        have HOx := hid (OL.alloc HOW.out (.cells #[.float .f64 (stO wt (rsT wt) p (L[k]'hlt))] 28))
        have HBx := hid (bel_step HB.out (alloc_below wr (.cells #[.float .f64 (stO wt (rsT wt) p (L[k]'hlt))] 28)))
        have lq := SL.out
        have j1 : (k : Int) - 1 = (j : Int) := by omega
        have j2 : (j : Int) < (k : Int) := by omega
        clear how hb h0 NX hp np hpj b1 b2 b3 hn hj x0 x1
        generalize hst : stO wt (rsT wt) p (L[k]'hlt) = y at *
        have HST := hid hst
        clear hst
        generalize L[k]'hlt = x at *
        generalize rsT wt = rt at *
        go_wp2_with (at_builtin; refine wpList_appL (enc := eF) fltinfo Tryd.underlying24 rfl (by omega) eF_len eF_one rfl _ _ rfl w.heap.size _ _ rfl HOx.out _ [y] rfl (rl_one (heap_alloc_new wr _) rfl) ?hlen ?hl2 HBx.out.size ?hnext)
        case hlen => first | (simp only [List.length_cons, List.length_nil]; omega) | omega | (simp; omega)
        case hl2 => first | (simp only [maxLen, List.length_cons, List.length_nil]; omega) | (unfold maxLen; omega)
        case hnext =>
          intro v2 w2 ho2 hg2
          have HO2 := hid ho2
          have HB2 := hid (HBx.out.grown hg2 HBx.out.size (fun b hb => (HOx.out.block_ge b hb).1))
          clear ho2 hg2
          go_wp2_with fail
          go_roundw
          case rel => exact ⟨k + 1, by omega, by go_num, by rw [HT.out]; exact HO2.out, HB2.out⟩
          case measure => simp [intOf]; omega
    · obtain rfl : k = L.length := by omega
      rw [List.take_length] at HOW
      clear how hb
      go_wp2
      go_ret
      exact ⟨⟨_, rfl, HOW.out⟩, HB.out⟩
theorem w_ways (b : Nat) : ((FloatKind.f64.format.order b 0 == some .gt) = false ∧ wOk b = false) ∨ ((FloatKind.f64.format.order b 0 == some .gt) = true ∧ (FloatKind.f64.format.order b 4607182418800017408 == some .lt || FloatKind.f64.format.order b 4607182418800017408 == some .eq) = false ∧ wOk b = false) ∨ ((FloatKind.f64.format.order b 0 == some .gt) = true ∧ (FloatKind.f64.format.order b 4607182418800017408 == some .lt || FloatKind.f64.format.order b 4607182418800017408 == some .eq) = true ∧ wOk b = true) := by
  have e : wOk b = ((FloatKind.f64.format.order b 0 == some .gt) && (FloatKind.f64.format.order b 4607182418800017408 == some .lt || FloatKind.f64.format.order b 4607182418800017408 == some .eq)) := rfl
  rw [e]
  cases (FloatKind.f64.format.order b 0 == some .gt) <;> cases (FloatKind.f64.format.order b 4607182418800017408 == some .lt || FloatKind.f64.format.order b 4607182418800017408 == some .eq) <;> simp
/-- what Smooth answers -/
def smM (L : List Int) (wt : Nat) : List Nat := if hE L = 0 ∧ wOk wt = true then smO wt (rsT wt) L else []
def smE (L : List Int) (wt : Nat) : Int := if hE L = 0 then (if wOk wt = true then 0 else 172) else hE L
theorem smE_bad {L : List Int} {wt : Nat} (h : ¬ hE L = 0) : smM L wt = [] ∧ smE L wt = hE L := ⟨if_neg (fun h2 => h h2.1), if_neg h⟩
theorem smE_no {L : List Int} {wt : Nat} (h : hE L = 0) (hw : wOk wt = false) : smM L wt = [] ∧ smE L wt = 172 := ⟨if_neg (fun h2 => by rw [hw] at h2; cases h2.2), by unfold smE; rw [if_pos h, if_neg (by rw [hw]; simp)]⟩
theorem smE_yes {L : List Int} {wt : Nat} (h : hE L = 0) (hw : wOk wt = true) : smM L wt = smO wt (rsT wt) L ∧ smE L wt = 0 := ⟨if_pos ⟨h, hw⟩, by unfold smE; rw [if_pos h, if_pos hw]⟩
def SmR (L : List Int) (wt : Nat) (base : Nat) (e : Ending) (w' : World) : Prop := ∃ u, e = .returned (.tuple #[u, .int .i64 (smE L wt)]) ∧ OL eF 1 28 w' base u (smM L wt)
set_option maxHeartbeats 2000000 in
theorem smooth_any (v : Value) (L : List Int) (wt : Nat) (w : World) (h : RL eI 1 w v L) (hl : (L.length : Int) ≤ 9223372036854775807) : Calls Tryd.prog 4 #[v, .float .f64 wt] w fun e w' => SmR L wt w.heap.size e w' ∧ Below w.heap.size w w' := by
  have CK := hid (checked_any v L w h hl)
  by_cases hz : hE L = 0
  · obtain ⟨z1, z2⟩ := hE_zero hz
    rw [hz] at CK
    rcases w_ways wt with ⟨g1, hw⟩ | ⟨g1, g2, hw⟩ | ⟨g1, g2, hw⟩
    · obtain ⟨e1, e2⟩ := smE_no hz hw
      unfold SmR
      rw [e1, e2]
      obtain ⟨ao, cp, rfl⟩ := h.len0
      clear hz hw e1 e2 z1 z2 h
      go_enter Tryd.func4, Tryd.ntmps4
      go_wp2_with fail
      refine Calls.mono CK.out ?_
      rintro e w1 ⟨rfl, rfl⟩
      go_wp2
      go_ret2
      exact ⟨⟨_, rfl, OL.nil _ _⟩, Below.refl _ _⟩
    · obtain ⟨e1, e2⟩ := smE_no hz hw
      unfold SmR
      rw [e1, e2]
      obtain ⟨ao, cp, rfl⟩ := h.len0
      clear hz hw e1 e2 z1 z2 h
      go_enter Tryd.func4, Tryd.ntmps4
      go_wp2_with fail
      refine Calls.mono CK.out ?_
      rintro e w1 ⟨rfl, rfl⟩
      go_wp2
      go_ret2
      exact ⟨⟨_, rfl, OL.nil _ _⟩, Below.refl _ _⟩
    · obtain ⟨e1, e2⟩ := smE_yes hz hw
      unfold SmR
      rw [e1, e2]
      have SM := hid (smoothed_any v L wt w h z2 z1 hw)
      obtain ⟨ao, cp, rfl⟩ := h.len0
      generalize smO wt (rsT wt) L = M at *
      clear hz hw e1 e2 z1 z2 h
      go_enter Tryd.func4, Tryd.ntmps4
      go_wp2_with fail
      refine Calls.mono CK.out ?_
      rintro e w1 ⟨rfl, rfl⟩
      go_wp2_with fail
      refine Calls.mono SM.out ?_
      rintro e w2 ⟨⟨u, rfl, hO⟩, s2⟩
      have HO := hid hO
      have HS := hid s2
      clear hO s2
      go_wp2
      go_ret2
      exact ⟨⟨_, rfl, HO.out⟩, HS.out⟩
  · obtain ⟨e1, e2⟩ := smE_bad (wt := wt) hz
    unfold SmR
    rw [e1, e2]
    obtain ⟨ao, cp, rfl⟩ := h.len0
    generalize hE L = er at *
    clear e1 e2 h
    go_enter Tryd.func4, Tryd.ntmps4
    go_wp2_with fail
    refine Calls.mono CK.out ?_
    rintro e w1 ⟨rfl, rfl⟩
    go_wp2
    go_ret2
    exact ⟨⟨_, rfl, OL.nil _ _⟩, Below.refl _ _⟩
end Go.Proofs.YtgnnopjkbmbjbaaDoor
