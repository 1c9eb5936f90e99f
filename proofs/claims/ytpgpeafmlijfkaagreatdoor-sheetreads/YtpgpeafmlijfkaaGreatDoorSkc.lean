/-
  Sheets: checkCell, checkRow, onLine, checkRows.
-/
import Derived.Test.YtpgpeafmlijfkaaGreatDoorScc
import Derived.Test.YtpgpeafmlijfkaaGreatDoorSq7
namespace Go.Proofs.YtpgpeafmlijfkaaGreatDoor
open Go.RowKit
set_option maxRecDepth 100000
set_option linter.unusedVariables false
set_option linter.unusedSimpArgs false

theorem cfl_long {T : List UInt8} (h : 4096 < T.length) : cfl T = 5 := by unfold cfl; rw [if_pos h]
theorem cfl_bad {T : List UInt8} (h : ¬ 4096 < T.length) {j : Nat} (hj : j < T.length) (hb : mayB (T[j]).toNat = false) : cfl T = 4 := by
  unfold cfl
  rw [if_neg h, if_neg]
  intro ha
  rw [List.all_eq_true.1 ha _ (List.getElem_mem hj)] at hb
  cases hb
theorem cfl_fine {T : List UInt8} (h : ¬ 4096 < T.length) (ha : ∀ i (hi : i < T.length), mayB (T[i]).toNat = true) : cfl T = 0 := by
  unfold cfl
  rw [if_neg h, if_pos]
  rw [List.all_eq_true]
  intro x hx
  obtain ⟨i, hi, rfl⟩ := List.mem_iff_getElem.1 hx
  exact ha i hi
theorem list_at2 (s : ByteArray) (m : Nat) (h : m < s.size) : s.data.toList[m]'(by rw [Array.length_toList]; exact h) = s[m] := by
  rw [Array.getElem_toList]
  rfl
set_option maxHeartbeats 1000000 in
theorem checkCell_any (A : Nat → Addr) (s : ByteArray) (w : World) (hE : HE A w) :
    Calls Tryz.prog 81 #[.string s] w fun e w' => e = .returned (erV A (cfl s.data.toList)) ∧ w' = w := by
  have hds : s.data.toList.length = s.size := by rw [Array.length_toList]; rfl
  have e5 := hE.e5
  have e4 := hE.e4
  clear hE
  by_cases hL : 4096 < s.size
  · have hI : (4096 : Int) < (s.size : Int) := by omega
    rw [cfl_long (by omega), erV_pos A (by decide)]
    clear hds
    go_enter Tryz.func81, Tryz.ntmps81
    go_wp2
    go_ret
    exact ⟨rfl, rfl⟩
  · have hI : ¬ (4096 : Int) < (s.size : Int) := by omega
    have HM := hid (fun c => mayStand_any c w)
    have HD := hid hds
    obtain ⟨V, hV⟩ : ∃ V, V = erV A (cfl s.data.toList) := ⟨_, rfl⟩
    rw [← hV]
    have HV := hid hV
    clear hds hV
    go_enter Tryz.func81, Tryz.ntmps81
    go_wp2_with fail
    go_loop [10] (fun i => ∃ k : Nat, k ≤ s.size ∧ i = .int .i64 (k : Int) ∧ ∀ i (hi : i < s.data.toList.length), i < k → mayB (s.data.toList[i]).toNat = true) (fun i => s.size - (intOf i).toNat)
    case atStart => exact ⟨0, by omega, rfl, fun i hi h0 => absurd h0 (Nat.not_lt_zero _)⟩
    case round =>
      obtain ⟨k, hk, rfl, hall⟩ := hrel
      by_cases hlt : k < s.size
      · have hJ : (k : Int) < (s.size : Int) := by omega
        have HA := hid hall
        clear hall
        have hd := HD.out
        cases hm : mayB s[k].toNat
        · have HC := HM.out s[k]
          rw [hm] at HC
          have HC := hid HC
          have hv : V = .iface 208 (.pointer (some (A 4))) := by
            rw [HV.out, cfl_bad (by omega) (j := k) (by omega) (by rw [list_at2 s k hlt]; exact hm), erV_pos A (by decide)]
          subst hv
          clear hm hd
          go_wp2_with fail
          refine Calls.mono HC.out ?_
          rintro e w1 ⟨rfl, rfl⟩
          go_wp2
          go_ret
          exact ⟨rfl, rfl⟩
        · have HC := HM.out s[k]
          rw [hm] at HC
          have HC := hid HC
          have HN := hid (show ∀ i (hi : i < s.data.toList.length), i < k + 1 → mayB (s.data.toList[i]).toNat = true by
            intro i hi h1
            by_cases he : i = k
            · subst he
              rw [list_at2 s i hlt]
              exact hm
            · exact HA.out i hi (by omega))
          clear hm hd
          go_wp2_with fail
          refine Calls.mono HC.out ?_
          rintro e w1 ⟨rfl, hw⟩
          replace hw := hw.symm
          subst hw
          go_wp2
          go_round
          case rel => exact ⟨k + 1, by omega, by go_num, HN.out⟩
          case measure => simp [intOf]; omega
      · have hd := HD.out
        have hv : V = .nilIface := by
          rw [HV.out, cfl_fine (by omega) (fun i hi => hall i hi (by omega)), erV_zero]
        subst hv
        have hJ : ¬ (k : Int) < (s.size : Int) := by omega
        clear hall hd
        go_wp2
        go_ret
        exact ⟨rfl, rfl⟩

/-- an error that a check answers: none, or a new Fault -/
def Nf (A : Nat → Addr) (w : World) (c line col : Nat) (e : Ending) (w' : World) : Prop :=
  (c = 0 ∧ e = .returned .nilIface ∧ w' = w) ∨ (c ≠ 0 ∧ e = .returned (.iface 59 (.pointer (some ⟨w.heap.size, 0, none⟩))) ∧ w' = w.alloc (.cells #[.int .i64 (line : Int), .int .i64 (col : Int), erV A c] 64))
theorem Nf.bad {A : Nat → Addr} {w : World} {c line col : Nat} (h : c ≠ 0) : Nf A w c line col (.returned (.iface 59 (.pointer (some ⟨w.heap.size, 0, none⟩)))) (w.alloc (.cells #[.int .i64 (line : Int), .int .i64 (col : Int), erV A c] 64)) := .inr ⟨h, rfl, rfl⟩
theorem Nf.none {A : Nat → Addr} {w : World} {line col : Nat} : Nf A w 0 line col (.returned .nilIface) w := .inl ⟨rfl, rfl, rfl⟩
theorem cls_drop (cs : List (List UInt8)) (j : Nat) (hj : j < cs.length) (h : cfl cs[j] = 0) : cls (cs.drop j) j = cls (cs.drop (j + 1)) (j + 1) := by
  rw [List.drop_eq_getElem_cons hj, cls, if_pos h]
theorem cls_hit (cs : List (List UInt8)) (j : Nat) (hj : j < cs.length) (h : cfl cs[j] ≠ 0) : cls (cs.drop j) j = (cfl cs[j], j) := by
  rw [List.drop_eq_getElem_cons hj, cls, if_neg h]
set_option maxHeartbeats 2000000 in
theorem checkRow_any (A : Nat → Addr) (v : Value) (cs : List (List UInt8)) (n : Nat) (w : World) (hE : HE A w) (ht : Tx w v cs) :
    Calls Tryz.prog 72 #[v, .int .i64 (n : Int)] w fun e w' => Nf A w (wfl n cs).1 0 (wfl n cs).2 e w' := by
  have e6 := hE.e6
  have e8 := hE.e8
  have hl := ht.len
  have HT := hid ht
  have HC := hid (fun s => checkCell_any A s w hE)
  obtain ⟨ao, cap, rfl⟩ := ht.form
  clear hE ht
  by_cases h0 : cs.length = 0
  · have hv : wfl n cs = (6, 0) := by unfold wfl; rw [if_pos h0]
    rw [hv]
    have H := hid (Nf.bad (A := A) (w := w) (c := 6) (line := 0) (col := 0) (by decide))
    rw [erV_pos A (by decide)] at H
    rw [h0]
    clear hl hv
    go_enter Tryz.func72, Tryz.ntmps72
    go_wp2
    go_ret
    exact H.out
  · have g0 : ¬ (cs.length : Int) = 0 := by omega
    have b0 : ((cs.length : Int) == 0) = false := by rw [beq_eq_false_iff_ne]; exact g0
    by_cases h1 : 64 < cs.length
    · have hv : wfl n cs = (6, 64) := by unfold wfl; rw [if_neg h0, if_pos h1]
      rw [hv]
      have H := hid (Nf.bad (A := A) (w := w) (c := 6) (line := 0) (col := 64) (by decide))
      rw [erV_pos A (by decide)] at H
      have g1 : (64 : Int) < (cs.length : Int) := by omega
      clear hv
      go_enter Tryz.func72, Tryz.ntmps72
      go_wp2
      go_ret
      exact H.out
    · have g1 : ¬ (64 : Int) < (cs.length : Int) := by omega
      by_cases h2 : cs.length = n
      · have hv : wfl n cs = cls cs 0 := by unfold wfl; rw [if_neg h0, if_neg h1, if_pos h2]
        rw [hv]
        subst h2
        obtain ⟨q, hq⟩ : ∃ q, q = cls cs 0 := ⟨_, rfl⟩
        rw [← hq]
        have HQ := hid hq
        clear hv hq
        go_enter Tryz.func72, Tryz.ntmps72
        go_wp2_with fail
        go_loop [35] (fun i => ∃ k : Nat, k ≤ cs.length ∧ i = .int .i64 (k : Int) ∧ cls cs 0 = cls (cs.drop k) k) (fun i => cs.length - (intOf i).toNat)
        case atStart => exact ⟨0, by omega, rfl, rfl⟩
        case round =>
          obtain ⟨k, hk, rfl, hd⟩ := hrel
          by_cases hlt : k < cs.length
          · have hI : (k : Int) < (cs.length : Int) := by omega
            obtain ⟨g, off, c, e1, hc, c0⟩ := HT.out.at k hlt
            cases e1
            have hx := HC.out ⟨(cs[k]'hlt).toArray⟩
            have hy : (⟨(cs[k]'hlt).toArray⟩ : ByteArray).data.toList = cs[k] := rfl
            rw [hy] at hx
            by_cases hf : cfl (cs[k]'hlt) = 0
            · rw [hf, erV_zero] at hx
              have HX := hid hx
              have HD := hid (hd.trans (cls_drop cs k hlt hf))
              clear hd hx hf hy
              go_wp2_with fail
              refine Calls.mono HX.out ?_
              rintro e w1 ⟨rfl, hw⟩
              replace hw := hw.symm
              subst hw
              go_wp2
              go_round
              case rel => exact ⟨k + 1, by omega, by go_num, HD.out⟩
              case measure => simp [intOf]; omega
            · have hq : q = (cfl cs[k], k) := by rw [HQ.out, hd, cls_hit cs k hlt hf]
              rw [erV_pos A hf] at hx
              have HX := hid hx
              have H := hid (Nf.bad (A := A) (w := w) (c := cfl cs[k]) (line := 0) (col := k) hf)
              rw [erV_pos A hf] at H
              subst hq
              clear hd hx hf hy
              go_wp2_with fail
              refine Calls.mono HX.out ?_
              rintro e w1 ⟨rfl, hw⟩
              replace hw := hw.symm
              subst hw
              go_wp2
              go_ret
              exact H.out
          · have hI : ¬ (k : Int) < (cs.length : Int) := by omega
            have hq : q = (0, 0) := by
              rw [HQ.out, hd, List.drop_eq_nil_of_le (by omega)]
              rfl
            subst hq
            clear hd
            go_wp2
            go_ret
            exact Nf.none
      · have hv : wfl n cs = (8, 0) := by unfold wfl; rw [if_neg h0, if_neg h1, if_neg h2]
        rw [hv]
        have H := hid (Nf.bad (A := A) (w := w) (c := 8) (line := 0) (col := 0) (by decide))
        rw [erV_pos A (by decide)] at H
        have g2 : ¬ (cs.length : Int) = (n : Int) := by omega
        clear hv
        go_enter Tryz.func72, Tryz.ntmps72
        go_wp2
        go_ret
        exact H.out
theorem cellA {w : World} {p : Addr} {u : Value} (h : w.cell? p = some u) (o : Obj) : (w.alloc o).cell? p = some u := (World.cell?_alloc_lt _ _ p (World.block_lt_of_cell? _ _ h)).trans h
set_option maxHeartbeats 2000000 in
theorem onLine_any (f : Nat) (x y z : Value) (n : Nat) (w : World) (hT : ErT w) (h : w.heap[f]? = some (.cells #[x, y, z] 64 (0, 0))) :
    Calls Tryz.prog 73 #[.iface 59 (.pointer (some ⟨f, 0, none⟩)), .int .i64 (n : Int)] w fun e w' => e = .returned (.iface 59 (.pointer (some ⟨f, 0, none⟩))) ∧ w'.heap[f]? = some (.cells #[.int .i64 (n : Int), y, z] 64 (0, 0)) ∧ Kg (But w f) w w' := by
  have hfl : f < w.heap.size := (Array.getElem?_eq_some_iff.1 h).1
  have HH := hid h
  have HS := hid (as_hit ⟨f, 0, none⟩ ⟨w.heap.size, 0, none⟩ (.pointer none) (w.alloc (.cells #[.pointer none] 59)) (hT.below ((Below.refl _ _).alloc (Nat.le_refl _) _)) (by simp) (by simp))
  clear h hT
  go_enter Tryz.func73, Tryz.ntmps73
  go_wp2_with fail
  refine Calls.mono HS.out ?_
  rintro e w1 ⟨rfl, hw1⟩
  have hz0 : (w.alloc (.cells #[.pointer none] 59)).heap.size = w.heap.size + 1 := by simp
  have kB : Below w.heap.size w w1 := by
    rw [hw1]
    exact ((((((Below.refl w.heap.size w).alloc (Nat.le_refl _) _).alloc (by simp) _).alloc (by simp; omega) _).alloc (by simp; omega) _).alloc (by simp; omega) _).setCell (p := ⟨w.heap.size, 0, none⟩) (Nat.le_refl _) _
  have c1 : w1.cell? ⟨w.heap.size, 0, none⟩ = some (.pointer (some ⟨f, 0, none⟩)) := by
    rw [hw1]
    exact World.cell?_setCell_same _ _ _ (cellA (cellA (cellA (cellA (show (w.alloc (.cells #[.pointer none] 59)).cell? ⟨w.heap.size, 0, none⟩ = some (.pointer none) by simp) _) _) _) _)
  have hf1 : w1.heap[f]? = some (.cells #[x, y, z] 64 (0, 0)) := (kB.block f hfl).trans HH.out
  have c0 : w1.cell? ⟨f, 0, none⟩ = some x := by rw [Lib.cell_of_heap hf1]; rfl
  have f0 : w1.frozen? ⟨f, 0, none⟩ = false := Lib.frozen_of_heap hf1 0
  have HF := hid hf1
  have HK := hid kB
  clear hw1 hf1 kB
  go_wp2
  go_ret
  refine ⟨rfl, Lib.heap_setCell_same HF.out _, Kg.set ?_ (But.not w f) _⟩
  exact ⟨HK.out.os, HK.out.tape, HK.out.output, HK.out.size, fun k hk => HK.out.block k hk.1⟩
theorem rck_drop (n : Nat) (R : List (List (List UInt8))) (i : Nat) (hi : i < R.length) (h4 : i ≠ 4096) (h : (wfl n R[i]).1 = 0) : rck n (R.drop i) i = rck n (R.drop (i + 1)) (i + 1) := by
  rw [List.drop_eq_getElem_cons hi, rck, if_neg h4, if_pos h]
theorem rck_hit (n : Nat) (R : List (List (List UInt8))) (i : Nat) (hi : i < R.length) (h4 : i ≠ 4096) (h : (wfl n R[i]).1 ≠ 0) : rck n (R.drop i) i = ((wfl n R[i]).1, i + 1, (wfl n R[i]).2) := by
  rw [List.drop_eq_getElem_cons hi, rck, if_neg h4, if_neg h]
theorem rck_many (n : Nat) (R : List (List (List UInt8))) (i : Nat) (hi : i < R.length) (h4 : i = 4096) : rck n (R.drop i) i = (7, i + 1, 0) := by
  rw [List.drop_eq_getElem_cons hi, rck, if_pos h4]
/-- what a check of rows answers -/
def CkA (A : Nat → Addr) (w : World) (q : Nat × Nat × Nat) (e : Ending) (w' : World) : Prop := ∃ ev, e = .returned ev ∧ FT A w' ev q.1 (q.2.1, q.2.2) ∧ Below w.heap.size w w' ∧ (q.1 = 0 → w' = w)
theorem HE.grown {A : Nat → Addr} {w w' : World} (h : HE A w) (hb : Below w.heap.size w w') : HE A w' := h.kept (G := fun k => k < w.heap.size) ⟨hb.os, hb.tape, hb.output, hb.size, fun k hk => hb.block k hk⟩ (fun k hk => h.lt k hk)
set_option maxHeartbeats 2000000 in
theorem checkRows_any (A : Nat → Addr) (v : Value) (R : List (List (List UInt8))) (w : World) (hE : HE A w) (hT : ErT w) (hr : Rw w v R) :
    Calls Tryz.prog 63 #[v] w fun e w' => CkA A w (rck (R.headD []).length R 0) e w' := by
  have e7 := hE.e7
  have hl := hr.len
  have HR := hid hr
  have HC := hid (fun v cs n ht => checkRow_any A v cs n w hE ht)
  have HT := hid hT
  obtain ⟨n, hn⟩ : ∃ n, n = (R.headD []).length := ⟨_, rfl⟩
  rw [← hn]
  have HN := hid hn
  obtain ⟨⟨qc, qn, qo⟩, hq⟩ : ∃ q, q = rck n R 0 := ⟨_, rfl⟩
  rw [← hq]
  have HQ := hid hq
  obtain ⟨ao, cap, rfl⟩ := hr.form
  clear hE hr hT hq hn
  go_enter Tryz.func63, Tryz.ntmps63
  go_wp2_with fail
  go_loop [8] (fun i => ∃ k : Nat, k ≤ R.length ∧ i = .int .i64 (k : Int) ∧ rck n R 0 = rck n (R.drop k) k) (fun i => R.length - (intOf i).toNat)
  case atStart => exact ⟨0, by omega, rfl, rfl⟩
  case round =>
    obtain ⟨k, hk, rfl, hd⟩ := hrel
    by_cases hlt : k < R.length
    · have hI : (k : Int) < (R.length : Int) := by omega
      have hI1 : (k : Int) + 1 ≤ 9223372036854775807 := by omega
      obtain ⟨g, off, c, u, e1, hc, c0, t0⟩ := HR.out.at k hlt
      cases e1
      by_cases h4 : k = 4096
      · have hq : (qc, qn, qo) = (7, k + 1, 0) := by rw [HQ.out, hd, rck_many n R k hlt h4]
        have hqc : qc = 7 := congrArg Prod.fst hq
        have hqn : qn = k + 1 := congrArg (fun x => x.2.1) hq
        have hqo : qo = 0 := congrArg (fun x => x.2.2) hq
        subst hqc hqn hqo
        have HW := hid (heap_alloc_new w (.cells #[.int .i64 ((k : Int) + 1), .int .i64 0, .iface 208 (.pointer (some (A 7)))] 64))
        have HK := hid h4
        have g4 : ((k : Int) == 4096) = true := by rw [beq_iff_eq]; omega
        obtain ⟨ua, uc, rfl⟩ := t0.form
        clear hd t0 h4 hq
        go_wp2
        go_ret
        refine ⟨_, rfl, .inr ⟨by simp, _, rfl, ?_⟩, (Below.refl _ _).alloc (Nat.le_refl _) _, fun h => absurd h (by simp)⟩
        exact HW.out
      · have g4 : ((k : Int) == 4096) = false := by rw [beq_eq_false_iff_ne]; omega
        have g4' : ¬ (k : Int) = 4096 := by omega
        obtain ⟨g2, off2, c2, u2, e2, hc2, c20, t2⟩ := HR.out.at 0 (by omega)
        cases e2
        rw [Nat.add_zero] at c20
        have hhd : R[0] = R.headD [] := by
          cases R with
          | nil => simp at hlt
          | cons a r => rfl
        obtain ⟨ua2, uc2, rfl⟩ := t2.form
        rw [hhd, ← HN.out] at c20
        have hx := HC.out u _ n t0
        obtain ⟨ua, uc, rfl⟩ := t0.form
        by_cases hf : (wfl n (R[k]'hlt)).1 = 0
        · have HD := hid (hd.trans (rck_drop n R k hlt h4 hf))
          have hy : Calls Tryz.prog 72 #[.slice ua (R[k]'hlt).length uc, .int .i64 (n : Int)] w fun e w' => e = .returned .nilIface ∧ w' = w := by
            refine hx.mono ?_
            rintro e w1 (⟨_, he, hw⟩ | ⟨hne, _⟩)
            · exact ⟨he, hw⟩
            · exact absurd hf hne
          have HX := hid hy
          clear hd hx hy hf t0 t2 hhd h4
          go_wp2_with fail
          refine Calls.mono HX.out ?_
          rintro e w1 ⟨rfl, hw⟩
          replace hw := hw.symm
          subst hw
          go_wp2
          go_round
          case rel => exact ⟨k + 1, by omega, by go_num, HD.out⟩
          case measure => simp [intOf]; omega
        · have hq : (qc, qn, qo) = ((wfl n (R[k]'hlt)).1, k + 1, (wfl n (R[k]'hlt)).2) := by rw [HQ.out, hd, rck_hit n R k hlt h4 hf]
          have hqc : (wfl n (R[k]'hlt)).1 = qc := (congrArg Prod.fst hq).symm
          have hqn : qn = k + 1 := congrArg (fun x => x.2.1) hq
          have hqo : (wfl n (R[k]'hlt)).2 = qo := (congrArg (fun x => x.2.2) hq).symm
          subst hqn
          rw [hqc] at hf hx
          rw [hqo] at hx
          obtain ⟨W, hW⟩ : ∃ W, W = w.alloc (.cells #[.int .i64 ((0 : Nat) : Int), .int .i64 (qo : Int), erV A qc] 64) := ⟨_, rfl⟩
          have hWh : W.heap[w.heap.size]? = some (.cells #[.int .i64 ((0 : Nat) : Int), .int .i64 (qo : Int), erV A qc] 64 (0, 0)) := by rw [hW]; exact heap_alloc_new w _
          have hWB : Below w.heap.size w W := by rw [hW]; exact (Below.refl _ _).alloc (Nat.le_refl _) _
          have hy : Calls Tryz.prog 72 #[.slice ua (R[k]'hlt).length uc, .int .i64 (n : Int)] w fun e w' => e = .returned (.iface 59 (.pointer (some ⟨w.heap.size, 0, none⟩))) ∧ w' = W := by
            refine hx.mono ?_
            rintro e w1 (⟨hz, _⟩ | ⟨_, he, hw⟩)
            · exact absurd hz hf
            · exact ⟨he, hw.trans hW.symm⟩
          have HO := hid (onLine_any w.heap.size _ _ _ (k + 1) W (HT.out.below hWB) hWh)
          have hcast : ((k + 1 : Nat) : Int) = (k : Int) + 1 := by omega
          rw [hcast] at HO
          have HX := hid hy
          have HWB := hid hWB
          have HF := hid hf
          clear hd hx hy hf t0 t2 hhd h4 hW hWh hWB hcast hq hqc hqo
          go_wp2_with fail
          refine Calls.mono HX.out ?_
          rintro e w1 ⟨rfl, hw⟩
          replace hw := hw.symm
          subst hw
          go_wp2_with fail
          refine Calls.mono HO.out ?_
          rintro e w2 ⟨rfl, hh2, hk2⟩
          have HH2 := hid hh2
          have HK2 := hid hk2
          clear hh2 hk2
          go_wp2
          go_ret
          refine ⟨_, rfl, .inr ⟨HF.out, _, rfl, ?_⟩, ?_, fun h => absurd h HF.out⟩
          · exact HH2.out
          · have b1 := HWB.out
            have k2 := HK2.out
            exact ⟨k2.os.trans b1.os, k2.tape.trans b1.tape, k2.output.trans b1.output, Nat.le_trans b1.size k2.size, fun j hj => (k2.block j ⟨Nat.lt_of_lt_of_le hj b1.size, by omega⟩).trans (b1.block j hj)⟩
    · have hI : ¬ (k : Int) < (R.length : Int) := by omega
      have hq : (qc, qn, qo) = (0, 0, 0) := by
        rw [HQ.out, hd, List.drop_eq_nil_of_le (by omega)]
        rfl
      have hqc : qc = 0 := congrArg Prod.fst hq
      subst hqc
      clear hd hq
      go_wp2
      go_ret
      exact ⟨_, rfl, .inl ⟨rfl, rfl⟩, Below.refl _ _, fun _ => rfl⟩
end Go.Proofs.YtpgpeafmlijfkaaGreatDoor
