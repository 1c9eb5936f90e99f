/-
  Least: whose picks keep whose behind them.
-/
import Derived.Test.YtaiccmbhdgecgaaLe1
import Derived.Test.YtaiccmbhdgecgaaPairsIn
import Derived.Laws.BitsAllLaws
namespace Go.Proofs.Ytaiccmbhdgecgaa
open Go.RowKit
set_option maxRecDepth 100000

/-- without the binary digit q -/
def cl (a q : Nat) : Nat := a &&& (18446744073709551615 - 2 ^ q)
theorem cl_lt (a q : Nat) (h : a < 65536) : cl a q < 65536 := by
  unfold cl
  have := Nat.and_le_left (n := a) (m := 18446744073709551615 - 2 ^ q)
  omega
theorem cl_bit (a q g : Nat) (h : a < 65536) (hq : q < 16) : (cl a q).testBit g = (a.testBit g && !decide (g = q)) := by
  unfold cl
  have hp : 2 ^ q < 2 ^ 64 := Nat.pow_lt_pow_right (by decide) (by omega)
  have e : 18446744073709551615 - 2 ^ q = 2 ^ 64 - (2 ^ q + 1) := by omega
  rw [Nat.testBit_and, e, Nat.testBit_two_pow_sub_succ hp, Nat.testBit_two_pow]
  by_cases c : g < 64
  · rw [decide_eq_true c, Bool.true_and]
    congr 2
    exact decide_eq_decide.2 ⟨fun x => x.symm, fun x => x.symm⟩
  · have ha : a.testBit g = false := Nat.testBit_lt_two_pow (Nat.lt_of_lt_of_le h (Nat.pow_le_pow_right (n := 2) (i := 16) (by decide) (by omega)))
    rw [ha]
    simp
/-- one pair more -/
def b1 (L : List Nat) (p : Pr) : List Nat := if p.1 = p.2 then L else
  let L1 := L.set p.1.toNat (cl (L.getD p.1.toNat 0) p.2.toNat)
  L1.set p.2.toNat (cl (L1.getD p.2.toNat 0) p.1.toNat)
/-- the masks behind the first j pairs -/
def bm (P : List Pr) (j : Nat) : List Nat := (P.take j).foldl b1 (List.replicate 16 65535)
theorem bm_succ (P : List Pr) (j : Nat) (h : j < P.length) : bm P (j + 1) = b1 (bm P j) P[j] := by
  unfold bm
  rw [List.take_add_one, List.getElem?_eq_getElem h, List.foldl_append]
  rfl
theorem b1_len (L : List Nat) (p : Pr) : (b1 L p).length = L.length := by unfold b1; split <;> simp
theorem bm_len (P : List Pr) : ∀ j, (bm P j).length = 16 := by
  have key : ∀ (Q : List Pr) (L : List Nat), L.length = 16 → (Q.foldl b1 L).length = 16 := by
    intro Q
    induction Q with
    | nil => intro L h; exact h
    | cons p t ih => intro L h; exact ih _ (by rw [b1_len]; exact h)
  intro j
  exact key _ _ (by simp)
theorem set_lt {L : List Nat} (h : ∀ b ∈ L, b < 65536) (i x : Nat) (hx : x < 65536) : ∀ b ∈ L.set i x, b < 65536 := by
  intro b hb
  rcases List.mem_or_eq_of_mem_set hb with hb | hb
  · exact h b hb
  · omega
theorem getD_lt {L : List Nat} (h : ∀ b ∈ L, b < 65536) (i : Nat) : L.getD i 0 < 65536 := by
  rw [List.getD_eq_getElem?_getD]
  cases e : L[i]? with
  | none => simp
  | some b => exact h b (List.mem_of_getElem? e)
theorem b1_lt {L : List Nat} (h : ∀ b ∈ L, b < 65536) (p : Pr) : ∀ b ∈ b1 L p, b < 65536 := by
  unfold b1
  split
  · exact h
  · exact set_lt (set_lt h _ _ (cl_lt _ _ (getD_lt h _))) _ _ (cl_lt _ _ (getD_lt (set_lt h _ _ (cl_lt _ _ (getD_lt h _))) _))
theorem bm_lt (P : List Pr) : ∀ j, ∀ b ∈ bm P j, b < 65536 := by
  have key : ∀ (Q : List Pr) (L : List Nat), (∀ b ∈ L, b < 65536) → ∀ b ∈ Q.foldl b1 L, b < 65536 := by
    intro Q
    induction Q with
    | nil => intro L h; exact h
    | cons p t ih => intro L h; exact ih _ (b1_lt h p)
  intro j
  exact key _ _ (fun b hb => by obtain rfl := List.eq_of_mem_replicate hb; omega)
theorem uc_set (L : List Nat) (i x : Nat) : (uc L).set i (.int .u64 (x : Int)) = uc (L.set i x) := by simp [uc, List.map_set]
theorem andn (x b : Nat) (hx : x < 65536) (hb : b < 16) : bits BinOp.andNot IntKind.u64 (x : Int) (IntKind.u64.wrap (2 ^ b)) = ((cl x b : Nat) : Int) := by
  have hp : 2 ^ b < 2 ^ 16 := Nat.pow_lt_pow_right (by decide) hb
  have e : IntKind.u64.wrap (2 ^ b) = ((2 ^ b : Nat) : Int) := by
    have e2 : ((2 : Int) ^ b) = ((2 ^ b : Nat) : Int) := by push_cast; rfl
    rw [e2, IntKind.wrap_u64]
    have h2 : (2 ^ b : Nat) < 65536 := hp
    generalize (2 ^ b : Nat) = y at h2
    omega
  rw [e, u64_andNot_nat x (2 ^ b) (by omega) (by omega)]
  rfl
abbrev TM : TypeId := 72
/-- sixteen noughts, masks L, and nothing older turned -/
structure BS (w wx : World) (L : List Nat) : Prop where
  z : wx.heap[w.heap.size]? = some (.cells (uc (List.replicate 16 0)).toArray TM (0, 0))
  m : wx.heap[w.heap.size + 1]? = some (.cells (uc L).toArray TM (0, 0))
  below : Below w.heap.size w wx
theorem BS.later {w wx w' : World} {L : List Nat} (h : BS w wx L) (k : Below wx.heap.size wx w') : BS w w' L :=
  ⟨(k.block _ (Array.getElem?_eq_some_iff.1 h.z).1).trans h.z, (k.block _ (Array.getElem?_eq_some_iff.1 h.m).1).trans h.m, h.below.trans (k.mono h.below.size)⟩
theorem BS.put {w wx : World} {L : List Nat} (h : BS w wx L) (i x : Nat) : BS w (wx.setCell ⟨w.heap.size + 1, i, none⟩ (.int .u64 (x : Int))) (L.set i x) := by
  refine ⟨?_, ?_, h.below.setCell (by show w.heap.size ≤ w.heap.size + 1; omega) _⟩
  · rw [heap_setCell_other _ _ _ _ (by show w.heap.size ≠ w.heap.size + 1; omega)]
    exact h.z
  · rw [heap_setCell_same wx (w.heap.size + 1) i _ _ _ h.m]
    simp only [List.setIfInBounds_toArray]
    rw [uc_set]
theorem BS.at {w wx : World} {L : List Nat} (h : BS w wx L) (i : Nat) (hi : i < L.length) : wx.cell? ⟨w.heap.size + 1, i, none⟩ = some (.int .u64 ((L.getD i 0 : Nat) : Int)) ∧ wx.frozen? ⟨w.heap.size + 1, i, none⟩ = false := by
  refine ⟨?_, by simp [World.frozen?, h.m]⟩
  rw [cell_of_row wx (w.heap.size + 1) i _ _ _ h.m, List.getD_eq_getElem?_getD, List.getElem?_eq_getElem hi]
  simp [uc, hi]
set_option maxHeartbeats 8000000 in
theorem barred_any (v : Value) (P : List Pr) (w : World) (hp : PL w v P) (h256 : P.length ≤ 256) (hin : ∀ i (h : i < P.length), 0 ≤ P[i].1 ∧ P[i].1 < 16 ∧ 0 ≤ P[i].2 ∧ P[i].2 < 16) :
    Calls Try.prog 46 #[v] w fun e w' => e = .returned (.agg (uc (bm P P.length)).toArray) ∧ Below w.heap.size w w' := by
  obtain ⟨ao, cap, rfl, hc, hn0, hcell⟩ := hp
  have HC := hid hcell
  have HI := hid hin
  clear hcell hn0 hin
  go_enter Try.func46, Try.ntmps46
  go_wp2
  refine wp_loop_rounds 17 ?_
  iterate 17 (rw [rounds_succ]; go_wp2)
  go_loopw [6, 15] (fun _ vi wx => ∃ j : Nat, j ≤ P.length ∧ vi = .int .i64 (j : Int) ∧ BS w wx (bm P j)) (fun _ vi _ => P.length - (intOf vi).toNat)
  case atStart =>
    refine ⟨0, Nat.zero_le _, rfl, ?_, ?_, ?_⟩
    · have a1 := (Below.refl (w.heap.size + 1) (w.alloc (.cells (uc (List.replicate 16 0)).toArray TM))).alloc (by simp) (.cells (uc (List.replicate 16 65535)).toArray TM)
      exact (a1.block w.heap.size (by omega)).trans (heap_alloc_new w _)
    · have a1 := heap_alloc_new (w.alloc (.cells (uc (List.replicate 16 0)).toArray TM)) (.cells (uc (List.replicate 16 65535)).toArray TM)
      rw [World.size_alloc] at a1
      exact a1
    · exact ((Below.refl _ _).alloc (Nat.le_refl _) _).alloc (by simp) _
  case round =>
    obtain ⟨j, hj, rfl, hB⟩ := hrel
    have HB := hid hB
    clear hB
    by_cases h : j < P.length
    · have hI : (j : Int) < (P.length : Int) := by omega
      obtain ⟨_, g, off, hao, p0, p1⟩ := HC.out j h
      subst hao
      obtain ⟨i0, i1, i2, i3⟩ := HI.out j h
      have p0 := below_cells HB.out.below _ _ p0
      have p1 := below_cells HB.out.below _ _ p1
      have HBM := hid (bm_succ P j h)
      obtain ⟨y, hy⟩ : ∃ y, P[j] = y := ⟨_, rfl⟩
      rw [hy] at p0 p1 i0 i1 i2 i3 HBM
      obtain ⟨A, B⟩ := y
      simp only at p0 p1 i0 i1 i2 i3
      obtain ⟨a, rfl⟩ : ∃ a : Nat, A = (a : Int) := ⟨A.toNat, by omega⟩
      obtain ⟨b, rfl⟩ : ∃ b : Nat, B = (b : Int) := ⟨B.toNat, by omega⟩
      have hl16 := bm_len P j
      have hlt := bm_lt P j
      by_cases hab : a = b
      · subst hab
        have HE := hid (show bm P (j + 1) = bm P j by rw [HBM.out]; unfold b1; rw [if_pos rfl])
        have HB2 := hid (fun o => HB.out.later ((Below.refl _ _).alloc (Nat.le_refl _) o))
        clear hy HBM hlt
        go_wp2
        go_roundw
        case rel => exact ⟨j + 1, by omega, by go_num, by rw [HE.out]; exact HB2.out _⟩
        case measure => simp [intOf]; omega
      · have hne : ((a : Int) == (b : Int)) = false := by simp; omega
        have HB2 := hid (HB.out.later ((Below.refl _ _).alloc (Nat.le_refl _) (.cells #[.int .i64 (a : Int), .int .i64 (b : Int)] 70)))
        obtain ⟨q1, f1⟩ := HB2.out.at a (by omega)
        have hx1 := getD_lt hlt a
        obtain ⟨x, hx⟩ : ∃ x, (bm P j).getD a 0 = x := ⟨_, rfl⟩
        rw [hx] at q1 hx1
        have hA1 := andn x b hx1 (by omega)
        have hB1 := HB2.out.put a (cl x b)
        obtain ⟨V, hV⟩ : ∃ V, ((wr.alloc (.cells #[.int .i64 (a : Int), .int .i64 (b : Int)] 70)).setCell ⟨w.heap.size + 1, a, none⟩ (.int .u64 ((cl x b : Nat) : Int))).drew = V := ⟨_, rfl⟩
        have hBV : BS w V ((bm P j).set a (cl x b)) := by rw [← hV]; exact hB1.later ((Below.refl _ _).drew)
        have hne2 : wr.heap.size ≠ w.heap.size + 1 := by
          have := (Array.getElem?_eq_some_iff.1 HB.out.m).1
          omega
        have hpb : V.heap[wr.heap.size]? = some (.cells #[.int .i64 (a : Int), .int .i64 (b : Int)] 70 (0, 0)) := by
          rw [← hV]
          show (((wr.alloc (.cells #[.int .i64 (a : Int), .int .i64 (b : Int)] 70)).setCell ⟨w.heap.size + 1, a, none⟩ (.int .u64 ((cl x b : Nat) : Int)))).heap[wr.heap.size]? = _
          rw [heap_setCell_other _ _ _ _ hne2]
          exact heap_alloc_new wr _
        have v0 : V.cell? ⟨wr.heap.size, 0, none⟩ = some (.int .i64 (a : Int)) := by rw [cell_of_row V wr.heap.size 0 _ _ _ hpb]; rfl
        have v1 : V.cell? ⟨wr.heap.size, 1, none⟩ = some (.int .i64 (b : Int)) := by rw [cell_of_row V wr.heap.size 1 _ _ _ hpb]; rfl
        obtain ⟨q2, f2⟩ := hBV.at b (by rw [List.length_set]; omega)
        have hx2 := getD_lt (set_lt hlt a _ (cl_lt x b hx1)) b
        obtain ⟨x2, hx2e⟩ : ∃ x2, ((bm P j).set a (cl x b)).getD b 0 = x2 := ⟨_, rfl⟩
        rw [hx2e] at q2 hx2
        have hA2 := andn x2 a hx2 (by omega)
        have HBV := hid (hBV.put b (cl x2 a))
        have HE := hid (show bm P (j + 1) = ((bm P j).set a (cl x b)).set b (cl x2 a) by
          rw [HBM.out]
          unfold b1
          rw [if_neg (fun e => hab (by simp only at e; omega))]
          simp only [Int.toNat_natCast]
          rw [hx, hx2e])
        have HV := hid hV
        clear hy hV hBV hB1 hpb hne2 hlt hx hx2e HBM hx1 hx2
        go_wp2
        go_region
        rw [HV.out]
        go_wp2
        go_region
        go_wp2
        go_roundw
        case rel => exact ⟨j + 1, by omega, by go_num, by rw [HE.out]; exact HBV.out.later ((Below.refl _ _).drew)⟩
        case measure => simp [intOf]; omega
    · have hI : ¬ (j : Int) < (P.length : Int) := by omega
      obtain rfl : j = P.length := by omega
      obtain ⟨m0, m1, m2, m3, m4, m5, m6, m7, m8, m9, m10, m11, m12, m13, m14, m15, hm⟩ : ∃ m0 m1 m2 m3 m4 m5 m6 m7 m8 m9 m10 m11 m12 m13 m14 m15 : Nat, bm P P.length = [m0, m1, m2, m3, m4, m5, m6, m7, m8, m9, m10, m11, m12, m13, m14, m15] := by
        have hl := bm_len P P.length
        match hL : bm P P.length, hl with
        | [m0, m1, m2, m3, m4, m5, m6, m7, m8, m9, m10, m11, m12, m13, m14, m15], _ => exact ⟨m0, m1, m2, m3, m4, m5, m6, m7, m8, m9, m10, m11, m12, m13, m14, m15, rfl⟩
      have c0 : wr.cell? ⟨w.heap.size + 1, 0, none⟩ = some (.int .u64 (m0 : Int)) := by have := (HB.out.at 0 (by rw [bm_len]; omega)).1; rw [hm] at this; exact this
      have c1 : wr.cell? ⟨w.heap.size + 1, 1, none⟩ = some (.int .u64 (m1 : Int)) := by have := (HB.out.at 1 (by rw [bm_len]; omega)).1; rw [hm] at this; exact this
      have c2 : wr.cell? ⟨w.heap.size + 1, 2, none⟩ = some (.int .u64 (m2 : Int)) := by have := (HB.out.at 2 (by rw [bm_len]; omega)).1; rw [hm] at this; exact this
      have c3 : wr.cell? ⟨w.heap.size + 1, 3, none⟩ = some (.int .u64 (m3 : Int)) := by have := (HB.out.at 3 (by rw [bm_len]; omega)).1; rw [hm] at this; exact this
      have c4 : wr.cell? ⟨w.heap.size + 1, 4, none⟩ = some (.int .u64 (m4 : Int)) := by have := (HB.out.at 4 (by rw [bm_len]; omega)).1; rw [hm] at this; exact this
      have c5 : wr.cell? ⟨w.heap.size + 1, 5, none⟩ = some (.int .u64 (m5 : Int)) := by have := (HB.out.at 5 (by rw [bm_len]; omega)).1; rw [hm] at this; exact this
      have c6 : wr.cell? ⟨w.heap.size + 1, 6, none⟩ = some (.int .u64 (m6 : Int)) := by have := (HB.out.at 6 (by rw [bm_len]; omega)).1; rw [hm] at this; exact this
      have c7 : wr.cell? ⟨w.heap.size + 1, 7, none⟩ = some (.int .u64 (m7 : Int)) := by have := (HB.out.at 7 (by rw [bm_len]; omega)).1; rw [hm] at this; exact this
      have c8 : wr.cell? ⟨w.heap.size + 1, 8, none⟩ = some (.int .u64 (m8 : Int)) := by have := (HB.out.at 8 (by rw [bm_len]; omega)).1; rw [hm] at this; exact this
      have c9 : wr.cell? ⟨w.heap.size + 1, 9, none⟩ = some (.int .u64 (m9 : Int)) := by have := (HB.out.at 9 (by rw [bm_len]; omega)).1; rw [hm] at this; exact this
      have c10 : wr.cell? ⟨w.heap.size + 1, 10, none⟩ = some (.int .u64 (m10 : Int)) := by have := (HB.out.at 10 (by rw [bm_len]; omega)).1; rw [hm] at this; exact this
      have c11 : wr.cell? ⟨w.heap.size + 1, 11, none⟩ = some (.int .u64 (m11 : Int)) := by have := (HB.out.at 11 (by rw [bm_len]; omega)).1; rw [hm] at this; exact this
      have c12 : wr.cell? ⟨w.heap.size + 1, 12, none⟩ = some (.int .u64 (m12 : Int)) := by have := (HB.out.at 12 (by rw [bm_len]; omega)).1; rw [hm] at this; exact this
      have c13 : wr.cell? ⟨w.heap.size + 1, 13, none⟩ = some (.int .u64 (m13 : Int)) := by have := (HB.out.at 13 (by rw [bm_len]; omega)).1; rw [hm] at this; exact this
      have c14 : wr.cell? ⟨w.heap.size + 1, 14, none⟩ = some (.int .u64 (m14 : Int)) := by have := (HB.out.at 14 (by rw [bm_len]; omega)).1; rw [hm] at this; exact this
      have c15 : wr.cell? ⟨w.heap.size + 1, 15, none⟩ = some (.int .u64 (m15 : Int)) := by have := (HB.out.at 15 (by rw [bm_len]; omega)).1; rw [hm] at this; exact this
      have zz : ∀ k, k < 16 → wr.cell? ⟨w.heap.size, k, none⟩ = some (.int .u64 0) ∧ wr.frozen? ⟨w.heap.size, k, none⟩ = false := by
        intro k hk
        refine ⟨?_, by simp [World.frozen?, HB.out.z]⟩
        rw [cell_of_row wr w.heap.size k _ _ _ HB.out.z]
        rw [List.getElem?_toArray]
        unfold uc
        rw [List.getElem?_map, List.getElem?_replicate, if_pos hk]
        rfl
      have z0 := (zz 0 (by omega)).1
      have f0 := (zz 0 (by omega)).2
      have z1 := (zz 1 (by omega)).1
      have f1 := (zz 1 (by omega)).2
      have z2 := (zz 2 (by omega)).1
      have f2 := (zz 2 (by omega)).2
      have z3 := (zz 3 (by omega)).1
      have f3 := (zz 3 (by omega)).2
      have z4 := (zz 4 (by omega)).1
      have f4 := (zz 4 (by omega)).2
      have z5 := (zz 5 (by omega)).1
      have f5 := (zz 5 (by omega)).2
      have z6 := (zz 6 (by omega)).1
      have f6 := (zz 6 (by omega)).2
      have z7 := (zz 7 (by omega)).1
      have f7 := (zz 7 (by omega)).2
      have z8 := (zz 8 (by omega)).1
      have f8 := (zz 8 (by omega)).2
      have z9 := (zz 9 (by omega)).1
      have f9 := (zz 9 (by omega)).2
      have z10 := (zz 10 (by omega)).1
      have f10 := (zz 10 (by omega)).2
      have z11 := (zz 11 (by omega)).1
      have f11 := (zz 11 (by omega)).2
      have z12 := (zz 12 (by omega)).1
      have f12 := (zz 12 (by omega)).2
      have z13 := (zz 13 (by omega)).1
      have f13 := (zz 13 (by omega)).2
      have z14 := (zz 14 (by omega)).1
      have f14 := (zz 14 (by omega)).2
      have z15 := (zz 15 (by omega)).1
      have f15 := (zz 15 (by omega)).2
      have HM := hid hm
      clear zz hm
      go_wp2
      refine bodyPost_ret (v := .agg #[.int .u64 (m0 : Int), .int .u64 (m1 : Int), .int .u64 (m2 : Int), .int .u64 (m3 : Int), .int .u64 (m4 : Int), .int .u64 (m5 : Int), .int .u64 (m6 : Int), .int .u64 (m7 : Int), .int .u64 (m8 : Int), .int .u64 (m9 : Int), .int .u64 (m10 : Int), .int .u64 (m11 : Int), .int .u64 (m12 : Int), .int .u64 (m13 : Int), .int .u64 (m14 : Int), .int .u64 (m15 : Int)]) (by simp [results, Try.results46, go_sem, z0, z1, z2, z3, z4, z5, z6, z7, z8, z9, z10, z11, z12, z13, z14, z15]) rfl ?_
      rw [HM.out]
      exact ⟨rfl, ((((((((((((((((HB.out.below.setCell (p := ⟨w.heap.size, 0, none⟩) (Nat.le_refl _) _).setCell (p := ⟨w.heap.size, 1, none⟩) (Nat.le_refl _) _).setCell (p := ⟨w.heap.size, 2, none⟩) (Nat.le_refl _) _).setCell (p := ⟨w.heap.size, 3, none⟩) (Nat.le_refl _) _).setCell (p := ⟨w.heap.size, 4, none⟩) (Nat.le_refl _) _).setCell (p := ⟨w.heap.size, 5, none⟩) (Nat.le_refl _) _).setCell (p := ⟨w.heap.size, 6, none⟩) (Nat.le_refl _) _).setCell (p := ⟨w.heap.size, 7, none⟩) (Nat.le_refl _) _).setCell (p := ⟨w.heap.size, 8, none⟩) (Nat.le_refl _) _).setCell (p := ⟨w.heap.size, 9, none⟩) (Nat.le_refl _) _).setCell (p := ⟨w.heap.size, 10, none⟩) (Nat.le_refl _) _).setCell (p := ⟨w.heap.size, 11, none⟩) (Nat.le_refl _) _).setCell (p := ⟨w.heap.size, 12, none⟩) (Nat.le_refl _) _).setCell (p := ⟨w.heap.size, 13, none⟩) (Nat.le_refl _) _).setCell (p := ⟨w.heap.size, 14, none⟩) (Nat.le_refl _) _).setCell (p := ⟨w.heap.size, 15, none⟩) (Nat.le_refl _) _)⟩
end Go.Proofs.Ytaiccmbhdgecgaa
