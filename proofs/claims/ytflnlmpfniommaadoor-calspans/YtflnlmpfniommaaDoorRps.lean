/-
  The document's own ParseSpan.
-/
import Derived.Test.YtflnlmpfniommaaDoorPut
import Derived.Deep.CutRange
import Derived.Deep.CutBlock
namespace Go.Proofs.YtflnlmpfniommaaDoor
open Go.RowKit
set_option maxRecDepth 100000

theorem nm_stepS (t : ByteArray) (a i : Nat) (h : a + i < t.size) : nm (sub t.data.toList a (i + 1)) = nm (sub t.data.toList a i) * 10 + (t[a + i].toNat - 48) := by
  have lt : t.data.toList.length = t.size := Array.length_toList
  rw [sub_succ _ _ _ (by rw [lt]; exact h), nm, nmA_snoc, byte_at t (a + i) h]
  rfl

theorem mrk_nod (c : UInt8) (h : c ∈ mrk) : ¬ isDB c = true := by
  unfold mrk at h
  simp at h
  rcases h with rfl | rfl | rfl | rfl | rfl | rfl | rfl <;> decide

/-- the three spans that the document's ParseSpan lays -/
def SR (w0 : World) (s : List Int) (w : World) : Prop := s.length = 7 ∧ Below w0.heap.size w0 w ∧ LBox w w0.heap.size zs7 ∧ LBox w (w0.heap.size + 1) zs7 ∧ LBox w (w0.heap.size + 1 + 1) s
theorem SR.stable {w0 w w' : World} {s : List Int} (h : SR w0 s w) (hb : Below w.heap.size w w') : SR w0 s w' :=
  ⟨h.1, h.2.1.trans (hb.mono h.2.1.size), h.2.2.1.later hb, h.2.2.2.1.later hb, h.2.2.2.2.later hb⟩
theorem SR.put {w0 w : World} {s : List Int} (h : SR w0 s w) (i : Nat) (v : Int) : SR w0 (s.set i v) (w.setCell ⟨w0.heap.size + 1 + 1, i, none⟩ (.int .i64 v)) := by
  refine ⟨by rw [List.length_set]; exact h.1, h.2.1.setCell (by show w0.heap.size ≤ w0.heap.size + 1 + 1; omega) _, ?_, ?_, h.2.2.2.2.put i v⟩
  · unfold LBox
    rw [Below.heap_setCell _ _ _ _ (by show w0.heap.size ≠ w0.heap.size + 1 + 1; omega)]
    exact h.2.2.1
  · unfold LBox
    rw [Below.heap_setCell _ _ _ _ (by show w0.heap.size + 1 ≠ w0.heap.size + 1 + 1; omega)]
    exact h.2.2.2.1
theorem SR.start (w : World) (o : Obj) (ho : o = .cells #[.int .i64 0, .int .i64 0, .int .i64 0, .int .i64 0, .int .i64 0, .int .i64 0, .int .i64 0] 23) : SR w zs7 (((w.alloc o).alloc o).alloc o) := by
  have s1 : (w.alloc o).heap.size = w.heap.size + 1 := by simp
  have s2 : ((w.alloc o).alloc o).heap.size = w.heap.size + 1 + 1 := by simp
  have n0 : ∀ v : World, LBox (v.alloc o) v.heap.size zs7 := fun v => by rw [ho]; exact heap_alloc_new v _
  refine ⟨rfl, (((Below.refl _ _).alloc (Nat.le_refl _) _).alloc (by omega) _).alloc (by omega) _, ?_, ?_, ?_⟩
  · exact ((n0 w).later (alloc_belowS _ _)).later (alloc_belowS _ _)
  · have h := (n0 (w.alloc o)).later (alloc_belowS _ o)
    rw [s1] at h
    exact h
  · have h := n0 ((w.alloc o).alloc o)
    rw [s2] at h
    exact h

set_option maxHeartbeats 8000000 in
theorem refSpan_P (t : ByteArray) (ht : t.size ≤ 64) (h0 : 0 < t.size) (hP : t[0] = 80) (R : List Int × Nat) (hR : spF t.data.toList 64 1 0 4 zs7 = R) (ans : Value)
    (hok : R.2 = t.size → bt t.data.toList (t.size - 1) ∈ mrk → ans = sT R.1 0 0) (hno : ¬ (R.2 = t.size ∧ bt t.data.toList (t.size - 1) ∈ mrk) → ans = sT zs7 34 (R.2 : Nat)) (w : World) :
    Calls Tryd.prog 11 #[.string t] w fun e w' => e = .returned ans ∧ Below w.heap.size w w' := by
  have h80 : (t[0]'h0).toNat = 80 := by rw [hP]; rfl
  have lt : t.data.toList.length = t.size := Array.length_toList
  have LT := hid lt
  have HS0 := hid (SR.start w _ rfl)
  have HOK := hid hok
  have HNO := hid hno
  have HP0 := hid (show bt t.data.toList 0 = 80 by rw [bt_at t 0 h0]; exact hP)
  have HR := hid hR
  have z0 : ((t.size : Int) == 0) = false := by rw [beq_eq_false_iff_ne]; omega
  have i0 : (0 : Int) < (t.size : Int) := by omega
  clear lt hok hno hP hR
  go_enter Tryd.func11, Tryd.ntmps11
  go_wp2_with fail
  go_loopw [7, 8, 9, 10] (fun a la b wh wr => ∃ (x l n m f : Nat) (bb ww : Bool) (s : List Int), a = .int .i64 (x : Int) ∧ la = .int .i64 (l : Int) ∧ b = .bool bb ∧ wh = .bool ww ∧ 1 ≤ x ∧ x ≤ t.size ∧ l ≤ 7 ∧ Rl l bb n m ∧ ww = decide (bt t.data.toList (x - 1) ∈ mrk) ∧ spF t.data.toList f x n m s = R ∧ t.size ≤ x + f ∧ SR w s wr) (fun a _ _ _ _ => t.size - (intOf a).toNat)
  case atStart => exact ⟨1, 0, 0, 4, 64, false, false, zs7, rfl, rfl, rfl, rfl, by omega, by omega, by omega, .inl ⟨rfl, rfl, .inl ⟨rfl, rfl⟩⟩, by rw [HP0.out]; decide, HR.out, by omega, HS0.out⟩
  case round =>
    clear HS0 HR h80
    obtain ⟨x, l, n, m, f, b, ww, s, rfl, rfl, rfl, rfl, hx1, hx, hl7, hRl, hww, hsp, hfu, hS⟩ := hrel
    have HSP := hid hsp
    have HS := hid hS
    have HRL := hid hRl
    have HWW := hid hww
    clear hsp hS hRl hww
    by_cases h1 : x < t.size
    · obtain ⟨f', rfl⟩ : ∃ f', f = f' + 1 := ⟨f - 1, by omega⟩
      have bx := bt_at t x h1
      have i1 : (x : Int) < (t.size : Int) := by omega
      obtain ⟨bT, hbT⟩ : ∃ q : Bool, q = decide (t[x] = 84 ∧ b = false) := ⟨_, rfl⟩
      have HBT := hid hbT
      clear hbT
      go_upto_region 12 with fail
      go_cut [40] from 29 to 132 (fun s40 wx => s40 = .bool bT ∧ wx = wr)
      case first =>
        by_cases e : t[x] = 84
        · have q1 : (((t[x]'h1).toNat : Int) == 84) = true := by rw [e]; rfl
          cases b
          · go_wp2_with fail
            go_meet
            case rel => exact ⟨by rw [HBT.out]; simp [e], rfl⟩
          · go_wp2_with fail
            go_meet
            case rel => exact ⟨by rw [HBT.out]; simp, rfl⟩
        · have q1 : (((t[x]'h1).toNat : Int) == 84) = false := ne_i _ 84 (by omega) e
          go_wp2_with fail
          go_meet
          case rel => exact ⟨by rw [HBT.out]; simp [e], rfl⟩
      case rest =>
        obtain ⟨rfl, rfl⟩ := hcut
        cases bT
        · have HT := hid (show ¬ (bt t.data.toList x = 84 ∧ m = 4) by
            rw [bx]
            intro q
            have hb := HBT.out
            have hm := HRL.out
            unfold Rl at hm
            rcases hm with ⟨hb2, _⟩ | ⟨_, hm, _⟩
            · rw [decide_eq_true ⟨q.1, hb2⟩] at hb; simp at hb
            · omega)
          obtain ⟨k, hk⟩ : ∃ k, k = dga (t.data.toList.drop x) 9 := ⟨_, rfl⟩
          have hk9 := dga_le (t.data.toList.drop x) 9
          rw [List.length_drop, LT.out, ← hk] at hk9
          have HK := hid hk
          have HD := hid (fun c w => refDigit_any c w)
          obtain ⟨y, hy⟩ : ∃ y, y = x + k := ⟨_, rfl⟩
          obtain ⟨v, hv⟩ : ∃ v : Int, v = (nm (sub t.data.toList x k) : Int) := ⟨_, rfl⟩
          have HY := hid hy
          have HVV := hid hv
          have hyk : (y : Int) - (k : Int) = (x : Int) := by omega
          have hys : y ≤ t.size := by omega
          have hxy : x ≤ y := by omega
          clear hk HBT bx hv hy
          go_upto_block 2 with fail
          go_cut [7, 11, 12] from 29 to 132 (fun s7 s11 s12 wx => s7 = .int .i64 (y : Int) ∧ s11 = .int .i64 v ∧ s12 = .int .i64 (k : Int) ∧ wx = wc)
          case first =>
            go_wp2_with fail
            go_loopw [7, 11, 12] (fun a v i wy => ∃ j : Nat, a = .int .i64 ((x + j : Nat) : Int) ∧ v = .int .i64 (nm (sub t.data.toList x j) : Nat) ∧ i = .int .i64 (j : Int) ∧ j ≤ 9 ∧ x + j ≤ t.size ∧ (∀ q (_ : q < j) (h : q < (t.data.toList.drop x).length), isDB ((t.data.toList.drop x)[q]) = true) ∧ wy = wc) (fun _ _ i _ => 9 - (intOf i).toNat)
            case atStart => exact ⟨0, rfl, rfl, rfl, by omega, by omega, fun q hq => by omega, rfl⟩
            case round =>
              obtain ⟨j, rfl, rfl, rfl, hj9, hxj, hall, rfl⟩ := hrel
              have HA := hid hall
              clear hall
              have ld : (t.data.toList.drop x).length = t.size - x := by rw [List.length_drop, LT.out]
              by_cases g1 : x + j < t.size
              · have HG := hid (HD.out (t[x + j]'g1))
                have bj : ∀ h, (t.data.toList.drop x)[j]'h = t[x + j]'g1 := fun h => by rw [List.getElem_drop]; exact byte_at t (x + j) g1
                have gi : (x : Int) + (j : Int) < (t.size : Int) := by omega
                by_cases g2 : isDB (t[x + j]'g1) = true
                · rw [g2] at HG
                  by_cases g3 : j < 9
                  · have HN := hid (nm_stepS t x j g1)
                    have hr := isDB_in g2
                    have hv9 : nm (sub t.data.toList x j) < 10 ^ 9 := by
                      have h := nm_lt (sub t.data.toList x j) (fun c hc => by
                        obtain ⟨q, hq, a1, a2, a3⟩ := sub_mem _ _ _ _ hc
                        have := HA.out (q - x) (by omega) (by rw [ld]; rw [LT.out] at hq; omega)
                        rw [List.getElem_drop] at this
                        rw [← a3]
                        have e : x + (q - x) = q := by omega
                        simp only [e] at this
                        exact this)
                      rw [sub_len _ _ _ (by rw [LT.out]; omega)] at h
                      exact Nat.lt_of_lt_of_le h (Nat.pow_le_pow_right (by omega) (by omega))
                    have e9 : (10 : Nat) ^ 9 = 1000000000 := by decide
                    rw [e9] at hv9
                    have HOK := hid (show ∀ q (_ : q < j + 1) (h : q < (t.data.toList.drop x).length), isDB ((t.data.toList.drop x)[q]) = true from fun q hq h => by
                      by_cases e : q = j
                      · subst e; rw [bj]; exact g2
                      · exact HA.out q (by omega) h)
                    generalize nm (sub t.data.toList x j) = v at *
                    clear g2 bj
                    generalize hcc : t[x + j]'g1 = c at *
                    go_wp2_with (go_at_call 25; refine (HG.out _).mono ?_; rintro e w' ⟨rfl, rfl⟩)
                    go_roundw
                    case rel => exact ⟨j + 1, by go_num, by rw [HN.out]; go_num, by go_num, by omega, by omega, HOK.out, by trivial⟩
                    case measure => simp [intOf]; omega
                  · have HV := hid (show k = j by rw [HK.out]; exact dga_at _ _ _ (by omega) (by rw [ld]; omega) HA.out (.inl (by omega)))
                    clear bj g2
                    generalize hcc : t[x + j]'g1 = c at *
                    go_wp2_with (go_at_call 25; refine (HG.out _).mono ?_; rintro e w' ⟨rfl, rfl⟩)
                    go_meet
                    case rel => exact ⟨by rw [HY.out, HV.out]; go_num, by rw [HVV.out, HV.out], by rw [HV.out], by trivial⟩
                · have g2' : isDB (t[x + j]'g1) = false := by simpa using g2
                  rw [g2'] at HG
                  have HV := hid (show k = j by rw [HK.out]; exact dga_at _ _ _ (by omega) (by rw [ld]; omega) HA.out (.inr (.inr ⟨by rw [ld]; omega, by rw [bj]; exact g2'⟩)))
                  clear bj g2 g2'
                  generalize hcc : t[x + j]'g1 = c at *
                  go_wp2_with (go_at_call 25; refine (HG.out _).mono ?_; rintro e w' ⟨rfl, rfl⟩)
                  go_meet
                  case rel => exact ⟨by rw [HY.out, HV.out]; go_num, by rw [HVV.out, HV.out], by rw [HV.out], by trivial⟩
              · have HV := hid (show k = j by rw [HK.out]; exact dga_at _ _ _ (by omega) (by rw [ld]; omega) HA.out (.inr (.inl (by rw [ld]; omega))))
                have gi : ¬ (x : Int) + (j : Int) < (t.size : Int) := by omega
                go_wp2_with fail
                go_meet
                case rel => exact ⟨by rw [HY.out, HV.out]; go_num, by rw [HVV.out, HV.out], by rw [HV.out], by trivial⟩
          case rest =>
            obtain ⟨rfl, rfl, rfl, rfl⟩ := hcut
            clear HD
            have hl1 : x < t.data.toList.length := by rw [LT.out]; exact h1
            obtain ⟨b22, hb22⟩ : ∃ q : Bool, q = decide (k = 0 ∨ l = 7 ∨ (l = 3 ∧ b = false)) := ⟨_, rfl⟩
            have HB22 := hid hb22
            have HL1 := hid hl1
            clear hb22 hl1
            go_upto_region 22 with fail
            go_cut [82] from 29 to 132 (fun s82 wx => s82 = .bool b22 ∧ wx = wc)
            case first =>
              by_cases g1 : k = 0
              · have q1 : ((k : Int) == 0) = true := by rw [beq_iff_eq]; omega
                have G1 := hid g1
                clear g1
                go_wp2_with fail
                go_meet
                case rel => exact ⟨by rw [HB22.out]; simp [G1.out], rfl⟩
              · have q1 : ((k : Int) == 0) = false := by rw [beq_eq_false_iff_ne]; omega
                by_cases g2 : l = 7
                · have q2 : ((l : Int) == 7) = true := by rw [beq_iff_eq]; omega
                  have G2 := hid g2
                  clear g2
                  go_wp2_with fail
                  go_meet
                  case rel => exact ⟨by rw [HB22.out]; simp [G2.out], rfl⟩
                · have q2 : ((l : Int) == 7) = false := by rw [beq_eq_false_iff_ne]; omega
                  by_cases g3 : l = 3
                  · have q3 : ((l : Int) == 3) = true := by rw [beq_iff_eq]; omega
                    have G3 := hid g3
                    clear g3
                    cases b
                    · go_wp2_with fail
                      go_meet
                      case rel => exact ⟨by rw [HB22.out]; simp [G3.out], rfl⟩
                    · go_wp2_with fail
                      go_meet
                      case rel => exact ⟨by rw [HB22.out]; simp [g1, g2], rfl⟩
                  · have q3 : ((l : Int) == 3) = false := by rw [beq_eq_false_iff_ne]; omega
                    go_wp2_with fail
                    go_meet
                    case rel => exact ⟨by rw [HB22.out]; simp [g1, g2, g3], rfl⟩
            case rest =>
              obtain ⟨rfl, rfl⟩ := hcut
              cases b22
              · have hq := HB22.out
                have hq2 : ¬ (k = 0 ∨ l = 7 ∨ (l = 3 ∧ b = false)) := fun e => by rw [decide_eq_true e] at hq; simp at hq
                have hk1 : 1 ≤ k := by omega
                have HNM := hid (show n ≠ m from fun e => by have := (HRL.out.full).1 e; exact hq2 (.inr this))
                clear hq hq2 HB22
                by_cases g1 : y = t.size
                · have HRV := hid (show R = (s, y) by rw [← HSP.out, spF_num HL1.out HT.out HNM.out (by rw [← HK.out, LT.out]; right; have := HY.out; omega), ← HK.out, ← HY.out])
                  have HAN := hid (show ans = sT zs7 34 (y : Int) by
                    rw [HNO.out ?_, HRV.out]
                    intro q
                    have hd : isDB (bt t.data.toList (t.size - 1)) = true := by
                      have h := dga_dig (t.data.toList.drop x) 9
                      rw [← HK.out] at h
                      refine h _ ?_
                      have hy := HY.out
                      have e : t.size - 1 = x + (k - 1) := by omega
                      have hlt : k - 1 < ((t.data.toList.drop x).take k).length := by rw [List.length_take, List.length_drop, LT.out]; omega
                      have hm := List.getElem_mem hlt
                      rw [List.getElem_take, List.getElem_drop] at hm
                      rw [e]
                      unfold bt
                      rw [List.getD_eq_getElem?_getD, List.getElem?_eq_getElem (by rw [LT.out]; omega)]
                      exact hm
                    exact mrk_nod _ q.2 hd)
                  have q1 : ((y : Int) == (t.size : Int)) = true := by rw [beq_iff_eq]; omega
                  obtain ⟨_, hB7, hb0, hb1, _⟩ := HS.out
                  have c0 : World.cell? _ ⟨w.heap.size + 1, 0, none⟩ = some (.int .i64 0) := hb1.cell 0 (show 0 < 7 by omega)
                  have e0 : World.cell? _ ⟨w.heap.size, 0, none⟩ = some (.int .i64 0) := hb0.cell 0 (show 0 < 7 by omega)
                  have z0 := hb0.soft 0
                  have c1 : World.cell? _ ⟨w.heap.size + 1, 1, none⟩ = some (.int .i64 0) := hb1.cell 1 (show 1 < 7 by omega)
                  have e1 : World.cell? _ ⟨w.heap.size, 1, none⟩ = some (.int .i64 0) := hb0.cell 1 (show 1 < 7 by omega)
                  have z1 := hb0.soft 1
                  have c2 : World.cell? _ ⟨w.heap.size + 1, 2, none⟩ = some (.int .i64 0) := hb1.cell 2 (show 2 < 7 by omega)
                  have e2 : World.cell? _ ⟨w.heap.size, 2, none⟩ = some (.int .i64 0) := hb0.cell 2 (show 2 < 7 by omega)
                  have z2 := hb0.soft 2
                  have c3 : World.cell? _ ⟨w.heap.size + 1, 3, none⟩ = some (.int .i64 0) := hb1.cell 3 (show 3 < 7 by omega)
                  have e3 : World.cell? _ ⟨w.heap.size, 3, none⟩ = some (.int .i64 0) := hb0.cell 3 (show 3 < 7 by omega)
                  have z3 := hb0.soft 3
                  have c4 : World.cell? _ ⟨w.heap.size + 1, 4, none⟩ = some (.int .i64 0) := hb1.cell 4 (show 4 < 7 by omega)
                  have e4 : World.cell? _ ⟨w.heap.size, 4, none⟩ = some (.int .i64 0) := hb0.cell 4 (show 4 < 7 by omega)
                  have z4 := hb0.soft 4
                  have c5 : World.cell? _ ⟨w.heap.size + 1, 5, none⟩ = some (.int .i64 0) := hb1.cell 5 (show 5 < 7 by omega)
                  have e5 : World.cell? _ ⟨w.heap.size, 5, none⟩ = some (.int .i64 0) := hb0.cell 5 (show 5 < 7 by omega)
                  have z5 := hb0.soft 5
                  have c6 : World.cell? _ ⟨w.heap.size + 1, 6, none⟩ = some (.int .i64 0) := hb1.cell 6 (show 6 < 7 by omega)
                  have e6 : World.cell? _ ⟨w.heap.size, 6, none⟩ = some (.int .i64 0) := hb0.cell 6 (show 6 < 7 by omega)
                  have z6 := hb0.soft 6
                  have q7 := ((((((hb0.put 0 0).put 1 0).put 2 0).put 3 0).put 4 0).put 5 0).put 6 0
                  have HB7 := hid hB7
                  have Q7 := hid q7
                  clear hB7 hb0 hb1 q7
                  go_wp2
                  have d0 : World.cell? _ ⟨w.heap.size, 0, none⟩ = some (.int .i64 0) := Q7.out.cell 0 (show 0 < 7 by omega)
                  have d1 : World.cell? _ ⟨w.heap.size, 1, none⟩ = some (.int .i64 0) := Q7.out.cell 1 (show 1 < 7 by omega)
                  have d2 : World.cell? _ ⟨w.heap.size, 2, none⟩ = some (.int .i64 0) := Q7.out.cell 2 (show 2 < 7 by omega)
                  have d3 : World.cell? _ ⟨w.heap.size, 3, none⟩ = some (.int .i64 0) := Q7.out.cell 3 (show 3 < 7 by omega)
                  have d4 : World.cell? _ ⟨w.heap.size, 4, none⟩ = some (.int .i64 0) := Q7.out.cell 4 (show 4 < 7 by omega)
                  have d5 : World.cell? _ ⟨w.heap.size, 5, none⟩ = some (.int .i64 0) := Q7.out.cell 5 (show 5 < 7 by omega)
                  have d6 : World.cell? _ ⟨w.heap.size, 6, none⟩ = some (.int .i64 0) := Q7.out.cell 6 (show 6 < 7 by omega)
                  refine bodyPost_ret (by simp [results, Tryd.results11, go_sem, d0, d1, d2, d3, d4, d5, d6]; try rfl) rfl ?_
                  rw [HAN.out]
                  exact ⟨rfl, ((((((HB7.out.setCell (Nat.le_refl _) _).setCell (Nat.le_refl _) _).setCell (Nat.le_refl _) _).setCell (Nat.le_refl _) _).setCell (Nat.le_refl _) _).setCell (Nat.le_refl _) _).setCell (Nat.le_refl _) _⟩
                · have hyl : y < t.size := by omega
                  have q1 : ((y : Int) == (t.size : Int)) = false := by rw [beq_eq_false_iff_ne]; omega
                  have iy : (y : Int) < (t.size : Int) := by omega
                  have HBY := hid (bt_at t y hyl)
                  have h3' := hid (show ¬ (dga (t.data.toList.drop x) 9 = 0 ∨ x + dga (t.data.toList.drop x) 9 = t.data.toList.length) by rw [← HK.out, LT.out]; have := HY.out; omega)
                  obtain ⟨bW, hbW⟩ : ∃ q : Bool, q = decide ((t[y]'hyl) = 87 ∧ l = 0 ∧ b = false) := ⟨_, rfl⟩
                  have HBW := hid hbW
                  clear hbW g1
                  go_upto_region 26 with fail
                  go_cut [104] from 29 to 132 (fun s104 wx => s104 = .bool bW ∧ wx = wc)
                  case first =>
                    by_cases g1 : t[y]'hyl = 87
                    · have q2 : (((t[y]'hyl).toNat : Int) == 87) = true := by rw [g1]; rfl
                      by_cases g2 : l = 0
                      · have q3 : ((l : Int) == 0) = true := by rw [beq_iff_eq]; omega
                        have G2 := hid g2
                        clear g2
                        cases b
                        · go_wp2_with fail
                          go_meet
                          case rel => exact ⟨by rw [HBW.out]; simp [g1, G2.out], rfl⟩
                        · go_wp2_with fail
                          go_meet
                          case rel => exact ⟨by rw [HBW.out]; simp, rfl⟩
                      · have q3 : ((l : Int) == 0) = false := by rw [beq_eq_false_iff_ne]; omega
                        go_wp2_with fail
                        go_meet
                        case rel => exact ⟨by rw [HBW.out]; simp [g2], rfl⟩
                    · have q2 : (((t[y]'hyl).toNat : Int) == 87) = false := ne_i _ 87 (by omega) g1
                      go_wp2_with fail
                      go_meet
                      case rel => exact ⟨by rw [HBW.out]; simp [g1], rfl⟩
                  case rest =>
                    obtain ⟨rfl, rfl⟩ := hcut
                    cases bW
                    · have hq := HBW.out
                      have hnW : ¬ ((t[y]'hyl) = 87 ∧ l = 0 ∧ b = false) := fun e => by rw [decide_eq_true e] at hq; simp at hq
                      have HRK := hid (fun w => rank_any (t[y]'hyl) b w)
                      clear hq HBW
                      by_cases g2 : rkN (t[y]'hyl) b ≤ l
                      · have HRV := hid (show R = (s, y) by rw [← HSP.out, spF_bad HL1.out HT.out HNM.out h3'.out (by rw [← HK.out, ← HY.out, HBY.out]; exact same_no HRL.out hnW g2), ← HK.out, ← HY.out])
                        have HAN := hid (show ans = sT zs7 34 (y : Int) by rw [HNO.out (fun q => by rw [HRV.out] at q; exact absurd q.1 (by show ¬ y = t.size; omega)), HRV.out])
                        generalize rkN (t[y]'hyl) b = r at *
                        have q3 : decide ((r : Int) ≤ (l : Int)) = true := decide_eq_true (by omega)
                        obtain ⟨_, hB7, hb0, hb1, _⟩ := HS.out
                        have c0 : World.cell? _ ⟨w.heap.size + 1, 0, none⟩ = some (.int .i64 0) := hb1.cell 0 (show 0 < 7 by omega)
                        have e0 : World.cell? _ ⟨w.heap.size, 0, none⟩ = some (.int .i64 0) := hb0.cell 0 (show 0 < 7 by omega)
                        have z0 := hb0.soft 0
                        have c1 : World.cell? _ ⟨w.heap.size + 1, 1, none⟩ = some (.int .i64 0) := hb1.cell 1 (show 1 < 7 by omega)
                        have e1 : World.cell? _ ⟨w.heap.size, 1, none⟩ = some (.int .i64 0) := hb0.cell 1 (show 1 < 7 by omega)
                        have z1 := hb0.soft 1
                        have c2 : World.cell? _ ⟨w.heap.size + 1, 2, none⟩ = some (.int .i64 0) := hb1.cell 2 (show 2 < 7 by omega)
                        have e2 : World.cell? _ ⟨w.heap.size, 2, none⟩ = some (.int .i64 0) := hb0.cell 2 (show 2 < 7 by omega)
                        have z2 := hb0.soft 2
                        have c3 : World.cell? _ ⟨w.heap.size + 1, 3, none⟩ = some (.int .i64 0) := hb1.cell 3 (show 3 < 7 by omega)
                        have e3 : World.cell? _ ⟨w.heap.size, 3, none⟩ = some (.int .i64 0) := hb0.cell 3 (show 3 < 7 by omega)
                        have z3 := hb0.soft 3
                        have c4 : World.cell? _ ⟨w.heap.size + 1, 4, none⟩ = some (.int .i64 0) := hb1.cell 4 (show 4 < 7 by omega)
                        have e4 : World.cell? _ ⟨w.heap.size, 4, none⟩ = some (.int .i64 0) := hb0.cell 4 (show 4 < 7 by omega)
                        have z4 := hb0.soft 4
                        have c5 : World.cell? _ ⟨w.heap.size + 1, 5, none⟩ = some (.int .i64 0) := hb1.cell 5 (show 5 < 7 by omega)
                        have e5 : World.cell? _ ⟨w.heap.size, 5, none⟩ = some (.int .i64 0) := hb0.cell 5 (show 5 < 7 by omega)
                        have z5 := hb0.soft 5
                        have c6 : World.cell? _ ⟨w.heap.size + 1, 6, none⟩ = some (.int .i64 0) := hb1.cell 6 (show 6 < 7 by omega)
                        have e6 : World.cell? _ ⟨w.heap.size, 6, none⟩ = some (.int .i64 0) := hb0.cell 6 (show 6 < 7 by omega)
                        have z6 := hb0.soft 6
                        have q7 := ((((((hb0.put 0 0).put 1 0).put 2 0).put 3 0).put 4 0).put 5 0).put 6 0
                        have HB7 := hid hB7
                        have Q7 := hid q7
                        clear hB7 hb0 hb1 q7
                        go_wp2_with (go_at_call 26; refine (HRK.out _).mono ?_; rintro e w' ⟨rfl, rfl⟩)
                        have d0 : World.cell? _ ⟨w.heap.size, 0, none⟩ = some (.int .i64 0) := Q7.out.cell 0 (show 0 < 7 by omega)
                        have d1 : World.cell? _ ⟨w.heap.size, 1, none⟩ = some (.int .i64 0) := Q7.out.cell 1 (show 1 < 7 by omega)
                        have d2 : World.cell? _ ⟨w.heap.size, 2, none⟩ = some (.int .i64 0) := Q7.out.cell 2 (show 2 < 7 by omega)
                        have d3 : World.cell? _ ⟨w.heap.size, 3, none⟩ = some (.int .i64 0) := Q7.out.cell 3 (show 3 < 7 by omega)
                        have d4 : World.cell? _ ⟨w.heap.size, 4, none⟩ = some (.int .i64 0) := Q7.out.cell 4 (show 4 < 7 by omega)
                        have d5 : World.cell? _ ⟨w.heap.size, 5, none⟩ = some (.int .i64 0) := Q7.out.cell 5 (show 5 < 7 by omega)
                        have d6 : World.cell? _ ⟨w.heap.size, 6, none⟩ = some (.int .i64 0) := Q7.out.cell 6 (show 6 < 7 by omega)
                        refine bodyPost_ret (by simp [results, Tryd.results11, go_sem, d0, d1, d2, d3, d4, d5, d6]; try rfl) rfl ?_
                        rw [HAN.out]
                        exact ⟨rfl, ((((((HB7.out.setCell (Nat.le_refl _) _).setCell (Nat.le_refl _) _).setCell (Nat.le_refl _) _).setCell (Nat.le_refl _) _).setCell (Nat.le_refl _) _).setCell (Nat.le_refl _) _).setCell (Nat.le_refl _) _⟩
                      · obtain ⟨hz0, hne, hfl, hr7, hr1, hr4, hRl'⟩ := same_yes HRL.out hnW g2
                        have hs7 := HS.out.1
                        have hst : (s.set (pfl (rkN (t[y]'hyl) b)) v).length = 7 := by rw [List.length_set]; exact hs7
                        obtain ⟨b0, b1, b2, b3, b4, b5, b6, hset⟩ := list7 hst
                        have HN := hid (show spF t.data.toList f' (y + 1) (n + (slt n m (t[y]'hyl)).toNat + 1) m [b0, b1, b2, b3, b4, b5, b6] = R by
                          rw [← HSP.out, spF_go HL1.out HT.out HNM.out h3'.out (by rw [← HK.out, ← HY.out, HBY.out]; omega), ← HK.out, ← HY.out, HBY.out, if_neg hne, if_neg hne, hfl, ← HVV.out, hset])
                        have HM := hid (show decide (bt t.data.toList (y + 1 - 1) ∈ mrk) = true from decide_eq_true (by rw [Nat.add_sub_cancel, HBY.out]; exact rkN_mrk hr1))
                        have HPT := hid (fun w => put_any s hs7 (rkN (t[y]'hyl) b) ⟨hr1, hr7, hr4⟩ v w)
                        rw [hset] at HPT
                        have HRL2 := hid hRl'
                        generalize n + (slt n m (t[y]'hyl)).toNat + 1 = n' at *
                        generalize rkN (t[y]'hyl) b = r at *
                        have q3 : decide ((r : Int) ≤ (l : Int)) = false := decide_eq_false (by omega)
                        clear hz0 hne hfl hRl' hset hst hnW
                        obtain ⟨a0, a1, a2, a3, a4, a5, a6, rfl⟩ := list7 hs7
                        have hb2 := HS.out.2.2.2.2
                        have c0 : World.cell? _ ⟨w.heap.size + 1 + 1, 0, none⟩ = some (.int .i64 a0) := hb2.cell 0 (show 0 < 7 by omega)
                        have c1 : World.cell? _ ⟨w.heap.size + 1 + 1, 1, none⟩ = some (.int .i64 a1) := hb2.cell 1 (show 1 < 7 by omega)
                        have c2 : World.cell? _ ⟨w.heap.size + 1 + 1, 2, none⟩ = some (.int .i64 a2) := hb2.cell 2 (show 2 < 7 by omega)
                        have c3 : World.cell? _ ⟨w.heap.size + 1 + 1, 3, none⟩ = some (.int .i64 a3) := hb2.cell 3 (show 3 < 7 by omega)
                        have c4 : World.cell? _ ⟨w.heap.size + 1 + 1, 4, none⟩ = some (.int .i64 a4) := hb2.cell 4 (show 4 < 7 by omega)
                        have c5 : World.cell? _ ⟨w.heap.size + 1 + 1, 5, none⟩ = some (.int .i64 a5) := hb2.cell 5 (show 5 < 7 by omega)
                        have c6 : World.cell? _ ⟨w.heap.size + 1 + 1, 6, none⟩ = some (.int .i64 a6) := hb2.cell 6 (show 6 < 7 by omega)
                        clear hb2
                        unfold lV at HPT
                        simp only [List.map_cons, List.map_nil] at HPT
                        go_wp2_with (first | (go_at_call 26; refine (HRK.out _).mono ?_; rintro e w' ⟨rfl, rfl⟩) | fail)
                        refine (HPT.out _).mono ?_
                        rintro e w3 ⟨rfl, hb3⟩
                        have HS3 := hid (HS.out.stable hb3)
                        clear hb3 c0 c1 c2 c3 c4 c5 c6
                        have hb2 := HS3.out.2.2.2.2
                        have c0 : World.cell? _ ⟨w.heap.size + 1 + 1, 0, none⟩ = some (.int .i64 a0) := hb2.cell 0 (show 0 < 7 by omega)
                        have z0 := hb2.soft 0
                        have c1 : World.cell? _ ⟨w.heap.size + 1 + 1, 1, none⟩ = some (.int .i64 a1) := hb2.cell 1 (show 1 < 7 by omega)
                        have z1 := hb2.soft 1
                        have c2 : World.cell? _ ⟨w.heap.size + 1 + 1, 2, none⟩ = some (.int .i64 a2) := hb2.cell 2 (show 2 < 7 by omega)
                        have z2 := hb2.soft 2
                        have c3 : World.cell? _ ⟨w.heap.size + 1 + 1, 3, none⟩ = some (.int .i64 a3) := hb2.cell 3 (show 3 < 7 by omega)
                        have z3 := hb2.soft 3
                        have c4 : World.cell? _ ⟨w.heap.size + 1 + 1, 4, none⟩ = some (.int .i64 a4) := hb2.cell 4 (show 4 < 7 by omega)
                        have z4 := hb2.soft 4
                        have c5 : World.cell? _ ⟨w.heap.size + 1 + 1, 5, none⟩ = some (.int .i64 a5) := hb2.cell 5 (show 5 < 7 by omega)
                        have z5 := hb2.soft 5
                        have c6 : World.cell? _ ⟨w.heap.size + 1 + 1, 6, none⟩ = some (.int .i64 a6) := hb2.cell 6 (show 6 < 7 by omega)
                        have z6 := hb2.soft 6
                        have HS4 := hid (show SR w [b0, b1, b2, b3, b4, b5, b6] _ from ((((((HS3.out.put 0 b0).put 1 b1).put 2 b2).put 3 b3).put 4 b4).put 5 b5).put 6 b6)
                        clear hb2 HS3 HS
                        go_wp2
                        go_roundw
                        case rel => exact ⟨y + 1, r, n', m, f', b, true, [b0, b1, b2, b3, b4, b5, b6], by go_num, rfl, rfl, rfl, by omega, by omega, by omega, HRL2.out, HM.out.symm, HN.out, by have := HY.out; omega, HS4.out⟩
                        case measure => simp [intOf]; have := HY.out; omega
                    · have hq := HBW.out
                      have hW3 : (t[y]'hyl) = 87 ∧ l = 0 ∧ b = false := of_decide_eq_true hq.symm
                      have hsl := same_W HRL.out hW3
                      have HGO := hid (show spF t.data.toList f' (y + 1) 7 7 (s.set 2 v) = R by
                        rw [← HSP.out, spF_go HL1.out HT.out HNM.out h3'.out (by rw [← HK.out, ← HY.out, HBY.out, hsl.1]; omega), ← HK.out, ← HY.out, HBY.out, if_pos hW3.1, if_pos hW3.1, hsl.1, hsl.2, ← HVV.out]
                        rfl)
                      have HC7 := hid hW3.1
                      clear hq hW3 hsl HBW
                      by_cases g2 : y + 1 < t.size
                      · obtain ⟨f2, hf2⟩ : ∃ f2, f' = f2 + 1 := ⟨f' - 1, by have := HY.out; omega⟩
                        have HRV := hid (show R = (s.set 2 v, y + 1) by rw [← HGO.out, hf2, spF_full (by rw [LT.out]; exact g2) (fun q => by omega) rfl])
                        have HAN := hid (show ans = sT zs7 34 ((y : Int) + 1) by rw [HNO.out (fun q => by rw [HRV.out] at q; exact absurd q.1 (by show ¬ y + 1 = t.size; omega)), HRV.out]; rfl)
                        have q3 : decide ((y : Int) + 1 < (t.size : Int)) = true := decide_eq_true (by omega)
                        clear hf2
                        obtain ⟨_, hB7, hb0, hb1, _⟩ := HS.out
                        have c0 : World.cell? _ ⟨w.heap.size + 1, 0, none⟩ = some (.int .i64 0) := hb1.cell 0 (show 0 < 7 by omega)
                        have e0 : World.cell? _ ⟨w.heap.size, 0, none⟩ = some (.int .i64 0) := hb0.cell 0 (show 0 < 7 by omega)
                        have z0 := hb0.soft 0
                        have c1 : World.cell? _ ⟨w.heap.size + 1, 1, none⟩ = some (.int .i64 0) := hb1.cell 1 (show 1 < 7 by omega)
                        have e1 : World.cell? _ ⟨w.heap.size, 1, none⟩ = some (.int .i64 0) := hb0.cell 1 (show 1 < 7 by omega)
                        have z1 := hb0.soft 1
                        have c2 : World.cell? _ ⟨w.heap.size + 1, 2, none⟩ = some (.int .i64 0) := hb1.cell 2 (show 2 < 7 by omega)
                        have e2 : World.cell? _ ⟨w.heap.size, 2, none⟩ = some (.int .i64 0) := hb0.cell 2 (show 2 < 7 by omega)
                        have z2 := hb0.soft 2
                        have c3 : World.cell? _ ⟨w.heap.size + 1, 3, none⟩ = some (.int .i64 0) := hb1.cell 3 (show 3 < 7 by omega)
                        have e3 : World.cell? _ ⟨w.heap.size, 3, none⟩ = some (.int .i64 0) := hb0.cell 3 (show 3 < 7 by omega)
                        have z3 := hb0.soft 3
                        have c4 : World.cell? _ ⟨w.heap.size + 1, 4, none⟩ = some (.int .i64 0) := hb1.cell 4 (show 4 < 7 by omega)
                        have e4 : World.cell? _ ⟨w.heap.size, 4, none⟩ = some (.int .i64 0) := hb0.cell 4 (show 4 < 7 by omega)
                        have z4 := hb0.soft 4
                        have c5 : World.cell? _ ⟨w.heap.size + 1, 5, none⟩ = some (.int .i64 0) := hb1.cell 5 (show 5 < 7 by omega)
                        have e5 : World.cell? _ ⟨w.heap.size, 5, none⟩ = some (.int .i64 0) := hb0.cell 5 (show 5 < 7 by omega)
                        have z5 := hb0.soft 5
                        have c6 : World.cell? _ ⟨w.heap.size + 1, 6, none⟩ = some (.int .i64 0) := hb1.cell 6 (show 6 < 7 by omega)
                        have e6 : World.cell? _ ⟨w.heap.size, 6, none⟩ = some (.int .i64 0) := hb0.cell 6 (show 6 < 7 by omega)
                        have z6 := hb0.soft 6
                        have q7 := ((((((hb0.put 0 0).put 1 0).put 2 0).put 3 0).put 4 0).put 5 0).put 6 0
                        have HB7 := hid hB7
                        have Q7 := hid q7
                        clear hB7 hb0 hb1 q7
                        go_wp2
                        have d0 : World.cell? _ ⟨w.heap.size, 0, none⟩ = some (.int .i64 0) := Q7.out.cell 0 (show 0 < 7 by omega)
                        have d1 : World.cell? _ ⟨w.heap.size, 1, none⟩ = some (.int .i64 0) := Q7.out.cell 1 (show 1 < 7 by omega)
                        have d2 : World.cell? _ ⟨w.heap.size, 2, none⟩ = some (.int .i64 0) := Q7.out.cell 2 (show 2 < 7 by omega)
                        have d3 : World.cell? _ ⟨w.heap.size, 3, none⟩ = some (.int .i64 0) := Q7.out.cell 3 (show 3 < 7 by omega)
                        have d4 : World.cell? _ ⟨w.heap.size, 4, none⟩ = some (.int .i64 0) := Q7.out.cell 4 (show 4 < 7 by omega)
                        have d5 : World.cell? _ ⟨w.heap.size, 5, none⟩ = some (.int .i64 0) := Q7.out.cell 5 (show 5 < 7 by omega)
                        have d6 : World.cell? _ ⟨w.heap.size, 6, none⟩ = some (.int .i64 0) := Q7.out.cell 6 (show 6 < 7 by omega)
                        refine bodyPost_ret (by simp [results, Tryd.results11, go_sem, d0, d1, d2, d3, d4, d5, d6]; try rfl) rfl ?_
                        rw [HAN.out]
                        exact ⟨rfl, ((((((HB7.out.setCell (Nat.le_refl _) _).setCell (Nat.le_refl _) _).setCell (Nat.le_refl _) _).setCell (Nat.le_refl _) _).setCell (Nat.le_refl _) _).setCell (Nat.le_refl _) _).setCell (Nat.le_refl _) _⟩
                      · have HRV := hid (show R = (s.set 2 v, y + 1) by rw [← HGO.out, spF_end (by rw [LT.out]; exact g2)])
                        have hye : y + 1 = t.size := by omega
                        have HAN := hid (show ans = sT (s.set 2 v) 0 0 by
                          rw [HOK.out (by rw [HRV.out]; exact hye) (by rw [show t.size - 1 = y by omega, HBY.out, HC7.out]; decide), HRV.out])
                        have q3 : decide ((y : Int) + 1 < (t.size : Int)) = false := decide_eq_false (by omega)
                        clear hye
                        have hl7 := HS.out.1
                        obtain ⟨a0, a1, a2, a3, a4, a5, a6, rfl⟩ := list7 hl7
                        have kk : World.cell? _ ⟨w.heap.size + 1 + 1, 2, none⟩ = some (.int .i64 a2) := HS.out.2.2.2.2.cell 2 (show 2 < 7 by omega)
                        have kf := HS.out.2.2.2.2.soft 2
                        obtain ⟨_, hB7, hb0, _, hb2⟩ := HS.out.put 2 v
                        have c0 : World.cell? _ ⟨w.heap.size + 1 + 1, 0, none⟩ = some (.int .i64 a0) := hb2.cell 0 (show 0 < 7 by omega)
                        have e0 : World.cell? _ ⟨w.heap.size, 0, none⟩ = some (.int .i64 0) := hb0.cell 0 (show 0 < 7 by omega)
                        have z0 := hb0.soft 0
                        have c1 : World.cell? _ ⟨w.heap.size + 1 + 1, 1, none⟩ = some (.int .i64 a1) := hb2.cell 1 (show 1 < 7 by omega)
                        have e1 : World.cell? _ ⟨w.heap.size, 1, none⟩ = some (.int .i64 0) := hb0.cell 1 (show 1 < 7 by omega)
                        have z1 := hb0.soft 1
                        have c2 : World.cell? _ ⟨w.heap.size + 1 + 1, 2, none⟩ = some (.int .i64 v) := hb2.cell 2 (show 2 < 7 by omega)
                        have e2 : World.cell? _ ⟨w.heap.size, 2, none⟩ = some (.int .i64 0) := hb0.cell 2 (show 2 < 7 by omega)
                        have z2 := hb0.soft 2
                        have c3 : World.cell? _ ⟨w.heap.size + 1 + 1, 3, none⟩ = some (.int .i64 a3) := hb2.cell 3 (show 3 < 7 by omega)
                        have e3 : World.cell? _ ⟨w.heap.size, 3, none⟩ = some (.int .i64 0) := hb0.cell 3 (show 3 < 7 by omega)
                        have z3 := hb0.soft 3
                        have c4 : World.cell? _ ⟨w.heap.size + 1 + 1, 4, none⟩ = some (.int .i64 a4) := hb2.cell 4 (show 4 < 7 by omega)
                        have e4 : World.cell? _ ⟨w.heap.size, 4, none⟩ = some (.int .i64 0) := hb0.cell 4 (show 4 < 7 by omega)
                        have z4 := hb0.soft 4
                        have c5 : World.cell? _ ⟨w.heap.size + 1 + 1, 5, none⟩ = some (.int .i64 a5) := hb2.cell 5 (show 5 < 7 by omega)
                        have e5 : World.cell? _ ⟨w.heap.size, 5, none⟩ = some (.int .i64 0) := hb0.cell 5 (show 5 < 7 by omega)
                        have z5 := hb0.soft 5
                        have c6 : World.cell? _ ⟨w.heap.size + 1 + 1, 6, none⟩ = some (.int .i64 a6) := hb2.cell 6 (show 6 < 7 by omega)
                        have e6 : World.cell? _ ⟨w.heap.size, 6, none⟩ = some (.int .i64 0) := hb0.cell 6 (show 6 < 7 by omega)
                        have z6 := hb0.soft 6
                        have q7 := ((((((hb0.put 0 a0).put 1 a1).put 2 v).put 3 a3).put 4 a4).put 5 a5).put 6 a6
                        have HB7 := hid hB7
                        have Q7 := hid q7
                        clear hB7 hb0 hb2 q7 hl7
                        go_wp2
                        have d0 : World.cell? _ ⟨w.heap.size, 0, none⟩ = some (.int .i64 a0) := Q7.out.cell 0 (show 0 < 7 by omega)
                        have d1 : World.cell? _ ⟨w.heap.size, 1, none⟩ = some (.int .i64 a1) := Q7.out.cell 1 (show 1 < 7 by omega)
                        have d2 : World.cell? _ ⟨w.heap.size, 2, none⟩ = some (.int .i64 v) := Q7.out.cell 2 (show 2 < 7 by omega)
                        have d3 : World.cell? _ ⟨w.heap.size, 3, none⟩ = some (.int .i64 a3) := Q7.out.cell 3 (show 3 < 7 by omega)
                        have d4 : World.cell? _ ⟨w.heap.size, 4, none⟩ = some (.int .i64 a4) := Q7.out.cell 4 (show 4 < 7 by omega)
                        have d5 : World.cell? _ ⟨w.heap.size, 5, none⟩ = some (.int .i64 a5) := Q7.out.cell 5 (show 5 < 7 by omega)
                        have d6 : World.cell? _ ⟨w.heap.size, 6, none⟩ = some (.int .i64 a6) := Q7.out.cell 6 (show 6 < 7 by omega)
                        refine bodyPost_ret (by simp [results, Tryd.results11, go_sem, d0, d1, d2, d3, d4, d5, d6]; try rfl) rfl ?_
                        rw [HAN.out]
                        exact ⟨rfl, ((((((HB7.out.setCell (Nat.le_refl _) _).setCell (Nat.le_refl _) _).setCell (Nat.le_refl _) _).setCell (Nat.le_refl _) _).setCell (Nat.le_refl _) _).setCell (Nat.le_refl _) _).setCell (Nat.le_refl _) _⟩
              · have hq := HB22.out
                have hq2 : k = 0 ∨ l = 7 ∨ (l = 3 ∧ b = false) := of_decide_eq_true hq.symm
                have HRV := hid (show R = (s, x) by
                  rw [← HSP.out]
                  by_cases e : n = m
                  · exact spF_full HL1.out HT.out e
                  · have hk0 : k = 0 := by
                      rcases hq2 with h | h
                      · exact h
                      · exact absurd (HRL.out.full.2 h) e
                    rw [spF_num HL1.out HT.out e (by rw [← HK.out]; exact .inl hk0), ← HK.out, hk0]
                    rfl)
                have HAN := hid (show ans = sT zs7 34 (x : Int) by rw [HNO.out (fun q => by rw [HRV.out] at q; exact absurd q.1 (by show ¬ x = t.size; omega)), HRV.out])
                have wyk : IntKind.i64.wrap ((y : Int) - (k : Int)) = (x : Int) := by rw [hyk, IntKind.wrap_i64]; omega
                clear hq hq2 HB22
                obtain ⟨_, hB7, hb0, hb1, _⟩ := HS.out
                have c0 : World.cell? _ ⟨w.heap.size + 1, 0, none⟩ = some (.int .i64 0) := hb1.cell 0 (show 0 < 7 by omega)
                have e0 : World.cell? _ ⟨w.heap.size, 0, none⟩ = some (.int .i64 0) := hb0.cell 0 (show 0 < 7 by omega)
                have z0 := hb0.soft 0
                have c1 : World.cell? _ ⟨w.heap.size + 1, 1, none⟩ = some (.int .i64 0) := hb1.cell 1 (show 1 < 7 by omega)
                have e1 : World.cell? _ ⟨w.heap.size, 1, none⟩ = some (.int .i64 0) := hb0.cell 1 (show 1 < 7 by omega)
                have z1 := hb0.soft 1
                have c2 : World.cell? _ ⟨w.heap.size + 1, 2, none⟩ = some (.int .i64 0) := hb1.cell 2 (show 2 < 7 by omega)
                have e2 : World.cell? _ ⟨w.heap.size, 2, none⟩ = some (.int .i64 0) := hb0.cell 2 (show 2 < 7 by omega)
                have z2 := hb0.soft 2
                have c3 : World.cell? _ ⟨w.heap.size + 1, 3, none⟩ = some (.int .i64 0) := hb1.cell 3 (show 3 < 7 by omega)
                have e3 : World.cell? _ ⟨w.heap.size, 3, none⟩ = some (.int .i64 0) := hb0.cell 3 (show 3 < 7 by omega)
                have z3 := hb0.soft 3
                have c4 : World.cell? _ ⟨w.heap.size + 1, 4, none⟩ = some (.int .i64 0) := hb1.cell 4 (show 4 < 7 by omega)
                have e4 : World.cell? _ ⟨w.heap.size, 4, none⟩ = some (.int .i64 0) := hb0.cell 4 (show 4 < 7 by omega)
                have z4 := hb0.soft 4
                have c5 : World.cell? _ ⟨w.heap.size + 1, 5, none⟩ = some (.int .i64 0) := hb1.cell 5 (show 5 < 7 by omega)
                have e5 : World.cell? _ ⟨w.heap.size, 5, none⟩ = some (.int .i64 0) := hb0.cell 5 (show 5 < 7 by omega)
                have z5 := hb0.soft 5
                have c6 : World.cell? _ ⟨w.heap.size + 1, 6, none⟩ = some (.int .i64 0) := hb1.cell 6 (show 6 < 7 by omega)
                have e6 : World.cell? _ ⟨w.heap.size, 6, none⟩ = some (.int .i64 0) := hb0.cell 6 (show 6 < 7 by omega)
                have z6 := hb0.soft 6
                have q7 := ((((((hb0.put 0 0).put 1 0).put 2 0).put 3 0).put 4 0).put 5 0).put 6 0
                have HB7 := hid hB7
                have Q7 := hid q7
                clear hB7 hb0 hb1 q7
                go_wp2
                have d0 : World.cell? _ ⟨w.heap.size, 0, none⟩ = some (.int .i64 0) := Q7.out.cell 0 (show 0 < 7 by omega)
                have d1 : World.cell? _ ⟨w.heap.size, 1, none⟩ = some (.int .i64 0) := Q7.out.cell 1 (show 1 < 7 by omega)
                have d2 : World.cell? _ ⟨w.heap.size, 2, none⟩ = some (.int .i64 0) := Q7.out.cell 2 (show 2 < 7 by omega)
                have d3 : World.cell? _ ⟨w.heap.size, 3, none⟩ = some (.int .i64 0) := Q7.out.cell 3 (show 3 < 7 by omega)
                have d4 : World.cell? _ ⟨w.heap.size, 4, none⟩ = some (.int .i64 0) := Q7.out.cell 4 (show 4 < 7 by omega)
                have d5 : World.cell? _ ⟨w.heap.size, 5, none⟩ = some (.int .i64 0) := Q7.out.cell 5 (show 5 < 7 by omega)
                have d6 : World.cell? _ ⟨w.heap.size, 6, none⟩ = some (.int .i64 0) := Q7.out.cell 6 (show 6 < 7 by omega)
                refine bodyPost_ret (by simp [results, Tryd.results11, go_sem, d0, d1, d2, d3, d4, d5, d6]; try rfl) rfl ?_
                rw [HAN.out]
                exact ⟨rfl, ((((((HB7.out.setCell (Nat.le_refl _) _).setCell (Nat.le_refl _) _).setCell (Nat.le_refl _) _).setCell (Nat.le_refl _) _).setCell (Nat.le_refl _) _).setCell (Nat.le_refl _) _).setCell (Nat.le_refl _) _⟩
        · have hq := HBT.out
          have hT2 : (t[x]'h1) = 84 ∧ b = false := of_decide_eq_true hq.symm
          obtain ⟨hc84, rfl⟩ := hT2
          have hm4 : m = 4 ∧ l ≤ 3 := by
            have hm := HRL.out
            unfold Rl at hm
            rcases hm with ⟨_, hm, h⟩ | ⟨hb2, _⟩
            · exact ⟨hm, by omega⟩
            · simp at hb2
          have HN := hid (show spF t.data.toList f' (x + 1) 4 7 s = R by rw [← HSP.out, spF_T (by rw [LT.out]; exact h1) ⟨by rw [bx]; exact hc84, hm4.1⟩])
          have HM := hid (show decide (bt t.data.toList (x + 1 - 1) ∈ mrk) = false from decide_eq_false (by rw [Nat.add_sub_cancel, bx, hc84]; decide))
          have hl3 := hm4.2
          clear hq hc84 HBT bx hm4
          go_wp2
          go_roundw
          case rel => exact ⟨x + 1, l, 4, 7, f', true, false, s, by go_num, rfl, rfl, rfl, by omega, by omega, by omega, .inr ⟨rfl, rfl, .inl ⟨hl3, rfl⟩⟩, HM.out.symm, HN.out, by omega, HS.out⟩
          case measure => simp [intOf]; omega
    · have hxe : x = t.size := by omega
      have HRV := hid (show R = (s, x) by rw [← HSP.out, spF_end (by rw [LT.out]; exact h1)])
      cases ww
      · have HAN := hid (show ans = sT zs7 34 (x : Int) by
          rw [HNO.out (fun q => by
            have hw := HWW.out
            rw [hxe, decide_eq_true q.2] at hw
            simp at hw), HRV.out])
        clear hxe
        obtain ⟨_, hB7, hb0, hb1, _⟩ := HS.out
        have c0 : World.cell? _ ⟨w.heap.size + 1, 0, none⟩ = some (.int .i64 0) := hb1.cell 0 (show 0 < 7 by omega)
        have e0 : World.cell? _ ⟨w.heap.size, 0, none⟩ = some (.int .i64 0) := hb0.cell 0 (show 0 < 7 by omega)
        have z0 := hb0.soft 0
        have c1 : World.cell? _ ⟨w.heap.size + 1, 1, none⟩ = some (.int .i64 0) := hb1.cell 1 (show 1 < 7 by omega)
        have e1 : World.cell? _ ⟨w.heap.size, 1, none⟩ = some (.int .i64 0) := hb0.cell 1 (show 1 < 7 by omega)
        have z1 := hb0.soft 1
        have c2 : World.cell? _ ⟨w.heap.size + 1, 2, none⟩ = some (.int .i64 0) := hb1.cell 2 (show 2 < 7 by omega)
        have e2 : World.cell? _ ⟨w.heap.size, 2, none⟩ = some (.int .i64 0) := hb0.cell 2 (show 2 < 7 by omega)
        have z2 := hb0.soft 2
        have c3 : World.cell? _ ⟨w.heap.size + 1, 3, none⟩ = some (.int .i64 0) := hb1.cell 3 (show 3 < 7 by omega)
        have e3 : World.cell? _ ⟨w.heap.size, 3, none⟩ = some (.int .i64 0) := hb0.cell 3 (show 3 < 7 by omega)
        have z3 := hb0.soft 3
        have c4 : World.cell? _ ⟨w.heap.size + 1, 4, none⟩ = some (.int .i64 0) := hb1.cell 4 (show 4 < 7 by omega)
        have e4 : World.cell? _ ⟨w.heap.size, 4, none⟩ = some (.int .i64 0) := hb0.cell 4 (show 4 < 7 by omega)
        have z4 := hb0.soft 4
        have c5 : World.cell? _ ⟨w.heap.size + 1, 5, none⟩ = some (.int .i64 0) := hb1.cell 5 (show 5 < 7 by omega)
        have e5 : World.cell? _ ⟨w.heap.size, 5, none⟩ = some (.int .i64 0) := hb0.cell 5 (show 5 < 7 by omega)
        have z5 := hb0.soft 5
        have c6 : World.cell? _ ⟨w.heap.size + 1, 6, none⟩ = some (.int .i64 0) := hb1.cell 6 (show 6 < 7 by omega)
        have e6 : World.cell? _ ⟨w.heap.size, 6, none⟩ = some (.int .i64 0) := hb0.cell 6 (show 6 < 7 by omega)
        have z6 := hb0.soft 6
        have q7 := ((((((hb0.put 0 0).put 1 0).put 2 0).put 3 0).put 4 0).put 5 0).put 6 0
        have HB7 := hid hB7
        have Q7 := hid q7
        clear hB7 hb0 hb1 q7
        go_wp2
        have d0 : World.cell? _ ⟨w.heap.size, 0, none⟩ = some (.int .i64 0) := Q7.out.cell 0 (show 0 < 7 by omega)
        have d1 : World.cell? _ ⟨w.heap.size, 1, none⟩ = some (.int .i64 0) := Q7.out.cell 1 (show 1 < 7 by omega)
        have d2 : World.cell? _ ⟨w.heap.size, 2, none⟩ = some (.int .i64 0) := Q7.out.cell 2 (show 2 < 7 by omega)
        have d3 : World.cell? _ ⟨w.heap.size, 3, none⟩ = some (.int .i64 0) := Q7.out.cell 3 (show 3 < 7 by omega)
        have d4 : World.cell? _ ⟨w.heap.size, 4, none⟩ = some (.int .i64 0) := Q7.out.cell 4 (show 4 < 7 by omega)
        have d5 : World.cell? _ ⟨w.heap.size, 5, none⟩ = some (.int .i64 0) := Q7.out.cell 5 (show 5 < 7 by omega)
        have d6 : World.cell? _ ⟨w.heap.size, 6, none⟩ = some (.int .i64 0) := Q7.out.cell 6 (show 6 < 7 by omega)
        refine bodyPost_ret (by simp [results, Tryd.results11, go_sem, d0, d1, d2, d3, d4, d5, d6]; try rfl) rfl ?_
        rw [HAN.out]
        exact ⟨rfl, ((((((HB7.out.setCell (Nat.le_refl _) _).setCell (Nat.le_refl _) _).setCell (Nat.le_refl _) _).setCell (Nat.le_refl _) _).setCell (Nat.le_refl _) _).setCell (Nat.le_refl _) _).setCell (Nat.le_refl _) _⟩
      · have HAN := hid (show ans = sT s 0 0 by
          rw [HOK.out (by rw [HRV.out]; exact hxe) (by
            have hw := of_decide_eq_true HWW.out.symm
            rw [hxe] at hw
            exact hw), HRV.out])
        clear hxe
        have hl7 := HS.out.1
        obtain ⟨a0, a1, a2, a3, a4, a5, a6, rfl⟩ := list7 hl7
        obtain ⟨_, hB7, hb0, _, hb2⟩ := HS.out
        have c0 : World.cell? _ ⟨w.heap.size + 1 + 1, 0, none⟩ = some (.int .i64 a0) := hb2.cell 0 (show 0 < 7 by omega)
        have e0 : World.cell? _ ⟨w.heap.size, 0, none⟩ = some (.int .i64 0) := hb0.cell 0 (show 0 < 7 by omega)
        have z0 := hb0.soft 0
        have c1 : World.cell? _ ⟨w.heap.size + 1 + 1, 1, none⟩ = some (.int .i64 a1) := hb2.cell 1 (show 1 < 7 by omega)
        have e1 : World.cell? _ ⟨w.heap.size, 1, none⟩ = some (.int .i64 0) := hb0.cell 1 (show 1 < 7 by omega)
        have z1 := hb0.soft 1
        have c2 : World.cell? _ ⟨w.heap.size + 1 + 1, 2, none⟩ = some (.int .i64 a2) := hb2.cell 2 (show 2 < 7 by omega)
        have e2 : World.cell? _ ⟨w.heap.size, 2, none⟩ = some (.int .i64 0) := hb0.cell 2 (show 2 < 7 by omega)
        have z2 := hb0.soft 2
        have c3 : World.cell? _ ⟨w.heap.size + 1 + 1, 3, none⟩ = some (.int .i64 a3) := hb2.cell 3 (show 3 < 7 by omega)
        have e3 : World.cell? _ ⟨w.heap.size, 3, none⟩ = some (.int .i64 0) := hb0.cell 3 (show 3 < 7 by omega)
        have z3 := hb0.soft 3
        have c4 : World.cell? _ ⟨w.heap.size + 1 + 1, 4, none⟩ = some (.int .i64 a4) := hb2.cell 4 (show 4 < 7 by omega)
        have e4 : World.cell? _ ⟨w.heap.size, 4, none⟩ = some (.int .i64 0) := hb0.cell 4 (show 4 < 7 by omega)
        have z4 := hb0.soft 4
        have c5 : World.cell? _ ⟨w.heap.size + 1 + 1, 5, none⟩ = some (.int .i64 a5) := hb2.cell 5 (show 5 < 7 by omega)
        have e5 : World.cell? _ ⟨w.heap.size, 5, none⟩ = some (.int .i64 0) := hb0.cell 5 (show 5 < 7 by omega)
        have z5 := hb0.soft 5
        have c6 : World.cell? _ ⟨w.heap.size + 1 + 1, 6, none⟩ = some (.int .i64 a6) := hb2.cell 6 (show 6 < 7 by omega)
        have e6 : World.cell? _ ⟨w.heap.size, 6, none⟩ = some (.int .i64 0) := hb0.cell 6 (show 6 < 7 by omega)
        have z6 := hb0.soft 6
        have q7 := ((((((hb0.put 0 a0).put 1 a1).put 2 a2).put 3 a3).put 4 a4).put 5 a5).put 6 a6
        have HB7 := hid hB7
        have Q7 := hid q7
        clear hB7 hb0 hb2 q7 hl7
        go_wp2
        have d0 : World.cell? _ ⟨w.heap.size, 0, none⟩ = some (.int .i64 a0) := Q7.out.cell 0 (show 0 < 7 by omega)
        have d1 : World.cell? _ ⟨w.heap.size, 1, none⟩ = some (.int .i64 a1) := Q7.out.cell 1 (show 1 < 7 by omega)
        have d2 : World.cell? _ ⟨w.heap.size, 2, none⟩ = some (.int .i64 a2) := Q7.out.cell 2 (show 2 < 7 by omega)
        have d3 : World.cell? _ ⟨w.heap.size, 3, none⟩ = some (.int .i64 a3) := Q7.out.cell 3 (show 3 < 7 by omega)
        have d4 : World.cell? _ ⟨w.heap.size, 4, none⟩ = some (.int .i64 a4) := Q7.out.cell 4 (show 4 < 7 by omega)
        have d5 : World.cell? _ ⟨w.heap.size, 5, none⟩ = some (.int .i64 a5) := Q7.out.cell 5 (show 5 < 7 by omega)
        have d6 : World.cell? _ ⟨w.heap.size, 6, none⟩ = some (.int .i64 a6) := Q7.out.cell 6 (show 6 < 7 by omega)
        refine bodyPost_ret (by simp [results, Tryd.results11, go_sem, d0, d1, d2, d3, d4, d5, d6]; try rfl) rfl ?_
        rw [HAN.out]
        exact ⟨rfl, ((((((HB7.out.setCell (Nat.le_refl _) _).setCell (Nat.le_refl _) _).setCell (Nat.le_refl _) _).setCell (Nat.le_refl _) _).setCell (Nat.le_refl _) _).setCell (Nat.le_refl _) _).setCell (Nat.le_refl _) _⟩
end Go.Proofs.YtflnlmpfniommaaDoor
