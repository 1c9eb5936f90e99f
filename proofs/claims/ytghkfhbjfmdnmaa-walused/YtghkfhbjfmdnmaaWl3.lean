/-
  wal: the program's Sector.
-/
import Derived.Test.YtghkfhbjfmdnmaaWl2
import Derived.Deep.RegionLaw
namespace Go.Proofs.Ytghkfhbjfmdnmaa
open Go.RowKit
set_option maxRecDepth 100000

theorem made128 : madeCells #[.int .u8 0] 128 = (bc (List.replicate 128 0)).toArray := by kernel_rfl
theorem u8one : (Try.prog.info? 5).map (·.size) = some 1 := by kernel_rfl
theorem splice_bc (X Y : List UInt8) (off : Nat) : splice (bc X) off (bc Y) = bc (splice X off Y) := by
  simp [splice, bc, List.map_take, List.map_drop]
theorem row1 (A : List UInt8) (h : A.length = 8) : splice (List.replicate 128 0) 0 A = A ++ List.replicate 120 0 := by
  simp [splice, h]
theorem row2 (A : List UInt8) (c : UInt8) (h : A.length = 8) : (A ++ List.replicate 120 0).set 8 c = A ++ c :: List.replicate 119 0 := by
  rw [List.set_append_right _ _ (by omega), h]
  rfl
theorem row3 (A l : List UInt8) (c : UInt8) (h : A.length = 8) (hl : l.length ≤ 111) : splice (A ++ c :: List.replicate 119 0) 9 l = A ++ c :: (l ++ List.replicate (119 - l.length) 0) := by
  unfold splice
  have e1 : (A ++ c :: List.replicate 119 0).take 9 = A ++ [c] := by
    rw [List.take_append, h, List.take_of_length_le (by omega)]
    rfl
  have e2 : (A ++ c :: List.replicate 119 0).drop (9 + l.length) = List.replicate (119 - l.length) 0 := by
    rw [List.drop_append, h, List.drop_eq_nil_of_le (by omega), show 9 + l.length - 8 = l.length + 1 by omega, List.nil_append, List.drop_succ_cons, List.drop_replicate]
  rw [e1, e2, List.append_assoc]
  rfl
theorem row4 (A l : List UInt8) (c : UInt8) (h : A.length = 8) (hl : l.length ≤ 111) : splice (A ++ c :: (l ++ List.replicate (119 - l.length) 0)) 120 A = A ++ c :: (l ++ (List.replicate (111 - l.length) 0 ++ A)) := by
  unfold splice
  have e0 : List.replicate (119 - l.length) (0 : UInt8) = List.replicate (111 - l.length) 0 ++ List.replicate 8 0 := by
    rw [List.replicate_append_replicate]; congr 1; omega
  have e3 : (A ++ c :: (l ++ List.replicate (119 - l.length) 0)) = (A ++ c :: (l ++ List.replicate (111 - l.length) 0)) ++ List.replicate 8 0 := by
    rw [e0]; simp
  have e4 : (A ++ c :: (l ++ List.replicate (111 - l.length) 0)).length = 120 := by simp; omega
  rw [e3, List.take_append_of_le_length (by omega), List.take_of_length_le (by omega), List.drop_eq_nil_of_le (by simp; omega), List.append_nil]
  simp
theorem lows_row (st : Nat) (l : List UInt8) : lows 8 st ++ lb l.length :: (l ++ (List.replicate (111 - l.length) 0 ++ lows 8 st)) = scB st l := rfl
/-- the row g has the bytes R -/
def RowB (w : World) (g : Nat) (R : List UInt8) : Prop := w.heap[g]? = some (.cells (bc R).toArray 5 (0, 0))
theorem RowB.below {w w' : World} {g B : Nat} {R : List UInt8} (h : RowB w g R) (hb : Below B w w') (hg : g < B) : RowB w' g R := (hb.block g hg).trans h
theorem RowB.cell {w : World} {g : Nat} {R : List UInt8} (h : RowB w g R) (j : Nat) (hj : j < R.length) : w.cell? ⟨g, j, none⟩ = some (.int .u8 (R[j].toNat : Int)) := by
  rw [cell_of_row w g j _ _ _ h]
  simpa using bc_at R j hj
theorem RowB.set {w : World} {g : Nat} {R : List UInt8} (h : RowB w g R) (j : Nat) (c : UInt8) (x : Int) (hx : x = (c.toNat : Int)) : RowB (w.setCell ⟨g, j, none⟩ (.int .u8 x)) g (R.set j c) := by
  subst hx
  have := heap_setCell_same w g j _ _ (.int .u8 (c.toNat : Int)) h
  unfold RowB
  rw [this]
  congr 2
  simp [bc, List.map_set]
theorem RowB.frozen {w : World} {g : Nat} {R : List UInt8} (h : RowB w g R) (j : Nat) : w.frozen? ⟨g, j, none⟩ = false := by
  unfold RowB at h
  simp [World.frozen?, h]
theorem RowB.owns {w : World} {g base cap : Nat} {R : List UInt8} (h : RowB w g R) (hg : base ≤ g) (hc : cap = R.length) (hm : R.length ≤ maxLen) : Owns w base (.slice (some ⟨g, 0, none⟩) R.length cap) R := by
  refine ⟨by rw [bc_length, Nat.mul_one], .inr ⟨g, cap, (bc R).toArray, rfl, hg, h, by omega, by omega, by simp [bc_length]; omega, ?_⟩⟩
  rw [List.take_of_length_le (by simp [bc_length])]
theorem copy_reads (A : List UInt8) (w w0 : World) (B g off dl dc : Nat) (v : Value) (R : List UInt8) (h : RowB w g R) (hn : A.length ≤ dl) (hr : Reads w v A) (hfit : off + A.length ≤ R.length) (hb : Below B w0 w) (hB : B ≤ g) :
    ∃ w', (Builtin.copy_ #[22, 22] 3 #[.slice (some ⟨g, off, none⟩) dl dc, v]).run Try.prog w = .ok (.int .i64 (A.length : Int)) w' ∧ RowB w' g (splice R off A) ∧ Below B w0 w' := by
  rcases hr with ⟨rfl, ao, cap, rfl, _⟩ | ⟨b, o2, cap, rfl, hl, hcell⟩
  · refine ⟨w, run_copy_none (P := Try.prog) w 22 22 3 5 _ _ dl dc 0 cap Try.underlying22 u8one (by simp), by simpa [splice] using h, hb⟩
  · have hr := run_copy_row (P := Try.prog) w 22 22 3 5 g off dl dc ⟨b, o2, none⟩ A.length cap (bc R).toArray 5 (bc A) Try.underlying22 u8one h (by rw [bc_length]; exact (Nat.min_eq_left hn).symm) (fun j u hu => by
      have hj : j < A.length := by have := (List.getElem?_eq_some_iff.1 hu).1; simpa [bc_length] using this
      rw [bc_at A j hj] at hu
      cases hu
      rw [Addr.add_lit]
      exact hcell j hj) (by simpa [bc_length] using hfit) (bc_one _)
    refine ⟨w.setRow g (bc (splice R off A)).toArray, ?_, setRow_heap w g _ _ _ _ h, below_setRow hb hB _⟩
    have e : (bc R).toArray.toList.take off ++ bc A ++ (bc R).toArray.toList.drop (off + (bc A).length) = bc (splice R off A) := by
      rw [← splice_bc]
      simp [splice]
    rw [hr, e, bc_length]
    rfl
/-- the same as one step of a region that draws -/
theorem step_copy (A : List UInt8) {ops : Array Oper} {o : Oper} {a : Act} {w : World} {K : Act → World → Prop} {Q : Exit → Act → World → Prop} {E : Prop} (hgd : o.guard = none) (d s : Operand) (ho : o.op = .call { callee := .builtin .copy, args := #[d, s], argTypes := #[22, 22] }) (hty : o.type = 3)
    (w0 : World) (B g off dl dc : Nat) (v : Value) (R : List UInt8) (hd : a.eval d = .slice (some ⟨g, off, none⟩) dl dc) (hs : a.eval s = v) (h : RowB w g R) (hn : A.length ≤ dl) (hr : Reads w v A) (hfit : off + A.length ≤ R.length) (hb : Below B w0 w) (hB : B ≤ g)
    (hK : ∀ w', Hid (RowB w' g (splice R off A)) → Hid (Below B w0 w') → K (a.put o.dst (.int .i64 (A.length : Int))) w') :
    if Region.wanted o (yielded ops a.tmps) = true then Oper.wp Try.prog o a w K Q else E := by
  have hw : Region.wanted o (yielded ops a.tmps) = true := by simp [Region.wanted, hgd]
  rw [if_pos hw]
  obtain ⟨w', hrun, h1, h2⟩ := copy_reads A w w0 B g off dl dc v R h hn hr hfit hb hB
  unfold Oper.wp
  simp [execOp, ho, hty, resolve, invoke, builtin, hd, hs, hrun, Result.andThen]
  exact hK _ h1 h2
set_option maxHeartbeats 2000000 in
theorem sector_any (life n : Int) (v : Value) (l : List UInt8) (w : World) (hr : Reads w v l) :
    Calls Try.prog 10 #[.int .i64 life, .int .i64 n, v] w fun e w' => ∃ v', e = .returned (.tuple #[v', .int .i64 (scE life n l)]) ∧ Owns w' w.heap.size v' (scL life n l) ∧ Below w.heap.size w w' := by
  obtain ⟨ao, cap, rfl⟩ := hr.form
  have HS := hidw (stamp_any life n w)
  unfold scE scL
  generalize sp life n = st at *
  by_cases h0 : st = 0
  · subst h0
    simp only [if_pos]
    go_enter Try.func10, Try.ntmps10
    go_wp2_with fail
    refine Calls.mono HS.out ?_
    rintro e w1 ⟨rfl, rfl⟩
    go_wp2
    go_ret2
    exact ⟨_, rfl, Owns.nil _ _, Below.refl _ _⟩
  · rw [if_neg h0, if_neg h0]
    have hI : ((st : Int) == 0) = false := by simp; omega
    by_cases h1 : 111 < l.length
    · rw [if_pos h1, if_pos h1]
      go_enter Try.func10, Try.ntmps10
      go_wp2_with fail
      refine Calls.mono HS.out ?_
      rintro e w1 ⟨rfl, rfl⟩
      go_wp2
      go_ret2
      exact ⟨_, rfl, Owns.nil _ _, Below.refl _ _⟩
    · rw [if_neg h1, if_neg h1]
      have hl : l.length ≤ 111 := by omega
      have h8 := lows_length 8 st
      obtain ⟨A, hA⟩ : ∃ A, lows 8 st = A := ⟨_, rfl⟩
      have HPW := hidw (fun wx => putWord_any (.slice none 0 0) [] st wx (Reads.nil _) (by simp))
      have HRes := hidw (show A ++ lb l.length :: (l ++ (List.replicate (111 - l.length) 0 ++ A)) = scB st l by rw [← hA]; rfl)
      simp only [List.nil_append, hA] at HPW
      rw [hA] at h8
      have H8 := hidw h8
      have HR := hidw hr
      obtain ⟨i, hi, hz, hsz, hby⟩ := info_parts u8info
      obtain ⟨W, hW⟩ : ∃ W, w.alloc (.cells (madeCells #[.int .u8 0] 128) 5) = W := ⟨_, rfl⟩
      have R0 := hidw (show RowB W w.heap.size (List.replicate 128 0) by
        have := heap_alloc_new w (.cells (madeCells #[.int .u8 0] 128) 5)
        rw [hW, made128] at this
        exact this)
      have B0 := hidw (show Below w.heap.size w W by rw [← hW]; exact (Below.refl _ _).alloc (Nat.le_refl _) _)
      have zW : W.heap.size = w.heap.size + 1 := by rw [← hW, World.size_alloc]
      clear hr h1 hA h8
      go_enter Try.func10, Try.ntmps10
      go_wp2_with fail
      refine Calls.mono HS.out ?_
      rintro e w1 ⟨rfl, rfl⟩
      go_wp2_with (at_make; refine wpList_make_row _ rfl _ _ 22 rfl 5 i (.int .u8 0) Try.underlying22 hi hz hsz rfl .i64 .i64 128 rfl rfl (by rw [hby]; omega) (by omega) ?_)
      clear HS hW hi hz hsz hby
      refine Calls.mono (HPW.out W) ?_
      rintro e w2 ⟨v2, rfl, ho2, hb2⟩
      have R2 := hidw (R0.out.below hb2 (by omega))
      have B2 := hidw (B0.out.trans (hb2.mono (by omega)))
      obtain ⟨w3, hrun3, r3, hb3⟩ := copy_reads A w2 w1 w1.heap.size w1.heap.size 0 128 128 v2 _ R2.out (by rw [H8.out]; omega) ho2.reads (by rw [H8.out]; simp) B2.out (Nat.le_refl _)
      rw [H8.out] at hrun3
      clear ho2 hb2 R0 B0
      rw [row1 A H8.out] at r3
      have R3 := hidw r3
      have B3 := hidw hb3
      have c8 := R3.out.cell 8 (by simp)
      have f8 : w3.frozen? ⟨w1.heap.size, 8, none⟩ = false := R3.out.frozen 8
      obtain ⟨W4, hW4⟩ : ∃ W4, w3.setCell ⟨w1.heap.size, 8, none⟩ (.int .u8 (l.length : Int)) = W4 := ⟨_, rfl⟩
      have R4 := hidw (show RowB W4 w1.heap.size (A ++ lb l.length :: List.replicate 119 0) by
        have := R3.out.set 8 (lb l.length) (l.length : Int) (by rw [lb_toNat]; omega)
        rw [row2 A _ H8.out, hW4] at this
        exact this)
      have B4 := hidw (show Below w1.heap.size w1 W4 by rw [← hW4]; exact B3.out.setCell (Nat.le_refl _) _)
      obtain ⟨w5, hrun5, r5, hb5⟩ := copy_reads l W4 w1 w1.heap.size w1.heap.size 9 119 119 _ _ R4.out (by omega) (HR.out.below B4.out) (by simp; have := H8.out; omega) B4.out (Nat.le_refl _)
      rw [row3 A l _ H8.out hl] at r5
      have R5 := hidw r5
      have B5 := hidw hb5
      have R6 := hidw (show RowB w5.drew w1.heap.size _ from r5)
      have B6 := hidw (show Below w1.heap.size w1 w5.drew from hb5.drew)
      have hz5 : w1.heap.size < w5.heap.size := (Array.getElem?_eq_some_iff.1 r5).1
      clear r3 hb3 R2 B2 R3 B3 r5 hb5
      go_wp2_with fail
      have hfit8 := hidw (show 120 + A.length ≤ (A ++ lb l.length :: (l ++ List.replicate (119 - l.length) 0)).length by simp; have := H8.out; omega)
      go_region_law (first
        | (go_simp; go_at_call 16; refine (HPW.out _).mono ?_; rintro e w7 ⟨v7, rfl, ho7, hb7⟩; have R7 := hidw (R6.out.below hb7 hz5); have B7 := hidw (B6.out.trans (hb7.mono (Nat.le_of_lt hz5))))
        | (refine step_copy A rfl (.tmp 33) (.tmp 35) rfl rfl w1 w1.heap.size w1.heap.size 120 8 8 _ _ rfl rfl R7.out (by rw [H8.out]; omega) ho7.reads hfit8.out B7.out (Nat.le_refl _) ?_; intro w8 R8 B8))
      all_goals
        clear ho7 hb7 R7 B7
        go_wp2
        go_ret2
        refine ⟨_, rfl, ?_, B8.out⟩
        have h := R8.out
        rw [row4 A l _ H8.out hl, HRes.out] at h
        have h2 := h.owns (base := w1.heap.size) (cap := 128) (Nat.le_refl _) (by rw [scB_len _ _ hl]) (by rw [scB_len _ _ hl]; decide)
        rw [scB_len _ _ hl] at h2
        exact h2
end Go.Proofs.Ytghkfhbjfmdnmaa
