/-
  The func that along hands out, called once.
-/
import Derived.Test.YtipgmiblphfboaaDoorSh5
import Derived.Test.YtipgmiblphfboaaDoorCwd
namespace Go.Proofs.YtipgmiblphfboaaDoor
open Go.RowKit
set_option maxRecDepth 100000

/-- the shop is open on day n -/
def isOp (wk : Nat → Bool) (L : List (Int × Bool)) (n : Int) : Bool := if (n, true) ∈ L then true else if (n, false) ∈ L then false else wk (wd n).toNat
/-- they rise, or fall with a step below 0 -/
def Srt (s : Int) (L : List (Int × Bool)) : Prop := L.Pairwise fun x y => 0 < (y.1 - x.1) * s
theorem isOp_hit {wk : Nat → Bool} {s n : Int} {b : Bool} {A t : List (Int × Bool)} (h : Srt s (A ++ (n, b) :: t)) : isOp wk (A ++ (n, b) :: t) n = b := by
  have hu : ∀ c, (n, c) ∈ A ++ (n, b) :: t → c = b := by
    intro c hc
    unfold Srt at h
    rw [List.pairwise_append, List.pairwise_cons] at h
    rcases List.mem_append.1 hc with hc | hc
    · have := h.2.2 _ hc (n, b) (by simp)
      simp at this
    · rcases List.mem_cons.1 hc with hc | hc
      · cases hc; rfl
      · have := h.2.1.1 _ hc
        simp at this
  have hm : (n, b) ∈ A ++ (n, b) :: t := by simp
  unfold isOp
  cases b with
  | true => rw [if_pos hm]
  | false => rw [if_neg (fun h => by cases hu true h), if_pos hm]
theorem isOp_miss {wk : Nat → Bool} {n : Int} {L : List (Int × Bool)} (h : ∀ x ∈ L, x.1 ≠ n) : isOp wk L n = wk (wd n).toNat := by
  unfold isOp
  rw [if_neg (fun hm => h _ hm rfl), if_neg (fun hm => h _ hm rfl)]
/-- nothing but two blocks has turned -/
structure KT (a b : Nat) (w w' : World) : Prop where
  os : w'.os = w.os
  tape : w'.tape = w.tape
  output : w'.output = w.output
  size : w.heap.size ≤ w'.heap.size
  block : ∀ k, k < w.heap.size → k ≠ a → k ≠ b → w'.heap[k]? = w.heap[k]?
theorem KT.refl (a b : Nat) (w : World) : KT a b w w := ⟨rfl, rfl, rfl, Nat.le_refl _, fun _ _ _ _ => rfl⟩
theorem KT.drewN {a b : Nat} {w w' : World} (h : KT a b w w') (n : Nat) : KT a b w (w'.drewN n) := ⟨h.os, h.tape, h.output, h.size, h.block⟩
theorem KT.setA {a b : Nat} {w w' : World} (h : KT a b w w') (v : Value) : KT a b w (w'.setCell ⟨a, 0, none⟩ v) := ⟨h.os, h.tape, h.output, by simpa using h.size, fun k hk ha hb => by rw [Below.heap_setCell _ _ _ _ (by show k ≠ a; exact ha)]; exact h.block k hk ha hb⟩
theorem KT.setB {a b : Nat} {w w' : World} (h : KT a b w w') (v : Value) : KT a b w (w'.setCell ⟨b, 0, none⟩ v) := ⟨h.os, h.tape, h.output, by simpa using h.size, fun k hk ha hb => by rw [Below.heap_setCell _ _ _ _ (by show k ≠ b; exact hb)]; exact h.block k hk ha hb⟩
theorem KT.below {a b B : Nat} {w0 w w' : World} (h : KT a b w w') (h0 : Below B w0 w) (hB : B ≤ w.heap.size) (ha : B ≤ a) (hb : B ≤ b) : Below B w0 w' := h0.trans ⟨h.os, h.tape, h.output, h.size, fun k hk => h.block k (by omega) (by omega) (by omega)⟩
theorem RL.one {w : World} {b : Nat} {T : TypeId} {v0 v : Value} {L : List (Int × Bool)} (h : Boxed w b T v0) (hr : RL eS 2 w v L) (u' : Value) : RL eS 2 (w.setCell ⟨b, 0, none⟩ u') v L := by
  obtain ⟨ao, c, hv, hc, hn, hq⟩ := hr
  refine ⟨ao, c, hv, hc, hn, fun i hi => ?_⟩
  obtain ⟨g, off, ha, hcell⟩ := hq i hi
  refine ⟨g, off, ha, fun j u hj => ?_⟩
  have hg : g ≠ b := by
    intro e
    subst e
    have h1 := hcell 1 (.bool L[i].2) rfl
    unfold Boxed at h
    simp [World.cell?, h] at h1
  rw [World.cell?_of_block (Below.heap_setCell _ _ _ _ (by show g ≠ b; exact hg))]
  exact hcell j u hj
theorem AL.cut {w : World} {gl gd gs gh : Nat} {wk : Nat → Bool} {s : Int} {L B : List (Int × Bool)} {n : Int} {v : Value} (h : AL w gl gd gs gh wk s L n) (hr : RL eS 2 w v B) : AL (w.setCell ⟨gl, 0, none⟩ v) gl gd gs gh wk s B n := by
  obtain ⟨⟨v0, h1, h2⟩, h3, h4, ⟨v', h5⟩, n1, n2, n3, n4, n5⟩ := h
  refine ⟨⟨v, h1.set v, RL.one h1 hr v⟩, ?_, ?_, ⟨v', ?_⟩, n1, n2, n3, n4, n5⟩
  · unfold IBox; rw [Below.heap_setCell _ _ _ _ (by show gd ≠ gl; omega)]; exact h3
  · unfold IBox; rw [Below.heap_setCell _ _ _ _ (by show gs ≠ gl; omega)]; exact h4
  · rw [Below.heap_setCell _ _ _ _ (by show gh ≠ gl; omega)]; exact h5
theorem AL.next {w : World} {gl gd gs gh : Nat} {wk : Nat → Bool} {s : Int} {L : List (Int × Bool)} {n : Int} (h : AL w gl gd gs gh wk s L n) (n' : Int) : AL (w.setCell ⟨gd, 0, none⟩ (.int .i64 n')) gl gd gs gh wk s L n' := by
  obtain ⟨⟨v0, h1, h2⟩, h3, h4, ⟨v', h5⟩, n1, n2, n3, n4, n5⟩ := h
  refine ⟨⟨v0, h1.other (by omega) _, RL.one (T := 3) (v0 := .int .i64 n) h3 h2 _⟩, h3.put n', ?_, ⟨v', ?_⟩, n1, n2, n3, n4, n5⟩
  · unfold IBox; rw [Below.heap_setCell _ _ _ _ (by show gs ≠ gd; omega)]; exact h4
  · rw [Below.heap_setCell _ _ _ _ (by show gh ≠ gd; omega)]; exact h5
theorem AL.drewN {w : World} {gl gd gs gh : Nat} {wk : Nat → Bool} {s : Int} {L : List (Int × Bool)} {n : Int} (h : AL w gl gd gs gh wk s L n) (k : Nat) : AL (w.drewN k) gl gd gs gh wk s L n := h.later (below_drewN (Below.refl _ _) k)
theorem AL.week {w : World} {gl gd gs gh : Nat} {wk : Nat → Bool} {s : Int} {L : List (Int × Bool)} {n : Int} (h : AL w gl gd gs gh wk s L n) (q : Nat) (hq : q < 7) : w.cell? ⟨gh, q, none⟩ = some (.bool (wk q)) := by
  obtain ⟨_, _, _, ⟨v', h5⟩, _⟩ := h
  rw [Lib.cell_of_heap h5]
  match q, hq with
  | 0, _ => rfl
  | 1, _ => rfl
  | 2, _ => rfl
  | 3, _ => rfl
  | 4, _ => rfl
  | 5, _ => rfl
  | 6, _ => rfl
/-- the func in the midst: so many special days are behind it -/
def AS (w : World) (gl gd gs gh : Nat) (wk : Nat → Bool) (s : Int) (L : List (Int × Bool)) (n : Int) : Prop := ∃ A B, L = A ++ B ∧ (∀ x ∈ A, (x.1 - n) * s < 0) ∧ AL w gl gd gs gh wk s B n
theorem AL.as {w : World} {gl gd gs gh : Nat} {wk : Nat → Bool} {s : Int} {L : List (Int × Bool)} {n : Int} (h : AL w gl gd gs gh wk s L n) : AS w gl gd gs gh wk s L n := ⟨[], L, rfl, fun x hx => by simp at hx, h⟩
theorem AS.later {w w' : World} {gl gd gs gh : Nat} {wk : Nat → Bool} {s : Int} {L : List (Int × Bool)} {n : Int} (h : AS w gl gd gs gh wk s L n) (hb : Below w.heap.size w w') : AS w' gl gd gs gh wk s L n := by
  obtain ⟨A, B, h1, h2, h3⟩ := h
  exact ⟨A, B, h1, h2, h3.later hb⟩
theorem AS.lt {w : World} {gl gd gs gh : Nat} {wk : Nat → Bool} {s : Int} {L : List (Int × Bool)} {n : Int} (h : AS w gl gd gs gh wk s L n) : gl < w.heap.size ∧ gd < w.heap.size ∧ gs < w.heap.size ∧ gh < w.heap.size := by
  obtain ⟨A, B, h1, h2, h3⟩ := h
  exact h3.lt

set_option maxHeartbeats 4000000 in
theorem open_up (wk : Nat → Bool) (L : List (Int × Bool)) (n : Int) (gl gd gs gh : Nat) (w : World) (hn : -1 ≤ n ∧ n ≤ 3652425) (hL : ∀ x ∈ L, 0 ≤ x.1 ∧ x.1 ≤ 3652424) (hsr : Srt (1) L) (h : AS w gl gd gs gh wk (1) L n) :
    Calls Tryd.prog 30 #[.pointer (some ⟨gl, 0, none⟩), .pointer (some ⟨gd, 0, none⟩), .pointer (some ⟨gs, 0, none⟩), .pointer (some ⟨gh, 0, none⟩)] w fun e w' => e = .returned (.bool (isOp wk L n)) ∧ AS w' gl gd gs gh wk (1) L (n + (1)) ∧ KT gl gd w w' := by
  obtain ⟨A0, B0, hAB, hA0, hal⟩ := h
  have H0 := hid hal
  have HAB := hid (show ∃ A, L = A ++ B0 ∧ ∀ x ∈ A, (x.1 - n) * (1) < 0 from ⟨A0, hAB, hA0⟩)
  have HL := hid hL
  have HS := hid hsr
  clear hal hAB hA0 hL hsr A0
  go_enter Tryd.func30, Tryd.ntmps30
  go_wp2
  go_loopg [] B0.length (fun k wr => ∃ B, Hid (AL wr gl gd gs gh wk (1) B n) ∧ Hid (∃ A, L = A ++ B ∧ ∀ x ∈ A, (x.1 - n) * (1) < 0) ∧ Hid (KT gl gd w wr) ∧ B.length ≤ k)
  case atStart => exact ⟨B0, H0, HAB, hid (KT.refl _ _ _), Nat.le_refl _⟩
  case round =>
    obtain ⟨B, HB, HA, HK, hk⟩ := hrel
    clear H0 HAB
    have WE := hid (fun w => weekday_any n (by omega) (by omega) w)
    obtain ⟨q, hq, hq7⟩ : ∃ q : Nat, wd n = (q : Int) ∧ q < 7 := ⟨(wd n).toNat, by have := wd_lt n; omega, by have := wd_lt n; omega⟩
    have hqn : (wd n).toNat = q := by omega
    have FIN := hid (show ∀ (w' : World) (b : Bool), AL w' gl gd gs gh wk (1) B n → KT gl gd w w' → b = isOp wk L n → Ending.returned (Value.bool b) = .returned (.bool (isOp wk L n)) ∧ AS (w'.setCell ⟨gd, 0, none⟩ (.int .i64 (n + (1)))) gl gd gs gh wk (1) L (n + (1)) ∧ KT gl gd w (w'.setCell ⟨gd, 0, none⟩ (.int .i64 (n + (1)))) from fun w' b h1 h2 h3 => ⟨by rw [h3], by
      obtain ⟨A, hA, hx⟩ := HA.out
      exact ⟨A, B, hA, fun x hm => by have := hx x hm; omega, h1.next _⟩, h2.setB _⟩)
    rw [hq] at WE
    match B with
    | [] =>
      have HM := hid (show wk q = isOp wk L n by
        obtain ⟨A, hA, hx⟩ := HA.out
        rw [isOp_miss, hqn]
        intro x hm e
        have := hx x (by rw [hA] at hm; simpa using hm)
        rw [e] at this
        simp at this)
      obtain ⟨⟨v0, b0, r0⟩, i1, i2, _⟩ := HB.out
      obtain ⟨ao, c, rfl⟩ := r0.len0
      have c0 := b0.cell
      have c1 := i1.facts.1
      have c2 := i2.facts.1
      have c3 := HB.out.week q hq7
      have f1 := i1.facts.2.1
      clear b0 r0 i1 i2
      simp only [List.length_nil] at *
      go_wp2_with fail
      go_quiet (fail)
      go_wp2_with fail
      refine (WE.out _).mono ?_
      rintro e w2 ⟨rfl, rfl⟩
      go_wp2_with fail
      go_quiet (fail)
      go_wp2
      go_ret
      exact FIN.out _ _ (HB.out.drewN _) (HK.out.drewN _) HM.out
    | (xd, xb) :: t =>
      have hxr : 0 ≤ xd ∧ xd ≤ 3652424 := by
        obtain ⟨A, hA, hx⟩ := HA.out
        exact HL.out (xd, xb) (by rw [hA]; simp)
      obtain ⟨⟨v0, b0, r0⟩, i1, i2, _⟩ := HB.out
      obtain ⟨g, off, c, rfl, hcc, hcell⟩ := r0.form (by simp)
      have d0 : wr.cell? ⟨g, off, none⟩ = some (.int .i64 xd) := by simpa using hcell 0 (by simp) 0 (.int .i64 xd) (by simp [eS])
      have d1 : wr.cell? ⟨g, off + 1, none⟩ = some (.bool xb) := by simpa using hcell 0 (by simp) 1 (.bool xb) (by simp [eS])
      have c0 := b0.cell
      have c1 := i1.facts.1
      have c2 := i2.facts.1
      have c3 := HB.out.week q hq7
      have f0 := b0.frozen
      have f1 := i1.facts.2.1
      have T1 := hid (fun h k => (RL.tail1 (enc := eS) (k := 2) (t := t) (by simpa using r0) h).below (below_drewN (Below.refl _ _) k))
      have T2 := hid (fun h k => (RL.tail2 (enc := eS) (k := 2) (t := t) (by simpa using r0) h).below (below_drewN (Below.refl _ _) k))
      clear b0 r0 i1 i2 hcell
      simp only [List.length_cons] at *
      by_cases hc : xd < n
      · have hd : xd - n < 0 := by omega
        have HA2 := hid (show ∃ A, L = A ++ t ∧ ∀ x ∈ A, (x.1 - n) * (1) < 0 by
          obtain ⟨A, hA, hx⟩ := HA.out
          refine ⟨A ++ [(xd, xb)], by rw [hA]; simp, fun x hm => ?_⟩
          rcases List.mem_append.1 hm with hm | hm
          · exact hx x hm
          · obtain rfl : x = (xd, xb) := by simpa using hm
            show (xd - n) * (1) < 0
            omega)
        go_wp2_with fail
        go_quiet (fail)
        go_wp2
        all_goals (go_roundg (gk - 1); (case measure => omega); (case rel => first | exact ⟨t, hid ((HB.out.drewN nq).cut (T1.out ‹_› nq)), HA2, hid ((HK.out.drewN nq).setA _), by omega⟩ | exact ⟨t, hid ((HB.out.drewN nq).cut (T2.out ‹_› nq)), HA2, hid ((HK.out.drewN nq).setA _), by omega⟩))
      · have hd : ¬ xd - n < 0 := by omega
        by_cases he : xd = n
        · subst he
          have HM := hid (show xb = isOp wk L xd by
            obtain ⟨A, hA, hx⟩ := HA.out
            rw [hA, isOp_hit (s := 1)]
            rw [← hA]
            exact HS.out)
          go_wp2_with fail
          go_quiet (fail)
          go_wp2_with fail
          refine (WE.out _).mono ?_
          rintro e w2 ⟨rfl, rfl⟩
          go_wp2_with fail
          go_quiet (fail)
          go_wp2
          go_ret
          exact FIN.out _ _ (HB.out.drewN _) (HK.out.drewN _) HM.out
        · have HM := hid (show wk q = isOp wk L n by
            obtain ⟨A, hA, hx⟩ := HA.out
            rw [isOp_miss, hqn]
            intro x hm e
            rw [hA] at hm
            rcases List.mem_append.1 hm with hm | hm
            · have := hx x hm
              rw [e] at this
              simp at this
            · rcases List.mem_cons.1 hm with rfl | hm
              · exact he e
              · have hs := HS.out
                unfold Srt at hs
                rw [hA, List.pairwise_append, List.pairwise_cons] at hs
                have := hs.2.1.1 x hm
                simp only [e] at this
                omega)
          have he2 : decide (xd = n) = false := decide_eq_false he
          go_wp2_with fail
          go_quiet (fail)
          go_wp2_with fail
          refine (WE.out _).mono ?_
          rintro e w2 ⟨rfl, rfl⟩
          go_wp2_with fail
          go_quiet (fail)
          go_wp2
          go_ret
          exact FIN.out _ _ (HB.out.drewN _) (HK.out.drewN _) HM.out

set_option maxHeartbeats 4000000 in
theorem open_dn (wk : Nat → Bool) (L : List (Int × Bool)) (n : Int) (gl gd gs gh : Nat) (w : World) (hn : -1 ≤ n ∧ n ≤ 3652425) (hL : ∀ x ∈ L, 0 ≤ x.1 ∧ x.1 ≤ 3652424) (hsr : Srt (-1) L) (h : AS w gl gd gs gh wk (-1) L n) :
    Calls Tryd.prog 30 #[.pointer (some ⟨gl, 0, none⟩), .pointer (some ⟨gd, 0, none⟩), .pointer (some ⟨gs, 0, none⟩), .pointer (some ⟨gh, 0, none⟩)] w fun e w' => e = .returned (.bool (isOp wk L n)) ∧ AS w' gl gd gs gh wk (-1) L (n + (-1)) ∧ KT gl gd w w' := by
  obtain ⟨A0, B0, hAB, hA0, hal⟩ := h
  have H0 := hid hal
  have HAB := hid (show ∃ A, L = A ++ B0 ∧ ∀ x ∈ A, (x.1 - n) * (-1) < 0 from ⟨A0, hAB, hA0⟩)
  have HL := hid hL
  have HS := hid hsr
  clear hal hAB hA0 hL hsr A0
  go_enter Tryd.func30, Tryd.ntmps30
  go_wp2
  go_loopg [] B0.length (fun k wr => ∃ B, Hid (AL wr gl gd gs gh wk (-1) B n) ∧ Hid (∃ A, L = A ++ B ∧ ∀ x ∈ A, (x.1 - n) * (-1) < 0) ∧ Hid (KT gl gd w wr) ∧ B.length ≤ k)
  case atStart => exact ⟨B0, H0, HAB, hid (KT.refl _ _ _), Nat.le_refl _⟩
  case round =>
    obtain ⟨B, HB, HA, HK, hk⟩ := hrel
    clear H0 HAB
    have WE := hid (fun w => weekday_any n (by omega) (by omega) w)
    obtain ⟨q, hq, hq7⟩ : ∃ q : Nat, wd n = (q : Int) ∧ q < 7 := ⟨(wd n).toNat, by have := wd_lt n; omega, by have := wd_lt n; omega⟩
    have hqn : (wd n).toNat = q := by omega
    have FIN := hid (show ∀ (w' : World) (b : Bool), AL w' gl gd gs gh wk (-1) B n → KT gl gd w w' → b = isOp wk L n → Ending.returned (Value.bool b) = .returned (.bool (isOp wk L n)) ∧ AS (w'.setCell ⟨gd, 0, none⟩ (.int .i64 (n + (-1)))) gl gd gs gh wk (-1) L (n + (-1)) ∧ KT gl gd w (w'.setCell ⟨gd, 0, none⟩ (.int .i64 (n + (-1)))) from fun w' b h1 h2 h3 => ⟨by rw [h3], by
      obtain ⟨A, hA, hx⟩ := HA.out
      exact ⟨A, B, hA, fun x hm => by have := hx x hm; omega, h1.next _⟩, h2.setB _⟩)
    rw [hq] at WE
    match B with
    | [] =>
      have HM := hid (show wk q = isOp wk L n by
        obtain ⟨A, hA, hx⟩ := HA.out
        rw [isOp_miss, hqn]
        intro x hm e
        have := hx x (by rw [hA] at hm; simpa using hm)
        rw [e] at this
        simp at this)
      obtain ⟨⟨v0, b0, r0⟩, i1, i2, _⟩ := HB.out
      obtain ⟨ao, c, rfl⟩ := r0.len0
      have c0 := b0.cell
      have c1 := i1.facts.1
      have c2 := i2.facts.1
      have c3 := HB.out.week q hq7
      have f1 := i1.facts.2.1
      clear b0 r0 i1 i2
      simp only [List.length_nil] at *
      go_wp2_with fail
      go_quiet (fail)
      go_wp2_with fail
      refine (WE.out _).mono ?_
      rintro e w2 ⟨rfl, rfl⟩
      go_wp2_with fail
      go_quiet (fail)
      go_wp2
      go_ret
      exact FIN.out _ _ (HB.out.drewN _) (HK.out.drewN _) HM.out
    | (xd, xb) :: t =>
      have hxr : 0 ≤ xd ∧ xd ≤ 3652424 := by
        obtain ⟨A, hA, hx⟩ := HA.out
        exact HL.out (xd, xb) (by rw [hA]; simp)
      obtain ⟨⟨v0, b0, r0⟩, i1, i2, _⟩ := HB.out
      obtain ⟨g, off, c, rfl, hcc, hcell⟩ := r0.form (by simp)
      have d0 : wr.cell? ⟨g, off, none⟩ = some (.int .i64 xd) := by simpa using hcell 0 (by simp) 0 (.int .i64 xd) (by simp [eS])
      have d1 : wr.cell? ⟨g, off + 1, none⟩ = some (.bool xb) := by simpa using hcell 0 (by simp) 1 (.bool xb) (by simp [eS])
      have c0 := b0.cell
      have c1 := i1.facts.1
      have c2 := i2.facts.1
      have c3 := HB.out.week q hq7
      have f0 := b0.frozen
      have f1 := i1.facts.2.1
      have T1 := hid (fun h k => (RL.tail1 (enc := eS) (k := 2) (t := t) (by simpa using r0) h).below (below_drewN (Below.refl _ _) k))
      have T2 := hid (fun h k => (RL.tail2 (enc := eS) (k := 2) (t := t) (by simpa using r0) h).below (below_drewN (Below.refl _ _) k))
      clear b0 r0 i1 i2 hcell
      simp only [List.length_cons] at *
      by_cases hc : n < xd
      · have hd : (xd - n) * (-1) < 0 := by omega
        have HA2 := hid (show ∃ A, L = A ++ t ∧ ∀ x ∈ A, (x.1 - n) * (-1) < 0 by
          obtain ⟨A, hA, hx⟩ := HA.out
          refine ⟨A ++ [(xd, xb)], by rw [hA]; simp, fun x hm => ?_⟩
          rcases List.mem_append.1 hm with hm | hm
          · exact hx x hm
          · obtain rfl : x = (xd, xb) := by simpa using hm
            show (xd - n) * (-1) < 0
            omega)
        go_wp2_with fail
        go_quiet (fail)
        go_wp2
        all_goals (go_roundg (gk - 1); (case measure => omega); (case rel => first | exact ⟨t, hid ((HB.out.drewN nq).cut (T1.out ‹_› nq)), HA2, hid ((HK.out.drewN nq).setA _), by omega⟩ | exact ⟨t, hid ((HB.out.drewN nq).cut (T2.out ‹_› nq)), HA2, hid ((HK.out.drewN nq).setA _), by omega⟩))
      · have hd : ¬ (xd - n) * (-1) < 0 := by omega
        by_cases he : xd = n
        · subst he
          have HM := hid (show xb = isOp wk L xd by
            obtain ⟨A, hA, hx⟩ := HA.out
            rw [hA, isOp_hit (s := -1)]
            rw [← hA]
            exact HS.out)
          go_wp2_with fail
          go_quiet (fail)
          go_wp2_with fail
          refine (WE.out _).mono ?_
          rintro e w2 ⟨rfl, rfl⟩
          go_wp2_with fail
          go_quiet (fail)
          go_wp2
          go_ret
          exact FIN.out _ _ (HB.out.drewN _) (HK.out.drewN _) HM.out
        · have HM := hid (show wk q = isOp wk L n by
            obtain ⟨A, hA, hx⟩ := HA.out
            rw [isOp_miss, hqn]
            intro x hm e
            rw [hA] at hm
            rcases List.mem_append.1 hm with hm | hm
            · have := hx x hm
              rw [e] at this
              simp at this
            · rcases List.mem_cons.1 hm with rfl | hm
              · exact he e
              · have hs := HS.out
                unfold Srt at hs
                rw [hA, List.pairwise_append, List.pairwise_cons] at hs
                have := hs.2.1.1 x hm
                simp only [e] at this
                omega)
          have he2 : decide (xd = n) = false := decide_eq_false he
          go_wp2_with fail
          go_quiet (fail)
          go_wp2_with fail
          refine (WE.out _).mono ?_
          rintro e w2 ⟨rfl, rfl⟩
          go_wp2_with fail
          go_quiet (fail)
          go_wp2
          go_ret
          exact FIN.out _ _ (HB.out.drewN _) (HK.out.drewN _) HM.out
end Go.Proofs.YtipgmiblphfboaaDoor
