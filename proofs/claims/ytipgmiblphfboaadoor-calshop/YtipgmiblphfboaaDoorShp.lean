/-
  Move: what it answers, and the plain part.
-/
import Derived.Test.YtipgmiblphfboaaDoorShc
namespace Go.Proofs.YtipgmiblphfboaaDoor
open Go.RowKit Go.Shelf
set_option maxRecDepth 100000
attribute [local go_sem] Oper.semAt_some
attribute [local go_sem ↓] shLd_op shSt_op rlLd_op

/-- open days among the next j, s apart -/
def mcn (wk : Nat → Bool) (A : List (Int × Bool)) (a s : Int) (j : Nat) : Nat := ((List.range j).filter fun i : Nat => isOp wk A (a + ((i : Int) + 1) * s)).length
/-- what Move answers: a day, an error -/
def MovR (wk : Nat → Bool) (D E : List (Int × Int × Int)) (y m d n : Int) (X : Int × Int × Int) (er : Int) : Prop :=
  (rlA D E = none ∧ X = (0, 0, 0) ∧ er = 36) ∨ ∃ A, rlA D E = some A ∧ ((¬ VD y m d ∧ X = (0, 0, 0) ∧ er = 30) ∨ (VD y m d ∧ ((¬ (-100000 ≤ n ∧ n ≤ 100000) ∧ X = (0, 0, 0) ∧ er = 2) ∨
    (n = 0 ∧ ((isOp wk A (nb y m d) = true ∧ X = (y, m, d) ∧ er = 0) ∨ (isOp wk A (nb y m d) = false ∧ X = (0, 0, 0) ∧ er = 37))) ∨
    (∃ s : Int, ((0 < n ∧ n ≤ 100000 ∧ s = 1) ∨ (n < 0 ∧ -100000 ≤ n ∧ s = -1)) ∧
      ((∃ j : Nat, 1 ≤ j ∧ 0 ≤ nb y m d + j * s ∧ nb y m d + j * s ≤ 3652424 ∧ (mcn wk A (nb y m d) s j : Int) = n * s ∧ isOp wk A (nb y m d + j * s) = true ∧ X = (dY (nb y m d + j * s), dM (nb y m d + j * s), dD (nb y m d + j * s)) ∧ er = 0) ∨
       ((∀ j : Nat, 0 ≤ nb y m d + j * s → nb y m d + j * s ≤ 3652424 → (mcn wk A (nb y m d) s j : Int) < n * s) ∧ X = (0, 0, 0) ∧ er = 35))))))
/-- an error in a block -/
abbrev EBox (w : World) (b : Nat) (e : Int) : Prop := Boxed w b 29 (.int .i64 e)

theorem isOp_mcn (wk : Nat → Bool) (A : List (Int × Bool)) (a s : Int) (j : Nat) : mcn wk A.reverse a s j = mcn wk A a s j := by
  unfold mcn
  simp only [isOp_rev]
theorem mcn_succ (wk : Nat → Bool) (A : List (Int × Bool)) (a s : Int) (j : Nat) : mcn wk A a s (j + 1) = mcn wk A a s j + (if isOp wk A (a + ((j : Int) + 1) * s) = true then 1 else 0) := by
  unfold mcn
  rw [List.range_succ, List.filter_append, List.length_append]
  simp only [List.filter_cons, List.filter_nil]
  split <;> simp
theorem mcn_mono (wk : Nat → Bool) (A : List (Int × Bool)) (a s : Int) (j k : Nat) (h : j ≤ k) : mcn wk A a s j ≤ mcn wk A a s k := by
  obtain ⟨i, rfl⟩ : ∃ i, k = j + i := ⟨k - j, by omega⟩
  clear h
  induction i with
  | zero => exact Nat.le_refl _
  | succ i ih => rw [← Nat.add_assoc, mcn_succ]; omega
theorem cC_mv (wk : Nat → Bool) (A : List (Int × Bool)) (y m d s : Int) (hs : s = 1 ∨ s = -1) (hv : VD y m d) : ∀ j : Nat, 0 ≤ nb y m d + j * s ∧ nb y m d + j * s ≤ 3652424 → cC (fun i => isOp wk A (nb y m d + i * s)) (fun x => !decide (dY x = y ∧ dM x = m ∧ dD x = d)) (upE (nb y m d) s (j + 1)) = mcn wk A (nb y m d) s j
  | 0, h => by
    rw [upE_succ, cC_snoc]
    have hx : dY (nb y m d + ((0 : Nat) : Int) * s) = y ∧ dM (nb y m d + ((0 : Nat) : Int) * s) = m ∧ dD (nb y m d + ((0 : Nat) : Int) * s) = d := by
      rw [date_is hv h]
      omega
    rw [decide_eq_true hx]
    simp [mcn, cC, upE]
  | j + 1, h => by
    have hr := nb_range y m d hv
    have hj : 0 ≤ nb y m d + (j : Int) * s ∧ nb y m d + (j : Int) * s ≤ 3652424 := by rcases hs with rfl | rfl <;> omega
    rw [upE_succ, cC_snoc, cC_mv wk A y m d s hs hv j hj, upE_len, mcn_succ]
    have hx : ¬ (dY (nb y m d + ((j + 1 : Nat) : Int) * s) = y ∧ dM (nb y m d + ((j + 1 : Nat) : Int) * s) = m ∧ dD (nb y m d + ((j + 1 : Nat) : Int) * s) = d) := by
      rw [date_is hv h]
      rcases hs with rfl | rfl <;> omega
    rw [decide_eq_false hx, Int.natCast_add]
    simp
theorem cn_in {a s EN : Int} (hs : (s = 1 ∧ EN = 3652424) ∨ (s = -1 ∧ EN = 0)) (ha : 0 ≤ a ∧ a ≤ 3652424) (j : Nat) : j < cnE a EN s ↔ (0 ≤ a + (j : Int) * s ∧ a + (j : Int) * s ≤ 3652424) := by
  rcases hs with ⟨rfl, rfl⟩ | ⟨rfl, rfl⟩
  · rw [cn_pos (by omega)]; omega
  · rw [cn_neg (by omega)]; omega
theorem mv_all (wk : Nat → Bool) (L : List (Int × Bool)) (y m d s EN N : Int) (hs : (s = 1 ∧ EN = 3652424) ∨ (s = -1 ∧ EN = 0)) (hv : VD y m d)
    (h : ((cC (fun i => isOp wk L (nb y m d + i * s)) (fun x => !decide (dY x = y ∧ dM x = m ∧ dD x = d)) (upE (nb y m d) s (cnE (nb y m d) EN s)) : Nat) : Int) < N) :
    ∀ j : Nat, 0 ≤ nb y m d + (j : Int) * s → nb y m d + (j : Int) * s ≤ 3652424 → (mcn wk L (nb y m d) s j : Int) < N := by
  intro j h1 h2
  have hr := nb_range y m d hv
  have hj := (cn_in hs hr j).2 ⟨h1, h2⟩
  obtain ⟨M, hM⟩ : ∃ M, cnE (nb y m d) EN s = M + 1 := ⟨cnE (nb y m d) EN s - 1, by omega⟩
  have hMr := (cn_in hs hr M).1 (by omega)
  have hs1 : s = 1 ∨ s = -1 := by rcases hs with ⟨h, _⟩ | ⟨h, _⟩ <;> simp [h]
  rw [hM, cC_mv wk L y m d s hs1 hv M hMr] at h
  have := mcn_mono wk L (nb y m d) s j M (by omega)
  omega
theorem mv_hit (wk : Nat → Bool) (L : List (Int × Bool)) (y m d s EN N : Int) (hs : (s = 1 ∧ EN = 3652424) ∨ (s = -1 ∧ EN = 0)) (hv : VD y m d) (k : Nat) (hk : k ≤ cnE (nb y m d) EN s) (x : Int) (p : List Int) (hp : upE (nb y m d) s k = p ++ [x])
    (h1 : ((cC (fun i => isOp wk L (nb y m d + i * s)) (fun x => !decide (dY x = y ∧ dM x = m ∧ dD x = d)) (upE (nb y m d) s k) : Nat) : Int) = N) (h2 : ((cC (fun i => isOp wk L (nb y m d + i * s)) (fun x => !decide (dY x = y ∧ dM x = m ∧ dD x = d)) p : Nat) : Int) < N) :
    ∃ j : Nat, x = nb y m d + (j : Int) * s ∧ 1 ≤ j ∧ 0 ≤ nb y m d + (j : Int) * s ∧ nb y m d + (j : Int) * s ≤ 3652424 ∧ (mcn wk L (nb y m d) s j : Int) = N ∧ isOp wk L (nb y m d + (j : Int) * s) = true := by
  have hr := nb_range y m d hv
  have hs1 : s = 1 ∨ s = -1 := by rcases hs with ⟨h, _⟩ | ⟨h, _⟩ <;> simp [h]
  obtain ⟨j, rfl⟩ : ∃ j, k = j + 1 := by
    cases k with
    | zero => simp [upE] at hp
    | succ j => exact ⟨j, rfl⟩
  have hjr := (cn_in hs hr j).1 (by omega)
  have hp2 := hp
  rw [upE_succ] at hp2
  obtain ⟨e1, e2⟩ := List.append_inj' hp2 (by simp)
  have e3 : x = nb y m d + (j : Int) * s := by simpa using e2.symm
  rw [upE_succ, cC_snoc, upE_len] at h1
  have hc : (isOp wk L (nb y m d + (j : Int) * s) && !decide (dY (nb y m d + (j : Int) * s) = y ∧ dM (nb y m d + (j : Int) * s) = m ∧ dD (nb y m d + (j : Int) * s) = d)) = true := by
    rw [← e1] at h2
    by_cases hc : (isOp wk L (nb y m d + (j : Int) * s) && !decide (dY (nb y m d + (j : Int) * s) = y ∧ dM (nb y m d + (j : Int) * s) = m ∧ dD (nb y m d + (j : Int) * s) = d)) = true
    · exact hc
    · rw [if_neg hc] at h1
      omega
  rw [Bool.and_eq_true] at hc
  refine ⟨j, e3, ?_, hjr.1, hjr.2, ?_, hc.1⟩
  · have h3 := hc.2
    rw [Bool.not_eq_true', decide_eq_false_iff_not, date_is hv hjr] at h3
    rcases Nat.eq_zero_or_pos j with h0 | h0
    · subst h0; exact absurd (by omega) h3
    · exact h0
  · have h4 := cC_mv wk L y m d s hs1 hv j hjr
    rw [upE_succ, cC_snoc, upE_len] at h4
    rw [← h4]
    exact h1
theorem keeps_set {W : World} {b : Nat} {cs : Array Value} {t : TypeId} {fr : Nat × Nat} (h : W.heap[b]? = some (.cells cs t fr)) (k : Nat) (u : Value) : KeepsOthers W (W.setCell ⟨b, k, none⟩ u) := by
  refine ⟨by simp, fun i o hi ho => ?_⟩
  rw [Below.heap_setCell _ _ _ _ (by
    show i ≠ b
    intro e
    subst e
    rw [h] at hi
    cases hi
    cases ho)]
  exact hi
theorem keeps_two {wS : World} {bx be : Nat} {a b c e0 x0 x1 x2 er : Int} (hx : Box wS bx a b c) (he : EBox wS be e0) (hne : bx ≠ be) : KeepsOthers wS ((((wS.setCell ⟨bx, 0, none⟩ (.int .i64 x0)).setCell ⟨bx, 1, none⟩ (.int .i64 x1)).setCell ⟨bx, 2, none⟩ (.int .i64 x2)).setCell ⟨be, 0, none⟩ (.int .i64 er)) := by
  have he3 : EBox (((wS.setCell ⟨bx, 0, none⟩ (.int .i64 x0)).setCell ⟨bx, 1, none⟩ (.int .i64 x1)).setCell ⟨bx, 2, none⟩ (.int .i64 x2)) be e0 := by
    unfold EBox Boxed
    rw [Below.heap_setCell _ _ _ _ (by show be ≠ bx; omega), Below.heap_setCell _ _ _ _ (by show be ≠ bx; omega), Below.heap_setCell _ _ _ _ (by show be ≠ bx; omega)]
    exact he
  exact (((keeps_set hx 0 _).trans (keeps_set (hx.put0 x0) 1 _)).trans (keeps_set ((hx.put0 x0).put1 x1) 2 _)).trans (keeps_set he3 0 _)

theorem ret_two {wS : World} {bx be B : Nat} {a b c e0 x0 x1 x2 er : Int} {w0 : World} (hx : Box wS bx a b c) (he : EBox wS be e0) (hne : bx ≠ be) (hB : Below B w0 wS) (h1 : B ≤ bx) (h2 : B ≤ be) :
    Box ((((wS.setCell ⟨bx, 0, none⟩ (.int .i64 x0)).setCell ⟨bx, 1, none⟩ (.int .i64 x1)).setCell ⟨bx, 2, none⟩ (.int .i64 x2)).setCell ⟨be, 0, none⟩ (.int .i64 er)) bx x0 x1 x2 ∧ EBox ((((wS.setCell ⟨bx, 0, none⟩ (.int .i64 x0)).setCell ⟨bx, 1, none⟩ (.int .i64 x1)).setCell ⟨bx, 2, none⟩ (.int .i64 x2)).setCell ⟨be, 0, none⟩ (.int .i64 er)) be er ∧
    Below B w0 ((((wS.setCell ⟨bx, 0, none⟩ (.int .i64 x0)).setCell ⟨bx, 1, none⟩ (.int .i64 x1)).setCell ⟨bx, 2, none⟩ (.int .i64 x2)).setCell ⟨be, 0, none⟩ (.int .i64 er)) := by
  have hp := hx.put x0 x1 x2
  refine ⟨?_, ?_, (((hB.setCell h1 _).setCell h1 _).setCell h1 _).setCell h2 _⟩
  · unfold Box
    rw [Below.heap_setCell _ _ _ _ (by show bx ≠ be; exact hne)]
    exact hp
  · have he3 : EBox (((wS.setCell ⟨bx, 0, none⟩ (.int .i64 x0)).setCell ⟨bx, 1, none⟩ (.int .i64 x1)).setCell ⟨bx, 2, none⟩ (.int .i64 x2)) be e0 := by
      unfold EBox Boxed
      rw [Below.heap_setCell _ _ _ _ (by show be ≠ bx; omega), Below.heap_setCell _ _ _ _ (by show be ≠ bx; omega), Below.heap_setCell _ _ _ _ (by show be ≠ bx; omega)]
      exact he
    exact he3.set _

end Go.Proofs.YtipgmiblphfboaaDoor
