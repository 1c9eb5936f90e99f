/-
  Move's answers, put together; they are one.
-/
import Derived.Test.YtipgmiblphfboaaDoorRm2
namespace Go.Proofs.YtipgmiblphfboaaDoor
set_option maxRecDepth 100000

section
variable {wk : Nat → Bool} {D E : List (Int × Int × Int)} {A : List (Int × Bool)} {y m d n a : Int}
theorem movR_up (hA : rlA D E = some A) (hv : VD y m d) (ha : nb y m d = a) (hn : 0 < n) (hn2 : n ≤ 100000) (lo : Int) (hlo : a + 1 ≤ lo) (hlo2 : lo ≤ 3652424) (h1 : (cntO wk A (a + 1) lo : Int) < n) (h2 : n ≤ cntO wk A (a + 1) (lo + 1)) : MovR wk D E y m d n (dY lo, dM lo, dD lo) 0 := by
  obtain ⟨j, hj, hl, hm, ho⟩ := up_end wk A a lo n hlo h1 h2
  have hr := nb_range y m d hv
  subst ha
  refine .inr ⟨A, hA, .inr ⟨hv, .inr (.inr ⟨1, .inl ⟨hn, hn2, rfl⟩, .inl ⟨j, hj, by omega, by omega, hm, by rw [hl]; exact ho, by rw [hl], rfl⟩⟩)⟩⟩
theorem movR_upno (hA : rlA D E = some A) (hv : VD y m d) (ha : nb y m d = a) (hn : 0 < n) (hn2 : n ≤ 100000) (h : (cntO wk A (a + 1) 3652425 : Int) < n) : MovR wk D E y m d n (0, 0, 0) 35 := by
  subst ha
  exact .inr ⟨A, hA, .inr ⟨hv, .inr (.inr ⟨1, .inl ⟨hn, hn2, rfl⟩, .inr ⟨fun j _ h2 => up_none wk A _ n h j h2, rfl, rfl⟩⟩)⟩⟩
theorem movR_dn (hA : rlA D E = some A) (hv : VD y m d) (ha : nb y m d = a) (hn : n < 0) (hn2 : -100000 ≤ n) (lo : Int) (hlo : lo < a) (hlo2 : 0 ≤ lo) (h1 : (cntO wk A (lo + 1) a : Int) < -n) (h2 : -n ≤ cntO wk A lo a) : MovR wk D E y m d n (dY lo, dM lo, dD lo) 0 := by
  obtain ⟨j, hj, hl, hm, ho⟩ := dn_end wk A a lo n hlo h1 h2
  have hr := nb_range y m d hv
  subst ha
  refine .inr ⟨A, hA, .inr ⟨hv, .inr (.inr ⟨-1, .inr ⟨hn, hn2, rfl⟩, .inl ⟨j, hj, by omega, by omega, hm, by rw [hl]; exact ho, by rw [hl], rfl⟩⟩)⟩⟩
theorem movR_dnno (hA : rlA D E = some A) (hv : VD y m d) (ha : nb y m d = a) (hn : n < 0) (hn2 : -100000 ≤ n) (h : (cntO wk A 0 a : Int) < -n) : MovR wk D E y m d n (0, 0, 0) 35 := by
  subst ha
  exact .inr ⟨A, hA, .inr ⟨hv, .inr (.inr ⟨-1, .inr ⟨hn, hn2, rfl⟩, .inr ⟨fun j h1 _ => dn_none wk A _ n h j h1, rfl, rfl⟩⟩)⟩⟩
theorem mcn_hit1 {s : Int} {j k : Nat} (hj : 1 ≤ j) (hm : mcn wk A a s j = mcn wk A a s k) (ho : isOp wk A (a + j * s) = true) : j ≤ k := by
  apply Nat.le_of_not_lt
  intro h
  obtain ⟨i, rfl⟩ : ∃ i, j = i + 1 := ⟨j - 1, by omega⟩
  have h1 := mcn_succ wk A a s i
  rw [show a + ((i : Int) + 1) * s = a + ((i + 1 : Nat) : Int) * s by rw [Int.natCast_add]; rfl, if_pos ho] at h1
  have h2 := mcn_mono wk A a s k i (by omega)
  omega
/-- Move has one answer -/
theorem MovR.same {X X' : Int × Int × Int} {er er' : Int} (h : MovR wk D E y m d n X er) (h' : MovR wk D E y m d n X' er') : X = X' ∧ er = er' := by
  rcases h with ⟨hN, rfl, rfl⟩ | ⟨A, hA, h⟩
  · rcases h' with ⟨_, rfl, rfl⟩ | ⟨A', hA', _⟩
    · exact ⟨rfl, rfl⟩
    · rw [hN] at hA'; cases hA'
  rcases h' with ⟨hN, _⟩ | ⟨A', hA', h'⟩
  · rw [hN] at hA; cases hA
  rw [hA] at hA'
  cases hA'
  rcases h with ⟨hv, rfl, rfl⟩ | ⟨hv, h⟩
  · rcases h' with ⟨_, rfl, rfl⟩ | ⟨hv', _⟩
    · exact ⟨rfl, rfl⟩
    · exact absurd hv' hv
  rcases h' with ⟨hv', _⟩ | ⟨_, h'⟩
  · exact absurd hv hv'
  rcases h with ⟨hb, rfl, rfl⟩ | ⟨h0, h⟩ | ⟨s, hs, h⟩
  · rcases h' with ⟨_, rfl, rfl⟩ | ⟨h0', _⟩ | ⟨s', hs', _⟩
    · exact ⟨rfl, rfl⟩
    · omega
    · omega
  · rcases h' with ⟨hb', _⟩ | ⟨_, h'⟩ | ⟨s', hs', _⟩
    · omega
    · rcases h with ⟨ho, rfl, rfl⟩ | ⟨ho, rfl, rfl⟩ <;> rcases h' with ⟨ho', rfl, rfl⟩ | ⟨ho', rfl, rfl⟩
      · exact ⟨rfl, rfl⟩
      · rw [ho] at ho'; cases ho'
      · rw [ho] at ho'; cases ho'
      · exact ⟨rfl, rfl⟩
    · omega
  · rcases h' with ⟨hb', _⟩ | ⟨h0', _⟩ | ⟨s', hs', h'⟩
    · clear h; omega
    · clear h; omega
    · obtain rfl : s = s' := by clear h h'; omega
      rcases h with ⟨j, hj, hr1, hr2, hm, ho, rfl, rfl⟩ | ⟨hno, rfl, rfl⟩ <;> rcases h' with ⟨j', hj', hr1', hr2', hm', ho', rfl, rfl⟩ | ⟨hno', rfl, rfl⟩
      · have e1 := mcn_hit1 hj (by omega : mcn wk A (nb y m d) s j = mcn wk A (nb y m d) s j') ho
        have e2 := mcn_hit1 hj' (by omega : mcn wk A (nb y m d) s j' = mcn wk A (nb y m d) s j) ho'
        obtain rfl : j = j' := by omega
        exact ⟨rfl, rfl⟩
      · have := hno' j hr1 hr2
        omega
      · have := hno j' hr1' hr2'
        omega
      · exact ⟨rfl, rfl⟩
end
theorem CntR.same {wk : Nat → Bool} {D E : List (Int × Int × Int)} {y m d y' m' d' c er c' er' : Int} (h : CntR wk D E y m d y' m' d' c er) (h' : CntR wk D E y m d y' m' d' c' er') : c = c' ∧ er = er' := by
  rcases h with ⟨hN, rfl, rfl⟩ | ⟨A, hA, h⟩
  · rcases h' with ⟨_, rfl, rfl⟩ | ⟨A', hA', _⟩
    · exact ⟨rfl, rfl⟩
    · rw [hN] at hA'; cases hA'
  rcases h' with ⟨hN, _⟩ | ⟨A', hA', h'⟩
  · rw [hN] at hA; cases hA
  rw [hA] at hA'
  cases hA'
  rcases h with ⟨hv, rfl, rfl⟩ | ⟨hv1, hv2, hl, rfl, rfl⟩ | ⟨hv1, hv2, hl, rfl, rfl⟩ <;> rcases h' with ⟨hv', rfl, rfl⟩ | ⟨hv1', hv2', hl', rfl, rfl⟩ | ⟨hv1', hv2', hl', rfl, rfl⟩
  · exact ⟨rfl, rfl⟩
  · exact absurd ⟨hv1', hv2'⟩ hv
  · exact absurd ⟨hv1', hv2'⟩ hv
  · exact absurd ⟨hv1, hv2⟩ hv'
  · exact ⟨rfl, rfl⟩
  · omega
  · exact absurd ⟨hv1, hv2⟩ hv'
  · omega
  · exact ⟨rfl, rfl⟩
end Go.Proofs.YtipgmiblphfboaaDoor
