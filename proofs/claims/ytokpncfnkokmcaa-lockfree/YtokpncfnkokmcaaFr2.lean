/-
  Each step of a handler keeps what holds.
-/
import Derived.Test.YtokpncfnkokmcaaFr1
namespace Go.Proofs.Ytokpncfnkokmcaa
open Go.RowKit
set_option maxRecDepth 100000

theorem ind_step {S : List Int} {f g : Nat → Bool} {k : Nat} (s' : Int) (hk : k < S.length) (uq : ∀ k', k' < S.length → S.getD k' 0 = S.getD k 0 → k' = k) (hfg : ∀ k', k' < S.length → k' ≠ k → f k' = g k') (hf : f k = false) (hg : g k = true) :
    ind S s' g = ind S s' f + if s' = S.getD k 0 then 1 else 0 := by
  by_cases e : s' = S.getD k 0
  · subst e
    rw [if_pos rfl, ind_one hk rfl hg, ind_zero fun k' hk' e' => by rw [uq k' hk' e']; exact hf]
  · rw [if_neg e, Nat.add_zero]
    exact (ind_same fun k' hk' e' => hfg k' hk' (fun c => e (by rw [← e', c]))).symm
theorem FI.upd {n : Nat} {H : List Hn} {T : List Hd} (F : FI n H T) {i : Nat} {h h' : Hn} (hi : H[i]? = some h) {s : Int} (s0 : 0 ≤ s) (s1 : s < (n : Int)) (x' : Hd) (hS : h'.1 = h.1) (hok' : HOk n h')
    (mono : (tg T s).1 ≤ x'.1)
    (own : ∀ k, k < nn h → 2 * k + 1 ≤ aa h → 2 * k + 1 ≤ aa h' ∧ tt h' k = tt h k)
    (tk' : ∀ k, k < nn h → 2 * k + 1 ≤ aa h' → ¬ 2 * k + 1 ≤ aa h → ss h k = s ∧ (tg T s).1 ≤ tt h' k ∧ tt h' k < x'.1)
    (sj' : ∀ t, (tg T s).1 ≤ t → t < x'.1 → ∃ k, k < nn h ∧ 2 * k + 1 ≤ aa h' ∧ ss h k = s ∧ tt h' k = t)
    (gn' : ∀ k, k < nn h → 2 * k + 1 ≤ aa h' → (4 * nn h + k < aa h' ↔ tt h' k < (if ss h k = s then x' else tg T (ss h k)).2.1))
    (gno : ∀ j g l, H[j]? = some g → j ≠ i → l < nn g → 2 * l + 1 ≤ aa g → ss g l = s → (tt g l < (tg T s).2.1 ↔ tt g l < x'.2.1))
    (in' : ∀ k, k < nn h → 2 * k + 1 < aa h' → aa h' ≤ 4 * nn h + k → tt h' k = (if ss h k = s then x' else tg T (ss h k)).2.1)
    (ino : ∀ j g l, H[j]? = some g → j ≠ i → l < nn g → 2 * l + 1 < aa g → aa g ≤ 4 * nn g + l → ss g l = s → tt g l = x'.2.1)
    (gs' : ∀ s', (gvc s' h' : Int) = gvc s' h + if s' = s then x'.1 - (tg T s).1 else 0)
    (ls' : ∀ s', (lfc s' h' : Int) = lfc s' h + if s' = s then x'.2.1 - (tg T s).2.1 else 0)
    (qs' : ∀ s', (sqn s' h' : Int) = sqn s' h + if s' = s then x'.2.2 - (tg T s).2.2 else 0) : FI n (H.set i h') (T.set s.toNat x') := by
  have hlen : s < (T.length : Int) := by rw [F.len]; exact s1
  have hnn : nn h' = nn h := by unfold nn; rw [hS]
  have hss : ∀ k, ss h' k = ss h k := fun k => by unfold ss; rw [hS]
  have tge : ∀ {s' : Int}, 0 ≤ s' → tg (T.set s.toNat x') s' = if s' = s then x' else tg T s' := fun h0 => tg_set s0 hlen h0
  have sums : ∀ (f : Int → Hn → Nat) (s' : Int) (d : Int), (f s' h' : Int) = f s' h + d → (sm (f s') (H.set i h') : Int) = sm (f s') H + d := by
    intro f s' d e
    have := sm_set (f s') h' H i h hi
    omega
  refine ⟨by rw [List.length_set]; exact F.len, by rw [List.length_set]; exact F.few, ?_, ?_, ?_, ?_, ?_, ?_, ?_, ?_, ?_⟩
  · intro j g hj
    rcases set_some hi hj with ⟨_, rfl⟩ | ⟨_, hj⟩
    · exact hok'
    · exact F.hok j g hj
  · intro j g l hj hl ha
    rcases set_some hi hj with ⟨_, rfl⟩ | ⟨_, hj⟩
    · rw [hnn] at hl
      have hw := (F.hok i h hi).wf l hl
      rw [hss, tge hw.1]
      by_cases e : 2 * l + 1 ≤ aa h
      · have h1 := F.tk i h l hi hl e
        rw [(own l hl e).2]
        split
        · rename_i c; rw [c] at h1; omega
        · exact h1
      · obtain ⟨c, h1, h2⟩ := tk' l hl ha e
        have hg0 := F.gs s s0 s1
        rw [if_pos c]
        omega
    · have hw := (F.hok j g hj).wf l hl
      have h1 := F.tk j g l hj hl ha
      rw [tge hw.1]
      split
      · rename_i c; rw [c] at h1; omega
      · exact h1
  · intro j g l j2 g2 l2 hj hj2 hl ha hl2 ha2 es et
    have main : ∀ (l : Nat) (j2 : Nat) (g2 : Hn) (l2 : Nat), H[j2]? = some g2 → j2 ≠ i → l < nn h → 2 * l + 1 ≤ aa h' → l2 < nn g2 → 2 * l2 + 1 ≤ aa g2 → ss h l = ss g2 l2 → tt h' l = tt g2 l2 → False := by
      intro l j2 g2 l2 hj2 hne hl ha hl2 ha2 es et
      by_cases e : 2 * l + 1 ≤ aa h
      · rw [(own l hl e).2] at et
        exact hne (F.ds i h l j2 g2 l2 hi hj2 hl e hl2 ha2 es et).symm
      · obtain ⟨c, h1, _⟩ := tk' l hl ha e
        have h2 := F.tk j2 g2 l2 hj2 hl2 ha2
        rw [← es, c] at h2
        omega
    rcases set_some hi hj with ⟨c1, c2⟩ | ⟨hne, hj0⟩
    · rcases set_some hi hj2 with ⟨c3, _⟩ | ⟨hne2, hj20⟩
      · rw [c1, c3]
      · rw [c2, hnn] at hl
        rw [c2, hss] at es
        rw [c2] at ha et
        exact (main l j2 g2 l2 hj20 hne2 hl ha hl2 ha2 es et).elim
    · rcases set_some hi hj2 with ⟨_, c4⟩ | ⟨_, hj20⟩
      · rw [c4, hnn] at hl2
        rw [c4, hss] at es
        rw [c4] at ha2 et
        exact (main l2 j g l hj0 hne hl2 ha2 hl ha es.symm et.symm).elim
      · exact F.ds j g l j2 g2 l2 hj0 hj20 hl ha hl2 ha2 es et
  · intro s' h0 h1 t t0 t1
    rw [tge h0] at t1
    have old : t < (tg T s').1 → ∃ (i' : Nat) (h2 : Hn) (k : Nat), (H.set i h')[i']? = some h2 ∧ k < nn h2 ∧ 2 * k + 1 ≤ aa h2 ∧ ss h2 k = s' ∧ tt h2 k = t := by
      intro t1
      obtain ⟨j, g, l, hj, hl, ha, es, et⟩ := F.sj s' h0 h1 t t0 t1
      by_cases e : j = i
      · subst e
        rw [hi] at hj
        cases hj
        obtain ⟨o1, o2⟩ := own l hl ha
        exact ⟨j, h', l, set_self hi, by rw [hnn]; exact hl, o1, by rw [hss]; exact es, by rw [o2]; exact et⟩
      · exact ⟨j, g, l, by rw [set_other e]; exact hj, hl, ha, es, et⟩
    split at t1
    · rename_i c
      subst c
      by_cases e : t < (tg T s').1
      · exact old e
      · obtain ⟨k, k1, k2, k3, k4⟩ := sj' t (by omega) t1
        exact ⟨i, h', k, set_self hi, by rw [hnn]; exact k1, k2, by rw [hss]; exact k3, k4⟩
    · exact old t1
  · intro j g l hj hl ha
    rcases set_some hi hj with ⟨_, rfl⟩ | ⟨hne, hj⟩
    · rw [hnn] at hl
      rw [hss, tge ((F.hok i h hi).wf l hl).1, hnn]
      exact gn' l hl ha
    · rw [tge ((F.hok j g hj).wf l hl).1]
      have h1 := F.gn j g l hj hl ha
      split
      · rename_i c
        rw [c] at h1
        exact h1.trans (gno j g l hj hne hl ha c)
      · exact h1
  · intro j g l hj hl a1 a2
    rcases set_some hi hj with ⟨_, rfl⟩ | ⟨hne, hj⟩
    · rw [hnn] at hl a2
      rw [hss, tge ((F.hok i h hi).wf l hl).1]
      exact in' l hl a1 a2
    · rw [tge ((F.hok j g hj).wf l hl).1]
      split
      · rename_i c
        exact ino j g l hj hne hl a1 a2 c
      · exact F.ins j g l hj hl a1 a2
  · intro s' h0 h1
    rw [tge h0, sums gvc s' _ (gs' s')]
    have := F.gs s' h0 h1
    split
    · rename_i c; subst c; omega
    · omega
  · intro s' h0 h1
    rw [tge h0, sums lfc s' _ (ls' s')]
    have := F.ls s' h0 h1
    split
    · rename_i c; subst c; omega
    · omega
  · intro s' h0 h1
    rw [tge h0, sums sqn s' _ (qs' s')]
    have := F.qs s' h0 h1
    split
    · rename_i c; subst c; omega
    · omega
end Go.Proofs.Ytokpncfnkokmcaa
