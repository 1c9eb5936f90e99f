/-
  Few: what it goes over are the mixes with few switches, in order (pure).
-/
import Derived.Test.YtaiccmbhdgecgaaGw1
import Derived.Test.YtaiccmbhdgecgaaMn9
import Derived.Test.YtaiccmbhdgecgaaSw2
namespace Go.Proofs.Ytaiccmbhdgecgaa
set_option maxRecDepth 100000

/-- all mixes, in order -/
def AL : Nat → List Nat → List (List Nat)
  | 0, _ => [[]]
  | s + 1, N => (List.range N.length).flatMap fun h => if N.getD h 0 = 0 then [] else (AL s (less N h)).map (h :: ·)
/-- the switches of a list behind a pick of last, where N is left -/
def swc : List Nat → Int → List Nat → Nat
  | _, _, [] => 0
  | N, last, h :: x => (if asd (iN N) last h then 1 else 0) + swc (less N h) (h : Int) x
theorem filter_flat {α β : Type} (p : β → Bool) (f : α → List β) : ∀ l : List α, (l.flatMap f).filter p = l.flatMap fun a => (f a).filter p
  | [] => rfl
  | a :: l => by rw [List.flatMap_cons, List.flatMap_cons, List.filter_append, filter_flat p f l]
theorem flat_congr {α β : Type} {f g : α → List β} : ∀ {l : List α}, (∀ a ∈ l, f a = g a) → l.flatMap f = l.flatMap g
  | [], _ => rfl
  | a :: l, h => by rw [List.flatMap_cons, List.flatMap_cons, h a (by simp), flat_congr (fun b hb => h b (by simp [hb]))]
theorem FL_is : ∀ (s : Nat) (N : List Nat) (last sp : Int), 0 ≤ sp → FL s N last sp = (AL s N).filter fun x => decide (((swc N last x : Nat) : Int) ≤ sp)
  | 0, N, last, sp, h0 => by
    show [[]] = List.filter _ [[]]
    rw [List.filter_cons_of_pos (by exact decide_eq_true (show ((0 : Nat) : Int) ≤ sp from h0))]
    rfl
  | s + 1, N, last, sp, h0 => by
    show (List.range N.length).flatMap _ = List.filter _ ((List.range N.length).flatMap _)
    rw [filter_flat]
    refine flat_congr fun h _ => ?_
    unfold may
    by_cases hz : N.getD h 0 = 0
    · rw [if_pos hz, decide_eq_true hz]
      simp
    · rw [if_neg hz, decide_eq_false hz, List.filter_map]
      have e1 : ∀ x : List Nat, ((fun x => decide (((swc N last x : Nat) : Int) ≤ sp)) ∘ (h :: ·)) x = decide (((swc (less N h) (h : Int) x : Nat) : Int) ≤ spr N last sp h) := by
        intro x
        show decide ((((if asd (iN N) last h then 1 else 0) + swc (less N h) (h : Int) x : Nat) : Int) ≤ sp) = _
        unfold spr
        by_cases ha : asd (iN N) last h = true
        · rw [if_pos ha, if_pos ha]
          congr 1
          apply propext
          constructor <;> intro <;> omega
        · rw [if_neg ha, if_neg ha]
          congr 1
          apply propext
          constructor <;> intro <;> omega
      by_cases hn : spr N last sp h < 0
      · rw [decide_eq_true hn]
        have : (AL s (less N h)).filter ((fun x => decide (((swc N last x : Nat) : Int) ≤ sp)) ∘ (h :: ·)) = [] := by
          rw [List.filter_eq_nil_iff]
          intro x _
          rw [e1 x, decide_eq_false (by omega)]
          decide
        rw [this]
        simp
      · rw [decide_eq_false hn, FL_is s (less N h) (h : Int) (spr N last sp h) (by omega)]
        have : ((fun x => decide (((swc N last x : Nat) : Int) ≤ sp)) ∘ (h :: ·)) = fun x => decide (((swc (less N h) (h : Int) x : Nat) : Int) ≤ spr N last sp h) := funext e1
        rw [this]
        rfl
/-- those that begin with one of the first handlers -/
def AP (s : Nat) (N : List Nat) (h : Nat) : List (List Nat) := (List.range h).flatMap fun h => if N.getD h 0 = 0 then [] else (AL s (less N h)).map (h :: ·)
theorem AP_up (s : Nat) (N : List Nat) (h : Nat) : AP s N (h + 1) = AP s N h ++ (if N.getD h 0 = 0 then [] else (AL s (less N h)).map (h :: ·)) := by
  unfold AP
  rw [List.range_succ, List.flatMap_append]
  simp
theorem AP_pre (s : Nat) (N : List Nat) : ∀ {i j : Nat}, i ≤ j → ∃ T, AP s N j = AP s N i ++ T := by
  intro i j h
  induction h with
  | refl => exact ⟨[], by simp⟩
  | step _ ih =>
    obtain ⟨T, hT⟩ := ih
    exact ⟨_, by rw [AP_up, hT, List.append_assoc]⟩
theorem AL_len : ∀ (s : Nat) (N : List Nat), tN2 N = s → s ≤ 24 → (AL s N).length = mN N ∧ ∀ h, h ≤ N.length → ∀ s', s = s' + 1 → (AP s' N h).length = bS N h
  | 0, N, hs, _ => by
    refine ⟨?_, fun h _ s' e => by cases e⟩
    have h := cN_pf N N.length (by unfold tN2 at hs; omega)
    have e : mN N * pf N N.length = 1 := by
      have : sN N N.length = 0 := hs
      rw [this] at h
      exact h
    exact (Nat.eq_one_of_mul_eq_one_right e).symm
  | s + 1, N, hs, h24 => by
    have key : ∀ h, h ≤ N.length → (AP s N h).length = bS N h := by
      intro h
      induction h with
      | zero => intro _; rfl
      | succ h ih =>
        intro hh
        rw [AP_up, List.length_append, ih (by omega)]
        show bS N h + _ = bS N h + bg N h
        congr 1
        have hb := bg_mul N h (by omega) (by omega) (by omega)
        by_cases hz : N.getD h 0 = 0
        · rw [if_pos hz, hb.2.1 hz]
          rfl
        · rw [if_neg hz, List.length_map, (AL_len s (less N h) (by have := (mN_less N h (by omega) (by omega) (by omega)).2; omega) (by omega)).1, hb.2.2 (by omega)]
    refine ⟨?_, fun h hh s' e => by cases e; exact key h hh⟩
    show (AP s N N.length).length = _
    rw [key _ (Nat.le_refl _), bS_all N (by omega) (by omega)]
theorem AL_at : ∀ (s : Nat) (N : List Nat) (n : Nat) (L : List Nat), tN2 N = s → s ≤ 24 → Mx N n L → (AL s N)[n]? = some L
  | 0, N, n, [], hs, h24, m => by rw [m.2]; rfl
  | 0, N, n, h :: L, hs, h24, m => by
    have h1 := getD_le N h m.1
    have h2 := m.2.1
    omega
  | s + 1, N, n, [], hs, h24, m => by
    have := m.1
    omega
  | s + 1, N, n, h :: L, hs, h24, m => by
    obtain ⟨m1, m2, m3, m4, m5⟩ := m
    have ht := (mN_less N h m1 m2 (by omega)).2
    have ih := AL_at s (less N h) (n - bS N h) L (by omega) (by omega) m4
    have hl := (AL_len (s + 1) N hs h24).2 h (by omega) s rfl
    show (AP s N N.length)[n]? = _
    obtain ⟨T, hT⟩ := AP_pre s N (show h + 1 ≤ N.length from m1)
    rw [hT, AP_up, if_neg (by omega), List.append_assoc, List.getElem?_append_right (by omega), hl, List.getElem?_append_left (by
      rw [List.length_map]
      exact (List.getElem?_eq_some_iff.1 ih).1), List.getElem?_map, ih]
    rfl
/-- each of them is the mix of its number -/
theorem AL_mx (s : Nat) (N : List Nat) (hs : tN2 N = s) (h24 : s ≤ 24) (n : Nat) (L : List Nat) (h : (AL s N)[n]? = some L) : Mx N n L := by
  have hn : n < mN N := by
    rw [← (AL_len s N hs h24).1]
    exact (List.getElem?_eq_some_iff.1 h).1
  obtain ⟨M, hM, _⟩ := mx_ex s N n hs h24 hn
  have := AL_at s N n M hs h24 hM
  rw [h] at this
  injection this with e
  rw [e]
  exact hM
/-- the switches of a mix, as Switches counts them -/
theorem swc_is : ∀ (m : Nat) (L : List Nat), (∀ x ∈ L, x < 16) → ∀ (j : Nat) (N : List Nat) (last : Int), j + m = L.length → (∀ i, N.getD i 0 = (L.drop j).count i) → (∀ x ∈ L.drop j, x < N.length) → (last = if j = 0 then -1 else ((L.getD (j - 1) 0 : Nat) : Int)) → swc N last (L.drop j) + cS L j = cS L L.length
  | 0, L, hL, j, N, last, hj, hc, hin, hl => by
    obtain rfl : j = L.length := by omega
    rw [List.drop_length]
    show 0 + _ = _
    omega
  | m + 1, L, hL, j, N, last, hj, hc, hin, hl => by
    have hjl : j < L.length := by omega
    have hd : L.drop j = L[j] :: L.drop (j + 1) := List.drop_eq_getElem_cons hjl
    have hx : L[j] < N.length := hin L[j] (by rw [hd]; exact List.mem_cons_self)
    have h1 : 1 ≤ N.getD L[j] 0 := by rw [hc, hd, List.count_cons, if_pos (by simp)]; omega
    have ih := swc_is m L hL (j + 1) (less N L[j]) ((L[j] : Nat) : Int) (by omega) (fun i => by
      rw [less_at N L[j] i hx]
      have := hc i
      rw [hd, List.count_cons] at this
      by_cases e : i = L[j]
      · subst e
        rw [if_pos rfl]
        rw [if_pos (by simp)] at this
        omega
      · rw [if_neg e]
        rw [if_neg (by simpa using fun e2 => e e2.symm)] at this
        omega) (fun x hx2 => by rw [less_len]; exact hin x (by rw [hd]; exact List.mem_cons_of_mem _ hx2)) (by rw [if_neg (by omega), Nat.add_sub_cancel, gN L j hjl])
    rw [hd]
    show (if asd (iN N) last L[j] then 1 else 0) + swc (less N L[j]) ((L[j] : Nat) : Int) (L.drop (j + 1)) + cS L j = _
    have hcs : cS L (j + 1) = if cb L j then cS L j + 1 else cS L j := rfl
    have e : asd (iN N) last L[j] = cb L j := by
      rw [hl]
      unfold asd cb
      by_cases h0 : j = 0
      · subst h0
        simp
      · rw [if_neg h0, Int.toNat_natCast, iN_getD, hc, decide_eq_true (show (0 : Int) ≤ ((L.getD (j - 1) 0 : Nat) : Int) by omega), decide_eq_true (show 1 ≤ j by omega), gN L j hjl, Bool.true_and, Bool.true_and]
        congr 1
        · by_cases e3 : L.getD (j - 1) 0 = L[j]
          · rw [e3]; simp
          · rw [decide_eq_false (show ¬ ((L.getD (j - 1) 0 : Nat) : Int) = ((L[j] : Nat) : Int) by omega), decide_eq_true e3]
            rfl
        · by_cases e4 : 0 < (L.drop j).count (L.getD (j - 1) 0)
          · rw [decide_eq_true e4, decide_eq_true (by omega)]
          · rw [decide_eq_false e4, decide_eq_false (by omega)]
    rw [e]
    by_cases hb : cb L j = true
    · rw [if_pos hb] at hcs ⊢
      omega
    · rw [if_neg hb] at hcs ⊢
      omega
theorem swc_mx {N : List Nat} {n : Nat} {L : List Nat} (h : Mx N n L) (hl : N.length ≤ 16) : swc N (-1) L = cS L L.length := by
  have hin := mx_in h
  have := swc_is L.length L (fun x hx => Nat.lt_of_lt_of_le (hin x hx) hl) 0 N (-1) (by omega) (fun i => by rw [List.drop_zero]; exact (mx_count h i).symm) (fun x hx => hin x (by rwa [List.drop_zero] at hx)) rfl
  rw [List.drop_zero] at this
  exact this
end Go.Proofs.Ytaiccmbhdgecgaa
