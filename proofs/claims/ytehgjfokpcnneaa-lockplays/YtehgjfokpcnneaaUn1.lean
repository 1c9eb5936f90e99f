/-
  Two tables side by side, the program's and the document's, and what they answer, whether they are there or not.
-/
import Derived.Test.YtehgjfokpcnneaaRt2
namespace Go.Proofs.Ytehgjfokpcnneaa
open Go.RowKit
set_option maxRecDepth 100000

abbrev OS := Option (List Hd)
/-- a table, or none -/
def TN (tt rt : TypeId) (w : World) (base d hb : Nat) (p : Value) (o : OS) : Prop :=
  match o with
  | none => p = .pointer none
  | some S => p = .pointer (some ⟨d, 0, none⟩) ∧ TB tt rt w base d hb S
/-- the blocks that its calls write -/
def own (hb : Nat) (o : OS) : Nat → Prop := fun k => o.isSome = true ∧ k = hb
/-- its stripe s -/
def atO (o : OS) (s : Int) : Option Hd :=
  match o with
  | none => none
  | some S => if 0 ≤ s ∧ s < (S.length : Int) then some (S.getD s.toNat (0, 0, 0)) else none
def erO (o : OS) : Int := if o.isSome then 80 else 0
def upO (o : OS) (s : Int) (x : Hd) : OS := o.map (·.set s.toNat x)
def hoO (o : OS) (s t par : Int) : Int := match atO o s with | none => erO o | some x => hoE x t par
def ctO (o : OS) (s t par : Int) : OS := match atO o s with | none => o | some x => upO o s (ctX x t par)
def lvO (o : OS) (s t : Int) : OS := match atO o s with | none => o | some x => upO o s (lvX x t)
def tkO (o : OS) (s : Int) : OS := match atO o s with | none => o | some x => upO o s (tkX x)
def tnO (o : OS) (s : Int) : Int := match atO o s with | none => 0 | some x => tkN x
def teO (o : OS) (s : Int) : Int := match atO o s with | none => erO o | some x => tkE x
def svO (o : OS) (s t : Int) : Bool := match atO o s with | none => false | some x => svd x t
def sqO (o : OS) (s : Int) : Int := match atO o s with | none => 0 | some x => x.2.2
def wtO (o : OS) (s : Int) : Int := match atO o s with | none => 0 | some x => x.1 - x.2.1
def lnO (o : OS) : Int := match o with | none => 0 | some S => (S.length : Int)
theorem atO_in (S : List Hd) (i : Nat) (h : i < S.length) : atO (some S) (i : Int) = some S[i] := by
  show (if 0 ≤ (i : Int) ∧ (i : Int) < (S.length : Int) then some (S.getD (i : Int).toNat (0, 0, 0)) else none) = some S[i]
  rw [if_pos ⟨by omega, by omega⟩, Int.toNat_natCast, List.getD_eq_getElem?_getD, List.getElem?_eq_getElem h]
  rfl
theorem atO_out (S : List Hd) (s : Int) (h : ¬ (0 ≤ s ∧ s < (S.length : Int))) : atO (some S) s = none := by
  show (if 0 ≤ s ∧ s < (S.length : Int) then some (S.getD s.toNat (0, 0, 0)) else none) = none
  rw [if_neg h]
theorem upO_in (S : List Hd) (i : Nat) (x : Hd) : upO (some S) (i : Int) x = some (S.set i x) := by simp [upO]
/-- no counter is above k -/
def bdO (o : OS) (k : Int) : Prop := ∀ s x, atO o s = some x → x.2.2 ≤ k
theorem bdO.mono {o : OS} {k k' : Int} (h : bdO o k) (hk : k ≤ k') : bdO o k' := fun s x hx => Int.le_trans (h s x hx) hk
theorem atO_up {o : OS} {s s' : Int} {x y x0 : Hd} (h0 : atO o s = some x0) (h : atO (upO o s x) s' = some y) : (s' = s ∧ y = x) ∨ (s' ≠ s ∧ atO o s' = some y) := by
  cases o with
  | none => simp [atO] at h0
  | some S =>
    simp only [atO, upO, Option.map_some, List.length_set] at h0 h ⊢
    split at h
    · rename_i hs'
      split at h0
      · rename_i hs
        by_cases e : s' = s
        · subst e
          left
          refine ⟨rfl, ?_⟩
          rw [List.getD_eq_getElem?_getD, List.getElem?_set_self (by omega)] at h
          simpa using h.symm
        · right
          refine ⟨e, ?_⟩
          rw [if_pos hs']
          rw [List.getD_eq_getElem?_getD, List.getElem?_set_ne (by omega)] at h
          rw [List.getD_eq_getElem?_getD]
          exact h
      · cases h0
    · cases h
theorem bdO.up {o : OS} {k : Int} (h : bdO o k) {s : Int} {x0 x : Hd} (h0 : atO o s = some x0) (hx : x.2.2 ≤ k + 1) : bdO (upO o s x) (k + 1) := by
  intro s' y hy
  rcases atO_up h0 hy with ⟨_, rfl⟩ | ⟨_, e⟩
  · exact hx
  · have := h s' y e; omega
theorem bdO.ct {o : OS} {k : Int} (h : bdO o k) (s t par : Int) : bdO (ctO o s t par) (k + 1) := by
  unfold ctO
  split
  · exact h.mono (by omega)
  · rename_i x hx
    refine h.up hx ?_
    have := h s x hx
    unfold ctX
    split <;> first | omega | (simp only; omega)
theorem bdO.lv {o : OS} {k : Int} (h : bdO o k) (s t : Int) : bdO (lvO o s t) (k + 1) := by
  unfold lvO
  split
  · exact h.mono (by omega)
  · rename_i x hx
    refine h.up hx ?_
    have := h s x hx
    unfold lvX
    split <;> first | omega | (simp only; omega)
theorem bdO.tk {o : OS} {k : Int} (h : bdO o k) (s : Int) : bdO (tkO o s) (k + 1) := by
  unfold tkO
  split
  · exact h.mono (by omega)
  · rename_i x hx
    refine h.up hx ?_
    have := h s x hx
    unfold tkX
    split <;> first | omega | (simp only; omega)
/-- a Leave that is let: the stripe is one of 64 -/
theorem hoO_ok {o : OS} {s t par : Int} (h0 : o.isSome = true) (h : hoO o s t par = 0) (hn : lnO o ≤ 64) : 0 ≤ s ∧ s < 64 := by
  unfold hoO atO erO at h
  cases o with
  | none => simp at h0
  | some S =>
    simp only at h
    unfold lnO at hn
    simp only at hn
    split at h
    · simp at h
    · rename_i hx
      split at hx
      · omega
      · cases hx
theorem lnO_up (o : OS) (s : Int) (x : Hd) : lnO (upO o s x) = lnO o := by cases o <;> simp [lnO, upO]
theorem lnO_ct (o : OS) (s t par : Int) : lnO (ctO o s t par) = lnO o := by unfold ctO; split <;> simp [lnO_up]
theorem lnO_lv (o : OS) (s t : Int) : lnO (lvO o s t) = lnO o := by unfold lvO; split <;> simp [lnO_up]
theorem lnO_tk (o : OS) (s : Int) : lnO (tkO o s) = lnO o := by unfold tkO; split <;> simp [lnO_up]
theorem some_up (o : OS) (s : Int) (x : Hd) : (upO o s x).isSome = o.isSome := by cases o <;> simp [upO]
theorem some_ct (o : OS) (s t par : Int) : (ctO o s t par).isSome = o.isSome := by unfold ctO; split <;> simp [some_up]
theorem some_lv (o : OS) (s t : Int) : (lvO o s t).isSome = o.isSome := by unfold lvO; split <;> simp [some_up]
theorem some_tk (o : OS) (s : Int) : (tkO o s).isSome = o.isSome := by unfold tkO; split <;> simp [some_up]
theorem TN.below {tt rt : TypeId} {w w' : World} {base d hb : Nat} {p : Value} {o : OS} (h : TN tt rt w base d hb p o) (k : Below w.heap.size w w') : TN tt rt w' base d hb p o := by
  cases o with
  | none => exact h
  | some S => exact ⟨h.1, h.2.below k⟩
theorem own_kw {hb : Nat} {o : OS} {w w' : World} (S : List Hd) (e : o = some S) (h : Kw (fun k => k = hb) w w') : Kw (own hb o) w w' := h.mono (fun k _ hk => ⟨by rw [e]; rfl, hk⟩)
theorem pticket_un (s : Int) {w : World} {base d hb : Nat} {p : Value} {o : OS} (H : TN 56 60 w base d hb p o) :
    Calls Try.prog 11 #[p, .int .i64 s] w fun e w' => e = .returned (.tuple #[.int .i64 (tnO o s), .int .i64 (teO o s)]) ∧ TN 56 60 w' base d hb p (tkO o s) ∧ Kw (own hb o) w w' := by
  cases o with
  | none =>
    subst H
    refine (ticket_nil s w).mono fun e w' h => ?_
    obtain ⟨rfl, rfl⟩ := h; exact ⟨rfl, rfl, Kw.refl _ _⟩
  | some S =>
    obtain ⟨rfl, H⟩ := H
    by_cases hi : 0 ≤ s ∧ s < (S.length : Int)
    · obtain ⟨i, rfl⟩ : ∃ i : Nat, s = (i : Int) := ⟨s.toNat, by omega⟩
      have hi' : i < S.length := by omega
      have e := atO_in S i hi'
      refine (ticket_in i w H hi').mono fun e' w' h => ?_
      unfold tkO tnO teO
      rw [e]
      refine ⟨h.1, ?_, own_kw S rfl h.2.2⟩
      simp only [upO_in]
      exact ⟨rfl, h.2.1⟩
    · have e := atO_out S s hi
      refine (ticket_out s w H hi).mono fun e' w' h => ?_
      unfold tkO tnO teO
      rw [e]
      obtain ⟨rfl, rfl⟩ := h; exact ⟨rfl, ⟨rfl, H⟩, Kw.refl _ _⟩
theorem pleave_un (s t : Int) {w : World} {base d hb : Nat} {p : Value} {o : OS} (H : TN 56 60 w base d hb p o) :
    Calls Try.prog 13 #[p, .int .i64 s, .int .i64 t] w fun e w' => e = .returned (.int .i64 (hoO o s t 0)) ∧ TN 56 60 w' base d hb p (lvO o s t) ∧ Kw (own hb o) w w' := by
  cases o with
  | none =>
    subst H
    refine (leave_nil s t w).mono fun e w' h => ?_
    obtain ⟨rfl, rfl⟩ := h; exact ⟨rfl, rfl, Kw.refl _ _⟩
  | some S =>
    obtain ⟨rfl, H⟩ := H
    by_cases hi : 0 ≤ s ∧ s < (S.length : Int)
    · obtain ⟨i, rfl⟩ : ∃ i : Nat, s = (i : Int) := ⟨s.toNat, by omega⟩
      have hi' : i < S.length := by omega
      have e := atO_in S i hi'
      refine (leave_in i t w H hi').mono fun e' w' h => ?_
      unfold lvO hoO
      rw [e]
      refine ⟨h.1, ?_, own_kw S rfl h.2.2⟩
      simp only [upO_in]
      exact ⟨rfl, h.2.1⟩
    · have e := atO_out S s hi
      refine (leave_out s t w H hi).mono fun e' w' h => ?_
      unfold lvO hoO
      rw [e]
      obtain ⟨rfl, rfl⟩ := h; exact ⟨rfl, ⟨rfl, H⟩, Kw.refl _ _⟩
theorem podd_un (s t : Int) {w : World} {base d hb : Nat} {p : Value} {o : OS} (H : TN 56 60 w base d hb p o) (hq : ∀ x, atO o s = some x → x.2.2 < 4611686018427387904) :
    Calls Try.prog 14 #[p, .int .i64 s, .int .i64 t] w fun e w' => e = .returned (.int .i64 (hoO o s t 0)) ∧ TN 56 60 w' base d hb p (ctO o s t 0) ∧ Kw (own hb o) w w' := by
  cases o with
  | none =>
    subst H
    refine (odd_nil s t w).mono fun e w' h => ?_
    obtain ⟨rfl, rfl⟩ := h; exact ⟨rfl, rfl, Kw.refl _ _⟩
  | some S =>
    obtain ⟨rfl, H⟩ := H
    by_cases hi : 0 ≤ s ∧ s < (S.length : Int)
    · obtain ⟨i, rfl⟩ : ∃ i : Nat, s = (i : Int) := ⟨s.toNat, by omega⟩
      have hi' : i < S.length := by omega
      have e := atO_in S i hi'
      refine (odd_in i t w H hi' (hq _ e)).mono fun e' w' h => ?_
      unfold ctO hoO
      rw [e]
      refine ⟨h.1, ?_, own_kw S rfl h.2.2⟩
      simp only [upO_in]
      exact ⟨rfl, h.2.1⟩
    · have e := atO_out S s hi
      refine (odd_out s t w H hi).mono fun e' w' h => ?_
      unfold ctO hoO
      rw [e]
      obtain ⟨rfl, rfl⟩ := h; exact ⟨rfl, ⟨rfl, H⟩, Kw.refl _ _⟩
theorem peven_un (s t : Int) {w : World} {base d hb : Nat} {p : Value} {o : OS} (H : TN 56 60 w base d hb p o) (hq : ∀ x, atO o s = some x → x.2.2 < 4611686018427387904) :
    Calls Try.prog 15 #[p, .int .i64 s, .int .i64 t] w fun e w' => e = .returned (.int .i64 (hoO o s t 1)) ∧ TN 56 60 w' base d hb p (ctO o s t 1) ∧ Kw (own hb o) w w' := by
  cases o with
  | none =>
    subst H
    refine (even_nil s t w).mono fun e w' h => ?_
    obtain ⟨rfl, rfl⟩ := h; exact ⟨rfl, rfl, Kw.refl _ _⟩
  | some S =>
    obtain ⟨rfl, H⟩ := H
    by_cases hi : 0 ≤ s ∧ s < (S.length : Int)
    · obtain ⟨i, rfl⟩ : ∃ i : Nat, s = (i : Int) := ⟨s.toNat, by omega⟩
      have hi' : i < S.length := by omega
      have e := atO_in S i hi'
      refine (even_in i t w H hi' (hq _ e)).mono fun e' w' h => ?_
      unfold ctO hoO
      rw [e]
      refine ⟨h.1, ?_, own_kw S rfl h.2.2⟩
      simp only [upO_in]
      exact ⟨rfl, h.2.1⟩
    · have e := atO_out S s hi
      refine (even_out s t w H hi).mono fun e' w' h => ?_
      unfold ctO hoO
      rw [e]
      obtain ⟨rfl, rfl⟩ := h; exact ⟨rfl, ⟨rfl, H⟩, Kw.refl _ _⟩
theorem pserved_un (s t : Int) {w : World} {base d hb : Nat} {p : Value} {o : OS} (H : TN 56 60 w base d hb p o) :
    Calls Try.prog 12 #[p, .int .i64 s, .int .i64 t] w fun e w' => e = .returned (.bool (svO o s t)) ∧ TN 56 60 w' base d hb p (o) ∧ Kw (own hb o) w w' := by
  cases o with
  | none =>
    subst H
    refine (served_nil s t w).mono fun e w' h => ?_
    obtain ⟨rfl, rfl⟩ := h; exact ⟨rfl, rfl, Kw.refl _ _⟩
  | some S =>
    obtain ⟨rfl, H⟩ := H
    by_cases hi : 0 ≤ s ∧ s < (S.length : Int)
    · obtain ⟨i, rfl⟩ : ∃ i : Nat, s = (i : Int) := ⟨s.toNat, by omega⟩
      have hi' : i < S.length := by omega
      have e := atO_in S i hi'
      refine (served_in i t w H hi').mono fun e' w' h => ?_
      unfold svO
      rw [e]
      exact ⟨h.1, ⟨rfl, H.below h.2⟩, Kw.below h.2⟩
    · have e := atO_out S s hi
      refine (served_out s t w H hi).mono fun e' w' h => ?_
      unfold svO
      rw [e]
      obtain ⟨rfl, rfl⟩ := h; exact ⟨rfl, ⟨rfl, H⟩, Kw.refl _ _⟩
theorem pseq_un (s : Int) {w : World} {base d hb : Nat} {p : Value} {o : OS} (H : TN 56 60 w base d hb p o) :
    Calls Try.prog 17 #[p, .int .i64 s] w fun e w' => e = .returned (.int .i64 (sqO o s)) ∧ TN 56 60 w' base d hb p (o) ∧ Kw (own hb o) w w' := by
  cases o with
  | none =>
    subst H
    refine (seq_nil s w).mono fun e w' h => ?_
    obtain ⟨rfl, rfl⟩ := h; exact ⟨rfl, rfl, Kw.refl _ _⟩
  | some S =>
    obtain ⟨rfl, H⟩ := H
    by_cases hi : 0 ≤ s ∧ s < (S.length : Int)
    · obtain ⟨i, rfl⟩ : ∃ i : Nat, s = (i : Int) := ⟨s.toNat, by omega⟩
      have hi' : i < S.length := by omega
      have e := atO_in S i hi'
      refine (seq_in i w H hi').mono fun e' w' h => ?_
      unfold sqO
      rw [e]
      obtain ⟨rfl, rfl⟩ := h; exact ⟨rfl, ⟨rfl, H⟩, Kw.refl _ _⟩
    · have e := atO_out S s hi
      refine (seq_out s w H hi).mono fun e' w' h => ?_
      unfold sqO
      rw [e]
      obtain ⟨rfl, rfl⟩ := h; exact ⟨rfl, ⟨rfl, H⟩, Kw.refl _ _⟩
theorem pwaiting_un (s : Int) {w : World} {base d hb : Nat} {p : Value} {o : OS} (H : TN 56 60 w base d hb p o) :
    Calls Try.prog 16 #[p, .int .i64 s] w fun e w' => e = .returned (.int .i64 (wtO o s)) ∧ TN 56 60 w' base d hb p (o) ∧ Kw (own hb o) w w' := by
  cases o with
  | none =>
    subst H
    refine (waiting_nil s w).mono fun e w' h => ?_
    obtain ⟨rfl, rfl⟩ := h; exact ⟨rfl, rfl, Kw.refl _ _⟩
  | some S =>
    obtain ⟨rfl, H⟩ := H
    by_cases hi : 0 ≤ s ∧ s < (S.length : Int)
    · obtain ⟨i, rfl⟩ : ∃ i : Nat, s = (i : Int) := ⟨s.toNat, by omega⟩
      have hi' : i < S.length := by omega
      have e := atO_in S i hi'
      refine (waiting_in i w H hi').mono fun e' w' h => ?_
      unfold wtO
      rw [e]
      exact ⟨h.1, ⟨rfl, H.below h.2⟩, Kw.below h.2⟩
    · have e := atO_out S s hi
      refine (waiting_out s w H hi).mono fun e' w' h => ?_
      unfold wtO
      rw [e]
      obtain ⟨rfl, rfl⟩ := h; exact ⟨rfl, ⟨rfl, H⟩, Kw.refl _ _⟩
theorem rticket_un (s : Int) {w : World} {base d hb : Nat} {p : Value} {o : OS} (H : TN 66 68 w base d hb p o) :
    Calls Try.prog 25 #[p, .int .i64 s] w fun e w' => e = .returned (.tuple #[.int .i64 (tnO o s), .int .i64 (teO o s)]) ∧ TN 66 68 w' base d hb p (tkO o s) ∧ Kw (own hb o) w w' := by
  cases o with
  | none =>
    subst H
    refine (rticket_nil s w).mono fun e w' h => ?_
    obtain ⟨rfl, rfl⟩ := h; exact ⟨rfl, rfl, Kw.refl _ _⟩
  | some S =>
    obtain ⟨rfl, H⟩ := H
    by_cases hi : 0 ≤ s ∧ s < (S.length : Int)
    · obtain ⟨i, rfl⟩ : ∃ i : Nat, s = (i : Int) := ⟨s.toNat, by omega⟩
      have hi' : i < S.length := by omega
      have e := atO_in S i hi'
      refine (rticket_in i w H hi').mono fun e' w' h => ?_
      unfold tkO tnO teO
      rw [e]
      refine ⟨h.1, ?_, own_kw S rfl h.2.2⟩
      simp only [upO_in]
      exact ⟨rfl, h.2.1⟩
    · have e := atO_out S s hi
      refine (rticket_out s w H hi).mono fun e' w' h => ?_
      unfold tkO tnO teO
      rw [e]
      obtain ⟨rfl, rfl⟩ := h; exact ⟨rfl, ⟨rfl, H⟩, Kw.refl _ _⟩
theorem rleave_un (s t : Int) {w : World} {base d hb : Nat} {p : Value} {o : OS} (H : TN 66 68 w base d hb p o) :
    Calls Try.prog 27 #[p, .int .i64 s, .int .i64 t] w fun e w' => e = .returned (.int .i64 (hoO o s t 0)) ∧ TN 66 68 w' base d hb p (lvO o s t) ∧ Kw (own hb o) w w' := by
  cases o with
  | none =>
    subst H
    refine (rleave_nil s t w).mono fun e w' h => ?_
    obtain ⟨rfl, rfl⟩ := h; exact ⟨rfl, rfl, Kw.refl _ _⟩
  | some S =>
    obtain ⟨rfl, H⟩ := H
    by_cases hi : 0 ≤ s ∧ s < (S.length : Int)
    · obtain ⟨i, rfl⟩ : ∃ i : Nat, s = (i : Int) := ⟨s.toNat, by omega⟩
      have hi' : i < S.length := by omega
      have e := atO_in S i hi'
      refine (rleave_in i t w H hi').mono fun e' w' h => ?_
      unfold lvO hoO
      rw [e]
      refine ⟨h.1, ?_, own_kw S rfl h.2.2⟩
      simp only [upO_in]
      exact ⟨rfl, h.2.1⟩
    · have e := atO_out S s hi
      refine (rleave_out s t w H hi).mono fun e' w' h => ?_
      unfold lvO hoO
      rw [e]
      obtain ⟨rfl, rfl⟩ := h; exact ⟨rfl, ⟨rfl, H⟩, Kw.refl _ _⟩
theorem rodd_un (s t : Int) {w : World} {base d hb : Nat} {p : Value} {o : OS} (H : TN 66 68 w base d hb p o) (hq : ∀ x, atO o s = some x → x.2.2 < 4611686018427387904) :
    Calls Try.prog 28 #[p, .int .i64 s, .int .i64 t] w fun e w' => e = .returned (.int .i64 (hoO o s t 0)) ∧ TN 66 68 w' base d hb p (ctO o s t 0) ∧ Kw (own hb o) w w' := by
  cases o with
  | none =>
    subst H
    refine (rodd_nil s t w).mono fun e w' h => ?_
    obtain ⟨rfl, rfl⟩ := h; exact ⟨rfl, rfl, Kw.refl _ _⟩
  | some S =>
    obtain ⟨rfl, H⟩ := H
    by_cases hi : 0 ≤ s ∧ s < (S.length : Int)
    · obtain ⟨i, rfl⟩ : ∃ i : Nat, s = (i : Int) := ⟨s.toNat, by omega⟩
      have hi' : i < S.length := by omega
      have e := atO_in S i hi'
      refine (rodd_in i t w H hi' (hq _ e)).mono fun e' w' h => ?_
      unfold ctO hoO
      rw [e]
      refine ⟨h.1, ?_, own_kw S rfl h.2.2⟩
      simp only [upO_in]
      exact ⟨rfl, h.2.1⟩
    · have e := atO_out S s hi
      refine (rodd_out s t w H hi).mono fun e' w' h => ?_
      unfold ctO hoO
      rw [e]
      obtain ⟨rfl, rfl⟩ := h; exact ⟨rfl, ⟨rfl, H⟩, Kw.refl _ _⟩
theorem reven_un (s t : Int) {w : World} {base d hb : Nat} {p : Value} {o : OS} (H : TN 66 68 w base d hb p o) (hq : ∀ x, atO o s = some x → x.2.2 < 4611686018427387904) :
    Calls Try.prog 29 #[p, .int .i64 s, .int .i64 t] w fun e w' => e = .returned (.int .i64 (hoO o s t 1)) ∧ TN 66 68 w' base d hb p (ctO o s t 1) ∧ Kw (own hb o) w w' := by
  cases o with
  | none =>
    subst H
    refine (reven_nil s t w).mono fun e w' h => ?_
    obtain ⟨rfl, rfl⟩ := h; exact ⟨rfl, rfl, Kw.refl _ _⟩
  | some S =>
    obtain ⟨rfl, H⟩ := H
    by_cases hi : 0 ≤ s ∧ s < (S.length : Int)
    · obtain ⟨i, rfl⟩ : ∃ i : Nat, s = (i : Int) := ⟨s.toNat, by omega⟩
      have hi' : i < S.length := by omega
      have e := atO_in S i hi'
      refine (reven_in i t w H hi' (hq _ e)).mono fun e' w' h => ?_
      unfold ctO hoO
      rw [e]
      refine ⟨h.1, ?_, own_kw S rfl h.2.2⟩
      simp only [upO_in]
      exact ⟨rfl, h.2.1⟩
    · have e := atO_out S s hi
      refine (reven_out s t w H hi).mono fun e' w' h => ?_
      unfold ctO hoO
      rw [e]
      obtain ⟨rfl, rfl⟩ := h; exact ⟨rfl, ⟨rfl, H⟩, Kw.refl _ _⟩
theorem rserved_un (s t : Int) {w : World} {base d hb : Nat} {p : Value} {o : OS} (H : TN 66 68 w base d hb p o) :
    Calls Try.prog 26 #[p, .int .i64 s, .int .i64 t] w fun e w' => e = .returned (.bool (svO o s t)) ∧ TN 66 68 w' base d hb p (o) ∧ Kw (own hb o) w w' := by
  cases o with
  | none =>
    subst H
    refine (rserved_nil s t w).mono fun e w' h => ?_
    exact ⟨h.1, rfl, Kw.below h.2⟩
  | some S =>
    obtain ⟨rfl, H⟩ := H
    by_cases hi : 0 ≤ s ∧ s < (S.length : Int)
    · obtain ⟨i, rfl⟩ : ∃ i : Nat, s = (i : Int) := ⟨s.toNat, by omega⟩
      have hi' : i < S.length := by omega
      have e := atO_in S i hi'
      refine (rserved_in i t w H hi').mono fun e' w' h => ?_
      unfold svO
      rw [e]
      exact ⟨h.1, ⟨rfl, H.below h.2⟩, Kw.below h.2⟩
    · have e := atO_out S s hi
      refine (rserved_out s t w H hi).mono fun e' w' h => ?_
      unfold svO
      rw [e]
      exact ⟨h.1, ⟨rfl, H.below h.2⟩, Kw.below h.2⟩
theorem rseq_un (s : Int) {w : World} {base d hb : Nat} {p : Value} {o : OS} (H : TN 66 68 w base d hb p o) :
    Calls Try.prog 30 #[p, .int .i64 s] w fun e w' => e = .returned (.int .i64 (sqO o s)) ∧ TN 66 68 w' base d hb p (o) ∧ Kw (own hb o) w w' := by
  cases o with
  | none =>
    subst H
    refine (rseq_nil s w).mono fun e w' h => ?_
    obtain ⟨rfl, rfl⟩ := h; exact ⟨rfl, rfl, Kw.refl _ _⟩
  | some S =>
    obtain ⟨rfl, H⟩ := H
    by_cases hi : 0 ≤ s ∧ s < (S.length : Int)
    · obtain ⟨i, rfl⟩ : ∃ i : Nat, s = (i : Int) := ⟨s.toNat, by omega⟩
      have hi' : i < S.length := by omega
      have e := atO_in S i hi'
      refine (rseq_in i w H hi').mono fun e' w' h => ?_
      unfold sqO
      rw [e]
      obtain ⟨rfl, rfl⟩ := h; exact ⟨rfl, ⟨rfl, H⟩, Kw.refl _ _⟩
    · have e := atO_out S s hi
      refine (rseq_out s w H hi).mono fun e' w' h => ?_
      unfold sqO
      rw [e]
      obtain ⟨rfl, rfl⟩ := h; exact ⟨rfl, ⟨rfl, H⟩, Kw.refl _ _⟩
theorem rwaiting_un (s : Int) {w : World} {base d hb : Nat} {p : Value} {o : OS} (H : TN 66 68 w base d hb p o) :
    Calls Try.prog 31 #[p, .int .i64 s] w fun e w' => e = .returned (.int .i64 (wtO o s)) ∧ TN 66 68 w' base d hb p (o) ∧ Kw (own hb o) w w' := by
  cases o with
  | none =>
    subst H
    refine (rwaiting_nil s w).mono fun e w' h => ?_
    obtain ⟨rfl, rfl⟩ := h; exact ⟨rfl, rfl, Kw.refl _ _⟩
  | some S =>
    obtain ⟨rfl, H⟩ := H
    by_cases hi : 0 ≤ s ∧ s < (S.length : Int)
    · obtain ⟨i, rfl⟩ : ∃ i : Nat, s = (i : Int) := ⟨s.toNat, by omega⟩
      have hi' : i < S.length := by omega
      have e := atO_in S i hi'
      refine (rwaiting_in i w H hi').mono fun e' w' h => ?_
      unfold wtO
      rw [e]
      exact ⟨h.1, ⟨rfl, H.below h.2⟩, Kw.below h.2⟩
    · have e := atO_out S s hi
      refine (rwaiting_out s w H hi).mono fun e' w' h => ?_
      unfold wtO
      rw [e]
      obtain ⟨rfl, rfl⟩ := h; exact ⟨rfl, ⟨rfl, H⟩, Kw.refl _ _⟩
end Go.Proofs.Ytehgjfokpcnneaa
