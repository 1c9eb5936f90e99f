/-
  Lists that are alike come from each other by swaps (pure); alike, every answer.
-/
import Derived.Test.YtaiccmbhdgecgaaLq5
namespace Go.Proofs.Ytaiccmbhdgecgaa
open Go.RowKit
set_option maxRecDepth 100000

theorem onl_cons (y : Int) (L : List Int) (a b : Int) : onl (y :: L) a b = if y = a ∨ y = b then y :: onl L a b else onl L a b := by
  unfold onl
  by_cases c : y = a ∨ y = b
  · rw [if_pos c, List.filter_cons_of_pos (by rcases c with c | c <;> simp [c])]
  · rw [if_neg c, List.filter_cons_of_neg (by
      simp only [not_or] at c
      simp [c.1, c.2])]
theorem alike_swps {ap : Int → Int → Bool} (hsym : ∀ a b, ap a b = ap b a) (hirr : ∀ a, ap a a = false) : ∀ (Y X : List Int), (∀ a b, ap a b = false → onl X a b = onl Y a b) → Swps ap X Y
  | [], X, h => by
    cases X with
    | nil => exact .refl _
    | cons x X =>
      have := h x x (hirr x)
      rw [onl_cons, if_pos (.inl rfl)] at this
      cases this
  | y :: Y, X, h => by
    have hy := h y y (hirr y)
    rw [onl_cons, if_pos (.inl rfl)] at hy
    have hin : y ∈ X := by
      have : y ∈ onl X y y := by rw [hy]; simp
      exact (List.mem_filter.1 this).1
    obtain ⟨A, C, rfl, hn⟩ := split_in hin
    have hap : ∀ z ∈ A, ap z y = true := by
      intro z hz
      cases hc : ap z y with
      | true => rfl
      | false =>
        exfalso
        have h2 := h z y hc
        rw [onl_cons, if_pos (.inr rfl)] at h2
        have e : onl (A ++ y :: C) z y = onl A z y ++ onl (y :: C) z y := by unfold onl; rw [List.filter_append]
        rw [e] at h2
        have hzA : z ∈ onl A z y := List.mem_filter.2 ⟨hz, by simp⟩
        cases ho : onl A z y with
        | nil => rw [ho] at hzA; cases hzA
        | cons q Q =>
          rw [ho] at h2
          injection h2 with h3 h4
          have : y ∈ A := by
            have hq : q ∈ onl A z y := by rw [ho]; simp
            rw [← h3]
            exact (List.mem_filter.1 hq).1
          exact hn this
    have hs := front hsym (C := C) hn hap
    refine hs.trans (.cons (alike_swps hsym hirr Y (A ++ C) fun a b hab => ?_) y)
    have h1 := h a b hab
    rw [hs.only hab (by rw [hsym]; exact hab), onl_cons, onl_cons] at h1
    by_cases c : y = a ∨ y = b
    · rw [if_pos c, if_pos c] at h1
      injection h1
    · rw [if_neg c, if_neg c] at h1
      exact h1
/-- of numbers below 16 it is enough to ask for those -/
theorem alike_all {P : List Pr} {X Y : List Int} (hX : ∀ x ∈ X, 0 ≤ x ∧ x < 16) (hY : ∀ x ∈ Y, 0 ≤ x ∧ x < 16) (h : ∀ a b : Nat, a < 16 → b < 16 → a ≤ b → arP P (a : Int) (b : Int) = false → onl X (a : Int) (b : Int) = onl Y (a : Int) (b : Int)) : ∀ a b : Int, arP P a b = false → onl X a b = onl Y a b := by
  have hcomm : ∀ (L : List Int) (a b : Int), onl L a b = onl L b a := fun L a b => by unfold onl; congr 1; funext x; rw [Bool.or_comm]
  have hout : ∀ (L : List Int), (∀ x ∈ L, 0 ≤ x ∧ x < 16) → ∀ a b : Int, ¬ (0 ≤ a ∧ a < 16) → onl L a b = onl L b b := by
    intro L hL a b ha
    unfold onl
    refine List.filter_congr fun x hx => ?_
    rw [decide_eq_false (show ¬ x = a from fun e => ha (e ▸ hL x hx)), Bool.false_or, Bool.or_self]
  have hnil : ∀ (L : List Int), (∀ x ∈ L, 0 ≤ x ∧ x < 16) → ∀ a : Int, ¬ (0 ≤ a ∧ a < 16) → onl L a a = [] := by
    intro L hL a ha
    unfold onl
    rw [List.filter_eq_nil_iff]
    intro x hx
    rw [decide_eq_false (show ¬ x = a from fun e => ha (e ▸ hL x hx))]
    decide
  have hself : ∀ b : Int, onl X b b = onl Y b b := by
    intro b
    by_cases hb : 0 ≤ b ∧ b < 16
    · obtain ⟨m, rfl⟩ : ∃ m : Nat, b = (m : Int) := ⟨b.toNat, by omega⟩
      exact h m m (by omega) (by omega) (Nat.le_refl _) (arP_irr _ _)
    · rw [hnil X hX b hb, hnil Y hY b hb]
  intro a b hab
  by_cases ha : 0 ≤ a ∧ a < 16
  · by_cases hb : 0 ≤ b ∧ b < 16
    · obtain ⟨m, rfl⟩ : ∃ m : Nat, a = (m : Int) := ⟨a.toNat, by omega⟩
      obtain ⟨k, rfl⟩ : ∃ k : Nat, b = (k : Int) := ⟨b.toNat, by omega⟩
      rcases Nat.le_total m k with hmk | hmk
      · exact h m k (by omega) (by omega) hmk hab
      · rw [hcomm X, hcomm Y]
        exact h k m (by omega) (by omega) hmk (by rw [arP_sym]; exact hab)
    · rw [hcomm X, hcomm Y, hout X hX b a hb, hout Y hY b a hb]
      exact hself a
  · rw [hout X hX a b ha, hout Y hY a b ha]
    exact hself b
/-- are two lists alike -/
def Alk (P : List Pr) (X Y : List Int) : Prop := ∀ a b : Nat, a < 16 → b < 16 → a ≤ b → arP P (a : Int) (b : Int) = false → onl X (a : Int) (b : Int) = onl Y (a : Int) (b : Int)
def AkA (P : List Pr) (X Y : List Int) (e : Ending) : Prop := ∃ b, e = .returned (.bool b) ∧ (b = true ↔ Alk P X Y)
set_option maxHeartbeats 2000000 in
theorem alikeB_any (v p vp : Value) (X Y : List Int) (P : List Pr) (w : World) (hv : RI w v X) (hy : RI w p Y) (hp : PL w vp P) (hPl : P.length ≤ 9223372036854775807) (hl : X.length * 8 ≤ 140737488355328) (hlen : X.length = Y.length) :
    Calls Try.prog 20 #[v, p, vp] w fun e w' => AkA P X Y e ∧ Below w.heap.size w w' := by
  have HX := hid hv
  have HY := hid hy
  have HP := hid hp
  have HLn := hid hlen
  obtain ⟨ao, cap, rfl⟩ := hv.len0
  obtain ⟨bo, cap', rfl⟩ := hy.len0
  obtain ⟨aop, capp, rfl, _⟩ := hp
  have hlb : ((X.length : Int) == (Y.length : Int)) = true := by simp [hlen]
  have hl2 : Y.length * 8 ≤ 140737488355328 := by omega
  clear hv hy hlen
  go_enter Try.func20, Try.ntmps20
  go_wp2_with fail
  go_loopw [7] (fun va wx => ∃ a : Nat, a ≤ 16 ∧ va = .int .i64 (a : Int) ∧ (∀ a' b : Nat, a' < a → b < 16 → a' ≤ b → arP P (a' : Int) (b : Int) = false → onl X (a' : Int) (b : Int) = onl Y (a' : Int) (b : Int)) ∧ Below w.heap.size w wx) (fun va _ => 16 - (intOf va).toNat)
  case atStart => exact ⟨0, by omega, rfl, fun _ _ h => by omega, Below.refl _ _⟩
  case round =>
    obtain ⟨a, ha, rfl, hin, hB⟩ := hrel
    have HB := hid hB
    have HI := hid hin
    clear hB hin
    by_cases h : a < 16
    · have hI : (a : Int) < 16 := by omega
      go_wp2_with fail
      go_loopw [8] (fun vb wx => ∃ b : Nat, a ≤ b ∧ b ≤ 16 ∧ vb = .int .i64 (b : Int) ∧ (∀ b' : Nat, b' < b → a ≤ b' → arP P (a : Int) (b' : Int) = false → onl X (a : Int) (b' : Int) = onl Y (a : Int) (b' : Int)) ∧ Below w.heap.size w wx) (fun vb _ => 16 - (intOf vb).toNat)
      case atStart => exact ⟨a, Nat.le_refl _, ha, rfl, fun b' h1 h2 => by omega, HB.out⟩
      case round =>
        obtain ⟨b, hab0, hb, rfl, hin2, hB⟩ := hrel
        have HB2 := hid hB
        have HI2 := hid hin2
        have hz := hB.size
        clear hB hin2
        by_cases h2 : b < 16
        · have hI2 : (b : Int) < 16 := by omega
          have HA := hid (are_any (a : Int) (b : Int) _ P wr (HP.out.below HB2.out) hPl)
          cases har : arP P (a : Int) (b : Int) with
          | true =>
            rw [har] at HA
            have HN := hid (show ∀ b' : Nat, b' < b + 1 → a ≤ b' → arP P (a : Int) (b' : Int) = false → onl X (a : Int) (b' : Int) = onl Y (a : Int) (b' : Int) from fun b' hb1 hb2 hb3 => by
              by_cases e : b' = b
              · subst e
                rw [har] at hb3
                cases hb3
              · exact HI2.out b' (by omega) hb2 hb3)
            go_wp2_with fail
            refine Calls.mono HA.out ?_
            rintro e w2 ⟨rfl, rfl⟩
            go_wp2_with fail
            go_roundw
            case rel => exact ⟨b + 1, by omega, by omega, by go_num, HN.out, HB2.out⟩
            case measure => simp [intOf]; omega
          | false =>
            rw [har] at HA
            have HAr := hid har
            have hlz := onl_len X (a : Int) (b : Int)
            have hlz2 := onl_len Y (a : Int) (b : Int)
            clear har
            go_wp2_with fail
            refine Calls.mono HA.out ?_
            rintro e w2 ⟨rfl, rfl⟩
            have HO1 := hid (only_any (a : Int) (b : Int) _ X w2 (HX.out.below HB2.out) hl)
            clear HA
            go_wp2_with fail
            refine Calls.mono HO1.out ?_
            rintro e w3 ⟨⟨v1, rfl, ho1⟩, hb3⟩
            have HB3 := hid (HB2.out.trans (hb3.mono hz))
            have HO2 := hid (only_any (a : Int) (b : Int) _ Y w3 (HY.out.below HB3.out) hl2)
            have HR1 := hid ho1
            clear HO1 ho1 hb3
            go_wp2_with fail
            refine Calls.mono HO2.out ?_
            rintro e w4 ⟨⟨v2, rfl, ho2⟩, hb4⟩
            have HB4 := hid (HB3.out.trans (hb4.mono HB3.out.size))
            have HS := hid (same_any v1 v2 _ _ w4 ((HR1.out.below hb4).reads) ho2.reads (by omega) (by omega))
            clear HO2 ho2 hb4 HR1
            go_wp2_with fail
            refine Calls.mono HS.out ?_
            rintro e w5 ⟨⟨bb, rfl, hbb⟩, hb5⟩
            have HB5 := hid (HB4.out.trans (hb5.mono HB4.out.size))
            have HBb := hid hbb
            clear hbb hb5 HS
            cases bb with
            | true =>
              have HEq := hid (HBb.out.1 rfl)
              have HN := hid (show ∀ b' : Nat, b' < b + 1 → a ≤ b' → arP P (a : Int) (b' : Int) = false → onl X (a : Int) (b' : Int) = onl Y (a : Int) (b' : Int) from fun b' hb1 hb2 hb3 => by
                by_cases e : b' = b
                · subst e
                  exact HEq.out
                · exact HI2.out b' (by omega) hb2 hb3)
              go_wp2_with fail
              go_roundw
              case rel => exact ⟨b + 1, by omega, by omega, by go_num, HN.out, HB5.out⟩
              case measure => simp [intOf]; omega
            | false =>
              have HNo := hid (show a ≤ b → AkA P X Y (.returned (.bool false)) from fun hab => ⟨false, rfl, by simp, fun hall => by
                have := HBb.out.2 (hall a b h h2 hab HAr.out)
                cases this⟩)
              have HNo2 := hid (HNo.out hab0)
              clear HNo
              go_wp2
              go_ret
              exact ⟨HNo2.out, HB5.out⟩
        · have hI2 : ¬ (b : Int) < 16 := by omega
          have HN := hid (show ∀ a' b : Nat, a' < a + 1 → b < 16 → a' ≤ b → arP P (a' : Int) (b : Int) = false → onl X (a' : Int) (b : Int) = onl Y (a' : Int) (b : Int) from fun a' b' h1 h3 h4 h5 => by
            by_cases e : a' = a
            · subst e
              exact HI2.out b' (by omega) h4 h5
            · exact HI.out a' b' (by omega) h3 h4 h5)
          go_wp2_with fail
          go_roundw
          case rel => exact ⟨a + 1, by omega, by go_num, HN.out, HB2.out⟩
          case measure => simp [intOf]; omega
    · have hI : ¬ (a : Int) < 16 := by omega
      have HT := hid (show AkA P X Y (.returned (.bool true)) from ⟨true, rfl, fun _ a' b' h1 h2 h3 h4 => HI.out a' b' (by omega) h2 h3 h4, fun _ => rfl⟩)
      go_wp2
      go_ret
      exact ⟨HT.out, HB.out⟩
end Go.Proofs.Ytaiccmbhdgecgaa
