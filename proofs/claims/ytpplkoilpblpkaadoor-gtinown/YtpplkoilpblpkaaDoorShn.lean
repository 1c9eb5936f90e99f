/-
  ParseShown.
-/
import Derived.Test.YtpplkoilpblpkaaDoorGshc
import Derived.Test.YtpplkoilpblpkaaDoorSame
namespace Go.Proofs.YtpplkoilpblpkaaDoor
open Go.RowKit
set_option maxRecDepth 100000

theorem OE.reads {w : World} {base : Nat} {v : Value} {L : List El} (h : OE w base v L) : RE w v L := by
  rcases h.2 with ⟨rfl, h0⟩ | ⟨g, cap, cur, rfl, _, _, hc, _⟩
  · have hL : L = [] := List.eq_nil_of_length_eq_zero h0
    subst hL
    exact .inl ⟨rfl, none, 0, rfl, fun _ => rfl⟩
  · refine .inr ⟨g, 0, cap, rfl, hc, fun j hj => ?_⟩
    have e := ec_at L j hj
    have h1 := World.ownsRow.cells h (g := g) rfl _ _ e.1
    have h2 := World.ownsRow.cells h (g := g) rfl _ _ e.2
    rw [Addr.add_lit] at h1 h2
    exact ⟨h1, h2⟩
theorem OE.later {w w' : World} {base : Nat} {v : Value} {L : List El} (h : OE w base v L) (hb : Below w.heap.size w w') : OE w' base v L := by
  refine World.ownsRow.kept h (row := none) ⟨hb.os, hb.tape, hb.output, hb.size, fun k hk _ => hb.block k hk⟩ ?_
  cases v.ownBlock <;> simp
theorem RE.one (w : World) (a x : ByteArray) : RE (w.alloc (.cells #[.string a, .string x] 36)) (.slice (some ⟨w.heap.size, 0, none⟩) 1 1) [(a, x)] := by
  refine .inr ⟨w.heap.size, 0, 1, rfl, Nat.le_refl _, fun j hj => ?_⟩
  have hj2 : j = 0 := by simpa using hj
  subst hj2
  exact ⟨by simp, by simp⟩
theorem RE.nil0 (w : World) : RE w (.slice none 0 0) [] := .inl ⟨rfl, none, 0, rfl, fun _ => rfl⟩
theorem rn_step {T : List UInt8} {n p q : Nat} {L : List El} {a x : ByteArray} (h : rn T n = some (p, L)) (hp : p < T.length) (hs : stp T p = .inr (a.data.toList, x.data.toList, q)) : rn T (n + 1) = some (q, L ++ [(a, x)]) := rn_next h hp hs

set_option maxHeartbeats 4000000 in
theorem parseShown_own (t : ByteArray) (w : World) (hkn : HasKn w) (hs : t.size ≤ 9223372036854775807) :
    Calls Tryd.prog 9 #[.string t] w fun e w' => (∃ v M en n, e = .returned (.tuple #[v, .int .i64 en, .int .i64 n]) ∧ OE w' w.heap.size v M ∧ ShA t.data.toList M en n ∧ M.length ≤ 2048) ∧ Below w.heap.size w w' := by
  have hl := len_list t
  have HKN := hid hkn
  clear hkn
  by_cases h20 : 2048 < t.size
  · have hI : (2048 : Int) < (t.size : Int) := by omega
    go_enter Tryd.func9, Tryd.ntmps9
    go_wp2
    go_ret3
    exact ⟨⟨_, [], _, _, rfl, OE.nil _ _, .inl ⟨by omega, rfl, rfl, rfl⟩, by simp⟩, Below.refl _ _⟩
  · have hI : ¬ (2048 : Int) < (t.size : Int) := by omega
    go_enter Tryd.func9, Tryd.ntmps9
    go_wp2_with fail
    go_loopw [5, 6] (fun lv i wr => ∃ (k p : Nat) (L : List El), i = .int .i64 (p : Int) ∧ rn t.data.toList k = some (p, L) ∧ OE wr w.heap.size lv L ∧ Below w.heap.size w wr) (fun _ i _ => t.size - (intOf i).toNat)
    case atStart => exact ⟨0, 0, [], rfl, rfl, OE.nil _ _, Below.refl _ _⟩
    case round =>
      obtain ⟨k, p, L, rfl, hr, ho, hb⟩ := hrel
      obtain ⟨hLp, hpt, hLx⟩ := rn_inv hr
      rw [hl] at hpt
      have HR := hid hr
      have HO := hid ho
      have HB := hid hb
      have HX := hid hLx
      clear hr ho hb hLx
      by_cases hlt : p < t.size
      · have hpI : (p : Int) < (t.size : Int) := by omega
        have HA := hid (shownAi_any t p wr (HKN.out.below HB.out) hlt (by omega))
        go_wp2_with fail
        refine HA.out.mono ?_
        rintro e w2 ⟨⟨a, f, en, n, rfl, hA⟩, hb2⟩
        have O2 := hid (HO.out.later hb2)
        have B2 := hid (HB.out.trans (hb2.mono HB.out.size))
        clear hb2 HO HB HA
        rcases hA with ⟨h0, hst⟩ | ⟨rfl, g, rfl, hg, _, hst⟩
        · have hnb : (en != 0) = true := by simp [h0]
          have HST := hid hst
          clear h0 hst
          go_wp2
          go_ret3
          exact ⟨⟨_, [], _, _, rfl, OE.nil _ _, .inr ⟨by omega, k, p, L, HR.out, .inl ⟨by omega, HST.out, rfl⟩⟩, by simp⟩, B2.out⟩
        · have HV := hid (shownValue_any t g w2 (by omega) (by omega))
          have HST := hid hst
          have hsl := sv_len _ (t.data.toList.drop g) (Nat.le_refl _)
          rw [List.length_drop, hl] at hsl
          obtain ⟨s1, s2, s3, hsv⟩ : ∃ s1 s2 s3, sv (t.data.toList.drop g) = (s1, s2, s3) := ⟨_, _, _, rfl⟩
          rw [hsv] at HV HST hsl
          simp only at HV HST hsl
          clear hst hsv
          go_wp2_with fail
          refine HV.out.mono ?_
          rintro e w3 ⟨⟨x, rfl, hx⟩, hb3⟩
          have O3 := hid (O2.out.later hb3)
          have B3 := hid (B2.out.trans (hb3.mono B2.out.size))
          have HXe := hid hx
          clear hb3 hx O2 B2 HV
          cases s3 with
          | false =>
            have HS2 := hid (show stp t.data.toList p = .inl (29, ((g + s2 : Nat) : Int)) from HST.out)
            go_wp2
            go_ret3
            exact ⟨⟨_, [], _, _, rfl, OE.nil _ _, .inr ⟨by omega, k, p, L, HR.out, .inl ⟨by omega, HS2.out, rfl⟩⟩, by simp⟩, B3.out⟩
          | true =>
            have HS2 := hid (show stp t.data.toList p = .inr (a.data.toList, x.data.toList, g + s2) by rw [HXe.out]; exact HST.out)
            have HN := hid (rn_step HR.out (by omega) HS2.out)
            have hpq := (stp_ok HS2.out).1
            have R1 := hid (RE.one w3 a x)
            have O4 := hid (O3.out.alloc (.cells #[.string a, .string x] 36))
            have B4 := hid (B3.out.alloc B3.out.size (.cells #[.string a, .string x] 36))
            clear HST HXe O3 B3
            go_wp2_with (at_builtin; refine wpList_appE rfl _ _ rfl w.heap.size _ L rfl O4.out _ [(a, x)] rfl R1.out ?hlen2 B4.out.size ?hnext2)
            case hlen2 => simp; omega
            case hnext2 =>
              intro v5 w5 ho5 hg5
              have O5 := hid ho5
              have B5 := hid (B4.out.grown hg5 B4.out.size O4.out.block_ge)
              clear ho5 hg5 O4 B4 R1
              go_wp2
              go_roundw
              case rel => exact ⟨k + 1, g + s2, _, by go_num, HN.out, O5.out, B5.out⟩
              case measure => simp [intOf]; omega
      · have hpI : ¬ (p : Int) < (t.size : Int) := by omega
        have HP := hid (print_any _ L wr (HKN.out.below HB.out) HO.out.reads (fun x hx => by have := HX.out x hx; omega) (by omega))
        go_wp2_with fail
        refine HP.out.mono ?_
        rintro e w2 ⟨⟨s, en, n, rfl, hpr⟩, hb2⟩
        have R2 := hid (HO.out.later hb2)
        have B2 := hid (HB.out.trans (hb2.mono HB.out.size))
        have HPR := hid hpr
        clear hb2 hpr HP HO HB
        by_cases h0 : en = 0
        · subst h0
          obtain ⟨_, rfl⟩ := HPR.out.zero
          go_wp2
          go_ret3
          exact ⟨⟨_, L, _, _, rfl, R2.out, .inr ⟨by omega, k, p, L, HR.out, .inr ⟨by omega, s, HPR.out, .inr ⟨rfl, rfl⟩⟩⟩, by omega⟩, B2.out⟩
        · have hnb : (en != 0) = true := by simp [h0]
          have HN := hid h0
          clear h0
          go_wp2
          go_ret3
          exact ⟨⟨_, [], _, _, rfl, OE.nil _ _, .inr ⟨by omega, k, p, L, HR.out, .inr ⟨by omega, s, HPR.out, .inl ⟨HN.out, rfl⟩⟩⟩, by simp⟩, B2.out⟩
theorem parseShown_any (t : ByteArray) (w : World) (hkn : HasKn w) (hs : t.size ≤ 9223372036854775807) :
    Calls Tryd.prog 9 #[.string t] w fun e w' => (∃ v M en n, e = .returned (.tuple #[v, .int .i64 en, .int .i64 n]) ∧ RE w' v M ∧ ShA t.data.toList M en n ∧ M.length ≤ 2048) ∧ Below w.heap.size w w' := by
  refine (parseShown_own t w hkn hs).mono ?_
  rintro e w' ⟨⟨v, M, en, n, he, ho, r⟩, hb⟩
  exact ⟨⟨v, M, en, n, he, ho.reads, r⟩, hb⟩
end Go.Proofs.YtpplkoilpblpkaaDoor
