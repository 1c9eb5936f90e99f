/-
  Sheets, the document's side: row. Laid by mkdsr.py.
-/
import Derived.Test.YtpgpeafmlijfkaaGreatDoorDsc
namespace Go.Proofs.YtpgpeafmlijfkaaGreatDoor
open Go.RowKit
set_option maxRecDepth 100000
set_option linter.unusedVariables false
set_option linter.unusedSimpArgs false

theorem own_low {w : World} {B e n : Nat} {v : Value} {xs : List Value} (h : w.ownsRow B e 1 v n xs) : w.ownsRow 0 e 1 v n xs := by
  obtain ⟨h1, h2⟩ := h
  refine ⟨h1, ?_⟩
  rcases h2 with h2 | ⟨g, cap, cur, h3, h4, h5⟩
  · exact .inl h2
  · exact .inr ⟨g, cap, cur, h3, Nat.zero_le _, h5⟩
theorem rowD_bad {L : List UInt8} {n i : Nat} {acc : List (List UInt8)} (h : (cel L i).2.2.1 ≠ 0) : rowD L (n + 1) i acc = ([], 0, (cel L i).2.2.1, (cel L i).2.2.2) := by rw [rowD]; simp [h]
theorem rowD_many {L : List UInt8} {n i : Nat} {acc : List (List UInt8)} (h : (cel L i).2.2.1 = 0) (h1 : (cel L i).2.1 < L.length ∧ ch L (cel L i).2.1 = 44) (h2 : acc.length + 1 = 64) : rowD L (n + 1) i acc = ([], 0, 6, (cel L i).2.1) := by rw [rowD]; simp [h, h1, h2]
theorem rowD_more {L : List UInt8} {n i : Nat} {acc : List (List UInt8)} (h : (cel L i).2.2.1 = 0) (h1 : (cel L i).2.1 < L.length ∧ ch L (cel L i).2.1 = 44) (h2 : ¬ acc.length + 1 = 64) : rowD L (n + 1) i acc = rowD L n ((cel L i).2.1 + 1) (acc ++ [(cel L i).1]) := by rw [rowD]; simp [h, h1, h2]
theorem rowD_end {L : List UInt8} {n i : Nat} {acc : List (List UInt8)} (h : (cel L i).2.2.1 = 0) (h1 : ¬ ((cel L i).2.1 < L.length ∧ ch L (cel L i).2.1 = 44)) : rowD L (n + 1) i acc = (acc ++ [(cel L i).1], (cel L i).2.1, 0, 0) := by rw [rowD]; simp only [h]; rw [if_neg (by simp), if_neg h1]
def boolOf (v : Value) : Bool := match v with | .bool b => b | _ => false
attribute [local go_sem ↓] fLd_op fSt_op
set_option maxHeartbeats 8000000 in
theorem drow_any (s : ByteArray) (fr : Nat) (w : World) (hs : s.size ≤ 140737500000000) (hf : fr ≤ s.size) :
    Calls Tryz.prog 70 #[.string s, .int .i64 (fr : Int)] w fun e w' => ∃ v, e = .returned (.tuple #[v, .int .i64 ((rowD s.data.toList (s.data.toList.length + 1) fr []).2.1 : Int), fQ s.data.toList (rowD s.data.toList (s.data.toList.length + 1) fr []).2.2.1 (rowD s.data.toList (s.data.toList.length + 1) fr []).2.2.2]) ∧ w'.ownsRow w.heap.size 9 1 v (rowD s.data.toList (s.data.toList.length + 1) fr []).1.length (tl (rowD s.data.toList (s.data.toList.length + 1) fr []).1) ∧ Below w.heap.size w w' := by
  have HPl := hid (fun c i w (hi : i ≤ s.size) => placed_any s c i w hs hi)
  have HCl := hid (fun i w (hi : i ≤ s.size) => dcell_any s i w hs hi)
  have hds : s.data.toList.length = s.size := by rw [Array.length_toList]; rfl
  have r1 : fr ≤ 200000000000000 := by omega
  have HDS := hid hds
  obtain ⟨R, hR⟩ : ∃ R, R = rowD s.data.toList (s.data.toList.length + 1) fr [] := ⟨_, rfl⟩
  rw [← hR]
  have HR := hid hR
  clear hds hR
  go_enter Tryz.func70, Tryz.ntmps70
  go_wp2_with fail
  go_loopw [7, 8, 9] (fun lv j m wr => ∃ (i n : Nat) (acc : List (List UInt8)) (b : Bool), i ≤ s.size ∧ j = .int .i64 (i : Int) ∧ m = .bool b ∧ wr.ownsRow w.heap.size 9 1 lv acc.length (tl acc) ∧ acc.length ≤ 64 ∧ Below w.heap.size w wr ∧ FW wr w.heap.size 0 0 0 0 ∧ (if b = true then acc.length < 64 ∧ s.size - i < n ∧ R = rowD s.data.toList n i acc else R = (acc, i, 0, 0))) (fun _ j m _ => if boolOf m = true then s.size + 1 - (intOf j).toNat else 0)
  case atStart =>
    refine ⟨fr, s.data.toList.length + 1, [], true, hf, rfl, rfl, World.ownsRow_nil _ _ _ _, by simp, (Below.refl _ _).alloc (Nat.le_refl _) _, FW.new w, ?_⟩
    rw [if_pos rfl]
    exact ⟨by simp, by rw [HDS.out]; omega, HR.out⟩
  case round =>
    obtain ⟨i, n, acc, b, hi, rfl, rfl, hown, hal, hbl, hfb, hst⟩ := hrel
    obtain ⟨ta, tc, rfl⟩ := own_slice hown
    have r2 : i ≤ 200000000000000 := by omega
    have HO := hid hown
    have HB := hid hbl
    have HF := hid hfb
    clear hown hbl hfb HR
    by_cases hb : b = true
    · subst hb
      rw [if_pos rfl] at hst
      obtain ⟨hlt, hn, hRR⟩ := hst
      obtain ⟨n, rfl⟩ : ∃ m, n = m + 1 := ⟨n - 1, by omega⟩
      have K1 := hid (fun h => hRR.trans (rowD_bad (n := n) (acc := acc) (i := i) (L := s.data.toList) h))
      have K2 := hid (fun h h1 h2 => hRR.trans (rowD_many (n := n) (acc := acc) (i := i) (L := s.data.toList) h h1 h2))
      have K3 := hid (fun h h1 h2 => hRR.trans (rowD_more (n := n) (acc := acc) (i := i) (L := s.data.toList) h h1 h2))
      have K4 := hid (fun h h1 => hRR.trans (rowD_end (n := n) (acc := acc) (i := i) (L := s.data.toList) h h1))
      have hcf := cel_form s.data.toList i (by rw [HDS.out]; exact hi)
      have HC := hid (HCl.out i wr hi)
      clear hRR
      obtain ⟨⟨T, j, c, f⟩, hq⟩ : ∃ q, q = cel s.data.toList i := ⟨_, rfl⟩
      rw [← hq] at K1 K2 K3 K4 hcf HC
      simp only at K1 K2 K3 K4 hcf HC
      clear hq
      go_wp2_with fail
      refine Calls.mono HC.out ?_
      rintro e w1 ⟨rfl, hb1⟩
      rw [fQ_is]
      obtain ⟨W1, ES1, hW1, hbW, hzW⟩ := run_fStN w1 c (fP s.data.toList c f).1 (fP s.data.toList c f).2.1 (fP s.data.toList c f).2.2
      have hbB : Below wr.heap.size wr W1 := hb1.trans (hbW.mono hb1.size)
      have HB1 := hid (HB.out.trans (hbB.mono HB.out.size))
      have HF1 := hid (HF.out.big hbB)
      have HO1 := hid (own_big HO.out hbB)
      have hc0 := hW1.cell
      have HW1 := hid hW1
      obtain ⟨fv, hfv⟩ : ∃ fv, fv = fV c (fP s.data.toList c f).1 (fP s.data.toList c f).2.1 (fP s.data.toList c f).2.2 := ⟨_, rfl⟩
      have HFv := hid hfv
      rw [← hfv] at ES1 ⊢
      clear hb1 hbW hW1 hfv hbB HC
      by_cases hc : c = 0
      · subst hc
        obtain ⟨_, _, hij, hjs⟩ := hcf rfl
        rw [HDS.out] at hjs
        have r3 : j ≤ 200000000000000 := by omega
        have hc0' : W1.cell? ⟨w1.heap.size, 0, none⟩ = some (.int .i64 0) := hc0
        clear hc0 hcf K1
        go_wp2_with (at_builtin; refine wpList_append_own_at _ rfl _ _ 28 rfl w.heap.size 9 _ (.string ⟨#[]⟩) 1 16 Tryz.underlying28 (info_parts si).choose_spec.1 (info_parts si).choose_spec.2.1 (info_parts si).choose_spec.2.2.1 (info_parts si).choose_spec.2.2.2 rfl (by decide) _ _ _ rfl (HO1.out.alloc _) ⟨W1.heap.size, 0, none⟩ 1 1 [.string ⟨T.toArray⟩] rfl rfl ?c1 ?c2 ?c3 ?c4 ?c5 ?_)
        case c1 =>
          intro j u hj
          match j, hj with
          | 0, hj => simp at hj; subst hj; simp [Addr.add]
        case c2 => intro u hu; simp at hu; subst hu; rfl
        case c3 => unfold maxLen; omega
        case c4 => omega
        case c5 => have := HB1.out.size; simp; omega
        intro v' w2 hown' hgrow _ hblk
        obtain ⟨a', c', rfl⟩ := own_slice hown'
        have HB2 := hid ((HB1.out.alloc HB1.out.size _).grown hgrow (by simp; have := HB1.out.size; omega) (fun k hk => (World.ownsRow.lt HO1.out k hk).1))
        have HF2 := hid ((HF1.out.alloc _).grown hgrow (fun e => own_ne HO1.out HF1.out (by decide) e))
        have HO2 := hid (show w2.ownsRow w.heap.size 9 1 (.slice a' (acc.length + 1) c') (acc ++ [T]).length (tl (acc ++ [T])) by rw [List.length_append, tl_snoc]; exact hown')
        clear hown' hgrow hblk
        by_cases hjl : j < s.size
        · have hJ : (j : Int) < (s.size : Int) := by omega
          have hcj : ch s.data.toList j = s[j].toNat := by unfold ch; rw [bt_at s j hjl]
          by_cases h44 : s[j].toNat = 44
          · have p44 : (s[j].toNat : Int) = 44 := by omega
            have e44 : ((s[j].toNat : Int) == 44) = true := by rw [beq_iff_eq]; exact p44
            have hcm : j < s.data.toList.length ∧ ch s.data.toList j = 44 := ⟨by rw [HDS.out]; exact hjl, by rw [hcj]; exact h44⟩
            by_cases h64 : acc.length + 1 = 64
            · have e64 : ((acc.length : Int) + 1 == 64) = true := by rw [beq_iff_eq]; omega
              have HV := hid (K2.out trivial hcm h64)
              clear hcm hcj h44 hlt hn
              go_wp2_with fail
              refine Calls.mono (HPl.out 6 j _ (by omega)) ?_
              rintro e w3 ⟨rfl, hb3⟩
              obtain ⟨W, ES, hW, gW⟩ := run_fSt (HF2.out.big hb3) 6 (plc s.data.toList j).1 (plc s.data.toList j).2 j
              have EL := run_fLd hW
              have BF := hid ((HB2.out.trans (hb3.mono HB2.out.size)).grown gW (Nat.le_trans HB2.out.size hb3.size) (fun b hb => by cases hb; exact Nat.le_refl _))
              obtain ⟨gv, hgv⟩ : ∃ fv, fv = fV 6 (plc s.data.toList j).1 (plc s.data.toList j).2 j := ⟨_, rfl⟩
              rw [← hgv] at ES EL ⊢
              have HGv := hid hgv
              clear hW gW hb3 hgv
              go_wp2
              refine bodyPost_ret (by simp [results, Tryz.results70, asAddr, ↓fLd_op, EL]; try rfl) rfl ?_
              rw [HV.out, HGv.out]
              exact ⟨_, rfl, World.ownsRow_nil _ _ _ _, BF.out⟩
            · have e64 : ((acc.length : Int) + 1 == 64) = false := by rw [beq_eq_false_iff_ne]; omega
              have HV := hid (K3.out trivial hcm h64)
              clear hcm hcj h44
              go_wp2
              go_roundw
              case rel =>
                refine ⟨j + 1, n, acc ++ [T], true, by omega, by go_num, rfl, HO2.out, by simp; omega, HB2.out, HF2.out, ?_⟩
                rw [if_pos rfl]
                exact ⟨by simp; omega, by omega, HV.out⟩
              case measure => simp [intOf, boolOf]; omega
          · have p44 : ¬ (s[j].toNat : Int) = 44 := by omega
            have e44 : ((s[j].toNat : Int) == 44) = false := by rw [beq_eq_false_iff_ne]; exact p44
            have HV := hid (K4.out trivial (fun h => h44 (hcj ▸ h.2)))
            clear hcj h44
            go_wp2
            go_roundw
            case rel => exact ⟨j, 0, acc ++ [T], false, hjs, rfl, rfl, HO2.out, by simp; omega, HB2.out, HF2.out, HV.out⟩
            case measure => simp [intOf, boolOf]; omega
        · have hJ : ¬ (j : Int) < (s.size : Int) := by omega
          have HV := hid (K4.out trivial (fun h => hjl (by have := h.1; rw [HDS.out] at this; exact this)))
          go_wp2
          go_roundw
          case rel => exact ⟨j, 0, acc ++ [T], false, hjs, rfl, rfl, HO2.out, by simp; omega, HB2.out, HF2.out, HV.out⟩
          case measure => simp [intOf, boolOf]; omega
      · have hcn : ((c : Int) != 0) = true := by simp; omega
        have hcp : ¬ (c : Int) = 0 := by omega
        have HV := hid (K1.out hc)
        obtain ⟨W, ES, hW, gW⟩ := run_fSt HF1.out.drew c (fP s.data.toList c f).1 (fP s.data.toList c f).2.1 (fP s.data.toList c f).2.2
        have EL1 := run_fLd HW1.out.drew
        have EL := run_fLd hW
        have BF := hid (HB1.out.drew.grown gW HB1.out.size (fun b hb => by cases hb; exact Nat.le_refl _))
        rw [← HFv.out] at ES EL1 EL
        clear hW gW hc hcf
        go_wp2_with fail
        go_region
        all_goals
          go_wp2
          refine bodyPost_ret (by simp [results, Tryz.results70, asAddr, ↓fLd_op, EL]; try rfl) rfl ?_
          rw [HV.out]
          simp only []
          rw [fQ_is, ← HFv.out]
          exact ⟨_, rfl, World.ownsRow_nil _ _ _ _, BF.out⟩
    · have hb' : b = false := by simpa using hb
      subst hb'
      have HV := hid (show R = (acc, i, 0, 0) from hst)
      obtain ⟨W, ES, hW, gW⟩ := run_fSt0 HF.out
      have EL := run_fLd hW
      have BF := hid (HB.out.grown gW HB.out.size (fun b hb => by cases hb; exact Nat.le_refl _))
      have HO3 := hid (own_keep HO.out gW (own_ne HO.out HF.out (by decide)))
      clear hW gW hst hb
      go_wp2
      refine bodyPost_ret (by simp [results, Tryz.results70, asAddr, ↓fLd_op, EL]; try rfl) rfl ?_
      rw [HV.out]
      exact ⟨_, rfl, HO3.out, BF.out⟩
end Go.Proofs.YtpgpeafmlijfkaaGreatDoor
