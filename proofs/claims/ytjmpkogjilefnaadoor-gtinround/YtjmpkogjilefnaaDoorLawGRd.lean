/-
  GtinRound: the law's own walk, out of the contracts.
-/
import Derived.Test.YtjmpkogjilefnaaDoorGrw
import Derived.Test.YtjmpkogjilefnaaDoorWrk
import Derived.Test.YtjmpkogjilefnaaDoorFind
namespace Go.Proofs.YtjmpkogjilefnaaDoor
open Go.RowKit
set_option maxRecDepth 100000

theorem GL.fnd {L : List El} (h : GL L) {i : Nat} (hi : i < L.length) : fnd L (L[i]).1.data.toList = some (L[i]).2 := by
  have hn := (ais_nodup L L.length (Nat.le_refl _) h.1).1
  rw [List.take_length] at hn
  refine fnd_some hi (fun j hj e => ?_) rfl
  have h1 : j < (L.map fun x => x.1.data.toList).length := by rw [List.length_map]; omega
  have h2 : i < (L.map fun x => x.1.data.toList).length := by rw [List.length_map]; omega
  have := (List.nodup_iff_pairwise_ne.1 hn)
  have := (List.pairwise_iff_getElem.1 this) j i h1 h2 hj
  rw [List.getElem_map, List.getElem_map] at this
  exact this e

set_option maxHeartbeats 16000000 in
theorem ground_any (v : Value) (n : Nat) (w : World) (hkn : HasKn w) (hit : IT w v n) :
    Calls Tryd.prog 8 #[v] w fun e w' => e = .returned (.bool true) ∧ Below w.heap.size w w' := by
  have HK := hid hkn
  have G := hid (grown_any v n w hit)
  have hvf : ∃ ao cap, v = .slice ao n cap := by obtain ⟨_, ao, cap, h, _⟩ := hit; exact ⟨ao, cap, h⟩
  obtain ⟨ao, cap, rfl⟩ := hvf
  clear hkn hit
  go_enter Tryd.func8, Tryd.ntmps8
  go_wp2_with fail
  refine G.out.mono ?_
  rintro e w1 ⟨⟨lv, L, rfl, hO, hG, hL⟩, hb1⟩
  have R1 := hid hO.reads
  obtain ⟨lo, lc, rfl⟩ := R1.out.form
  have HG := hid hG
  have B1 := hid hb1
  clear hO hG hb1 G
  have hX := hid (show ∀ x ∈ L, x.2.size ≤ 281474976710656 from fun x hx => by have := (HG.out.2 x hx).2; omega)
  have hll : L.length ≤ 9223372036854775000 := by omega
  go_wp2_with fail
  refine (works_any _ (HK.out.below B1.out)).mono ?_
  rintro e w2 ⟨rfl, hb2⟩
  have R2 := hid (R1.out.below hb2)
  have B2 := hid (B1.out.trans (hb2.mono B1.out.size))
  clear hb2 R1 B1
  go_wp2_with fail
  refine (print_any _ L _ (HK.out.below B2.out) R2.out hX.out hll).mono ?_
  rintro e w3 ⟨⟨t, en, n3, rfl, hA⟩, hb3⟩
  obtain ⟨rfl, rfl, rfl⟩ := (HG.out.prt hL).same hA
  have R3 := hid (R2.out.below hb3)
  have B3 := hid (B2.out.trans (hb3.mono B2.out.size))
  clear hb3 R2 B2 hA
  have P3 := hid (HG.out.pse hL)
  have hts : (⟨(scP L L.length).toArray⟩ : ByteArray).size = (scP L L.length).length := by rw [← len_list]
  have hsc := HG.out.sc L.length (Nat.le_refl _)
  obtain ⟨t0, ht0⟩ : ∃ t0, (⟨(scP L L.length).toArray⟩ : ByteArray) = t0 := ⟨_, rfl⟩
  rw [ht0] at P3 hts ⊢
  clear ht0
  go_wp2_with fail
  refine (printShown_any _ L _ (HK.out.below B3.out) R3.out hX.out hll).mono ?_
  rintro e w4 ⟨⟨s, sn, n4, rfl, hA⟩, hb4⟩
  obtain ⟨rfl, rfl, rfl⟩ := (HG.out.shw hL).same hA
  have R4 := hid (R3.out.below hb4)
  have B4 := hid (B3.out.trans (hb4.mono B3.out.size))
  clear hb4 R3 B3 hA
  have P4 := hid (HG.out.psh hL)
  have hss : (⟨(shP L L.length).toArray⟩ : ByteArray).size = (shP L L.length).length := by rw [← len_list]
  have hsh := HG.out.sh L.length (Nat.le_refl _)
  obtain ⟨s0, hs0⟩ : ∃ s0, (⟨(shP L L.length).toArray⟩ : ByteArray) = s0 := ⟨_, rfl⟩
  rw [hs0] at P4 hss ⊢
  clear hs0
  go_wp2_with fail
  refine (parse_any t0 _ (HK.out.below B4.out) (by omega)).mono ?_
  rintro e w5 ⟨⟨mv, M, en, n5, rfl, hr, hA, _⟩, hb5⟩
  obtain ⟨rfl, rfl, rfl⟩ := P3.out.same hA
  obtain ⟨mo, mc, rfl⟩ := hr.form
  have M5 := hid hr
  have R5 := hid (R4.out.below hb5)
  have B5 := hid (B4.out.trans (hb5.mono B4.out.size))
  clear hb5 R4 B4 hA hr P3
  go_wp2_with fail
  refine (parseShown_any s0 _ (HK.out.below B5.out) (by omega)).mono ?_
  rintro e w6 ⟨⟨nv, M, en, n6, rfl, hr, hA, _⟩, hb6⟩
  obtain ⟨rfl, rfl, rfl⟩ := P4.out.same hA
  obtain ⟨no, nc, rfl⟩ := hr.form
  have N6 := hid hr
  have M6 := hid (M5.out.below hb6)
  have R6 := hid (R5.out.below hb6)
  have B6 := hid (B5.out.trans (hb6.mono B5.out.size))
  clear hb6 R5 B5 hA hr P4 M5
  have hl63 : M.length ≤ 9223372036854775807 := by omega
  go_wp2_with fail
  refine (same_true _ _ _ _ R6.out M6.out hl63).mono ?_
  rintro e w7 ⟨rfl, hb7⟩
  have R7 := hid (R6.out.below hb7)
  have N7 := hid (N6.out.below hb7)
  have B7 := hid (B6.out.trans (hb7.mono B6.out.size))
  clear hb7 R6 B6 M6 N6
  go_wp2_with fail
  refine (same_true _ _ _ _ R7.out N7.out hl63).mono ?_
  rintro e w8 ⟨rfl, hb8⟩
  have R8 := hid (R7.out.below hb8)
  have B8 := hid (B7.out.trans (hb8.mono B7.out.size))
  clear hb8 R7 B7 N7
  go_wp2_with fail
  go_loopw [15, 16] (fun z i wr => ∃ k : Nat, k ≤ M.length ∧ i = .int .i64 (k : Int) ∧ z = .int .i64 (((scP M k).length : Nat) : Int) ∧ Below w8.heap.size w8 wr) (fun _ i _ => M.length - (intOf i).toNat)
  case atStart => exact ⟨0, by omega, rfl, rfl, Below.refl _ _⟩
  case round =>
    obtain ⟨k, hk, rfl, rfl, hb⟩ := hrel
    have HB := hid hb
    have RR := hid (R8.out.below hb)
    have hz := hb.size
    clear hb
    have hsk := HG.out.sc k hk
    by_cases hlt : k < M.length
    · have hI : (k : Int) < (M.length : Int) := by omega
      have hstp := scP_step hlt
      have hmm := HG.out.2 _ (List.getElem_mem hlt)
      have HF := hid (find_any _ M (M[k]).1 wr RR.out hl63 hX.out)
      unfold fndV at HF
      rw [HG.out.fnd hlt] at HF
      simp only [Option.getD_some, Option.isSome_some] at HF
      obtain ⟨b2, off2, cap2, hv, hcap2, hcell⟩ := RR.out.here (by omega)
      cases hv
      have d0 := (hcell k hlt).1
      have d1 := (hcell k hlt).2
      clear hcell
      obtain ⟨hmem, hx19⟩ := hmm
      have ha4 := st_len _ hmem
      rw [len_list] at ha4
      obtain ⟨a, ha⟩ : ∃ a, (M[k]).1 = a := ⟨_, rfl⟩
      obtain ⟨x, hx⟩ : ∃ x, (M[k]).2 = x := ⟨_, rfl⟩
      rw [ha] at HF d0 hstp hmem ha4
      rw [hx] at HF d1 hstp hx19
      clear ha hx
      go_wp2_with fail
      refine HF.out.mono ?_
      rintro e w9 ⟨rfl, hb9⟩
      have d0 := below_cells hb9 _ _ d0
      have d1 := below_cells hb9 _ _ d1
      have HB9 := hid (HB.out.trans (hb9.mono HB.out.size))
      clear hb9 HF
      obtain ⟨sk, hske⟩ : ∃ sk, (scP M k).length = sk := ⟨_, rfl⟩
      obtain ⟨sk1, hsk1e⟩ : ∃ sk1, (scP M (k + 1)).length = sk1 := ⟨_, rfl⟩
      rw [hske] at hstp hsk ⊢
      rw [hsk1e] at hstp
      have HE := hid hsk1e
      clear hske hsk1e
      by_cases hnx : k + 1 < M.length
      · have hnI : (k : Int) + 1 < (M.length : Int) := by omega
        rcases st_cases hmem with rfl | rfl | rfl | rfl | rfl | rfl | rfl | rfl | rfl | rfl | rfl | rfl
        · rw [if_neg (fun h => by revert h; simp; intro h; exact absurd h (by decide)), show (⟨#[48, 48]⟩ : ByteArray).size = 2 from rfl] at hstp
          go_wp2
          go_roundw
          case rel => exact ⟨k + 1, by omega, by go_num, by rw [HE.out]; congr 1; omega, HB9.out⟩
          case measure => simp [intOf]; omega
        · rw [if_neg (fun h => by revert h; simp; intro h; exact absurd h (by decide)), show (⟨#[48, 49]⟩ : ByteArray).size = 2 from rfl] at hstp
          go_wp2
          go_roundw
          case rel => exact ⟨k + 1, by omega, by go_num, by rw [HE.out]; congr 1; omega, HB9.out⟩
          case measure => simp [intOf]; omega
        · rw [if_pos ⟨by decide, hnx⟩, show (⟨#[49, 48]⟩ : ByteArray).size = 2 from rfl] at hstp
          go_wp2
          go_roundw
          case rel => exact ⟨k + 1, by omega, by go_num, by rw [HE.out]; congr 1; omega, HB9.out⟩
          case measure => simp [intOf]; omega
        · rw [if_neg (fun h => by revert h; simp; intro h; exact absurd h (by decide)), show (⟨#[49, 55]⟩ : ByteArray).size = 2 from rfl] at hstp
          go_wp2
          go_roundw
          case rel => exact ⟨k + 1, by omega, by go_num, by rw [HE.out]; congr 1; omega, HB9.out⟩
          case measure => simp [intOf]; omega
        · rw [if_neg (fun h => by revert h; simp; intro h; exact absurd h (by decide)), show (⟨#[50, 48]⟩ : ByteArray).size = 2 from rfl] at hstp
          go_wp2
          go_roundw
          case rel => exact ⟨k + 1, by omega, by go_num, by rw [HE.out]; congr 1; omega, HB9.out⟩
          case measure => simp [intOf]; omega
        · rw [if_pos ⟨by decide, hnx⟩, show (⟨#[50, 49]⟩ : ByteArray).size = 2 from rfl] at hstp
          go_wp2
          go_roundw
          case rel => exact ⟨k + 1, by omega, by go_num, by rw [HE.out]; congr 1; omega, HB9.out⟩
          case measure => simp [intOf]; omega
        · rw [if_pos ⟨by decide, hnx⟩, show (⟨#[51, 48]⟩ : ByteArray).size = 2 from rfl] at hstp
          go_wp2
          go_roundw
          case rel => exact ⟨k + 1, by omega, by go_num, by rw [HE.out]; congr 1; omega, HB9.out⟩
          case measure => simp [intOf]; omega
        · rw [if_neg (fun h => by revert h; simp; intro h; exact absurd h (by decide)), show (⟨#[51, 49, 48, 51]⟩ : ByteArray).size = 4 from rfl] at hstp
          go_wp2
          go_roundw
          case rel => exact ⟨k + 1, by omega, by go_num, by rw [HE.out]; congr 1; omega, HB9.out⟩
          case measure => simp [intOf]; omega
        · rw [if_pos ⟨by decide, hnx⟩, show (⟨#[51, 57, 50, 50]⟩ : ByteArray).size = 4 from rfl] at hstp
          go_wp2
          go_roundw
          case rel => exact ⟨k + 1, by omega, by go_num, by rw [HE.out]; congr 1; omega, HB9.out⟩
          case measure => simp [intOf]; omega
        · rw [if_neg (fun h => by revert h; simp; intro h; exact absurd h (by decide)), show (⟨#[52, 49, 52]⟩ : ByteArray).size = 3 from rfl] at hstp
          go_wp2
          go_roundw
          case rel => exact ⟨k + 1, by omega, by go_num, by rw [HE.out]; congr 1; omega, HB9.out⟩
          case measure => simp [intOf]; omega
        · rw [if_pos ⟨by decide, hnx⟩, show (⟨#[56, 48, 48, 53]⟩ : ByteArray).size = 4 from rfl] at hstp
          go_wp2
          go_roundw
          case rel => exact ⟨k + 1, by omega, by go_num, by rw [HE.out]; congr 1; omega, HB9.out⟩
          case measure => simp [intOf]; omega
        · rw [if_pos ⟨by decide, hnx⟩, show (⟨#[57, 49]⟩ : ByteArray).size = 2 from rfl] at hstp
          go_wp2
          go_roundw
          case rel => exact ⟨k + 1, by omega, by go_num, by rw [HE.out]; congr 1; omega, HB9.out⟩
          case measure => simp [intOf]; omega
      · have hnI : ¬ (k : Int) + 1 < (M.length : Int) := by omega
        rcases st_cases hmem with rfl | rfl | rfl | rfl | rfl | rfl | rfl | rfl | rfl | rfl | rfl | rfl
        · rw [if_neg (fun h => by revert h; simp; intro h; exact absurd h (by decide)), show (⟨#[48, 48]⟩ : ByteArray).size = 2 from rfl] at hstp
          go_wp2
          go_roundw
          case rel => exact ⟨k + 1, by omega, by go_num, by rw [HE.out]; congr 1; omega, HB9.out⟩
          case measure => simp [intOf]; omega
        · rw [if_neg (fun h => by revert h; simp; intro h; exact absurd h (by decide)), show (⟨#[48, 49]⟩ : ByteArray).size = 2 from rfl] at hstp
          go_wp2
          go_roundw
          case rel => exact ⟨k + 1, by omega, by go_num, by rw [HE.out]; congr 1; omega, HB9.out⟩
          case measure => simp [intOf]; omega
        · rw [if_neg (fun h => hnx h.2), show (⟨#[49, 48]⟩ : ByteArray).size = 2 from rfl] at hstp
          go_wp2
          go_roundw
          case rel => exact ⟨k + 1, by omega, by go_num, by rw [HE.out]; congr 1; omega, HB9.out⟩
          case measure => simp [intOf]; omega
        · rw [if_neg (fun h => by revert h; simp; intro h; exact absurd h (by decide)), show (⟨#[49, 55]⟩ : ByteArray).size = 2 from rfl] at hstp
          go_wp2
          go_roundw
          case rel => exact ⟨k + 1, by omega, by go_num, by rw [HE.out]; congr 1; omega, HB9.out⟩
          case measure => simp [intOf]; omega
        · rw [if_neg (fun h => by revert h; simp; intro h; exact absurd h (by decide)), show (⟨#[50, 48]⟩ : ByteArray).size = 2 from rfl] at hstp
          go_wp2
          go_roundw
          case rel => exact ⟨k + 1, by omega, by go_num, by rw [HE.out]; congr 1; omega, HB9.out⟩
          case measure => simp [intOf]; omega
        · rw [if_neg (fun h => hnx h.2), show (⟨#[50, 49]⟩ : ByteArray).size = 2 from rfl] at hstp
          go_wp2
          go_roundw
          case rel => exact ⟨k + 1, by omega, by go_num, by rw [HE.out]; congr 1; omega, HB9.out⟩
          case measure => simp [intOf]; omega
        · rw [if_neg (fun h => hnx h.2), show (⟨#[51, 48]⟩ : ByteArray).size = 2 from rfl] at hstp
          go_wp2
          go_roundw
          case rel => exact ⟨k + 1, by omega, by go_num, by rw [HE.out]; congr 1; omega, HB9.out⟩
          case measure => simp [intOf]; omega
        · rw [if_neg (fun h => by revert h; simp; intro h; exact absurd h (by decide)), show (⟨#[51, 49, 48, 51]⟩ : ByteArray).size = 4 from rfl] at hstp
          go_wp2
          go_roundw
          case rel => exact ⟨k + 1, by omega, by go_num, by rw [HE.out]; congr 1; omega, HB9.out⟩
          case measure => simp [intOf]; omega
        · rw [if_neg (fun h => hnx h.2), show (⟨#[51, 57, 50, 50]⟩ : ByteArray).size = 4 from rfl] at hstp
          go_wp2
          go_roundw
          case rel => exact ⟨k + 1, by omega, by go_num, by rw [HE.out]; congr 1; omega, HB9.out⟩
          case measure => simp [intOf]; omega
        · rw [if_neg (fun h => by revert h; simp; intro h; exact absurd h (by decide)), show (⟨#[52, 49, 52]⟩ : ByteArray).size = 3 from rfl] at hstp
          go_wp2
          go_roundw
          case rel => exact ⟨k + 1, by omega, by go_num, by rw [HE.out]; congr 1; omega, HB9.out⟩
          case measure => simp [intOf]; omega
        · rw [if_neg (fun h => hnx h.2), show (⟨#[56, 48, 48, 53]⟩ : ByteArray).size = 4 from rfl] at hstp
          go_wp2
          go_roundw
          case rel => exact ⟨k + 1, by omega, by go_num, by rw [HE.out]; congr 1; omega, HB9.out⟩
          case measure => simp [intOf]; omega
        · rw [if_neg (fun h => hnx h.2), show (⟨#[57, 49]⟩ : ByteArray).size = 2 from rfl] at hstp
          go_wp2
          go_roundw
          case rel => exact ⟨k + 1, by omega, by go_num, by rw [HE.out]; congr 1; omega, HB9.out⟩
          case measure => simp [intOf]; omega
    · have hI : ¬ (k : Int) < (M.length : Int) := by omega
      have hkM : k = M.length := by omega
      have HF := hid (find_any _ M ⟨#[52, 48, 48]⟩ wr RR.out hl63 hX.out)
      unfold fndV at HF
      rw [fnd_none (fun y hy => st_400 _ (HG.out.2 y hy).1)] at HF
      simp only [Option.getD_none, Option.isSome_none] at HF
      have hbe : ((t0.size : Int) == (((scP M k).length : Nat) : Int)) = true := by rw [beq_iff_eq, hts, hkM]
      go_wp2_with fail
      refine HF.out.mono ?_
      rintro e w9 ⟨rfl, hb9⟩
      have HB9 := hid (HB.out.trans (hb9.mono HB.out.size))
      clear hb9 HF
      go_wp2
      go_ret
      exact ⟨rfl, B8.out.trans (HB9.out.mono B8.out.size)⟩
end Go.Proofs.YtjmpkogjilefnaaDoor
