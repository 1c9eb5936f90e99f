/-
  The document's own Print.
-/
import Derived.Test.YtjmpkogjilefnaaDoorFits
import Derived.Test.YtjmpkogjilefnaaDoorPrn
namespace Go.Proofs.YtjmpkogjilefnaaDoor
open Go.RowKit
set_option maxRecDepth 100000

theorem ba_of_list (l : List UInt8) : (⟨l.toArray⟩ : ByteArray).data.toList = l := by simp
theorem ba_app (s t : ByteArray) : (s ++ t).data.toList = s.data.toList ++ t.data.toList := by simp [ByteArray.data_append]

set_option maxHeartbeats 4000000 in
theorem refPrint_any (v : Value) (L : List El) (w : World) (hr : RE w v L) (hx : ∀ x ∈ L, x.2.size ≤ 281474976710656) (hll : L.length ≤ 9223372036854775000) :
    Calls Tryd.prog 22 #[v] w fun e w' => (∃ t en n, e = .returned (.tuple #[.string t, .int .i64 en, .int .i64 n]) ∧ PrA L t en n) ∧ Below w.heap.size w w' := by
  have HR := hid hr
  have HX := hid hx
  have HLL := hid hll
  clear hx hll
  rcases hr with ⟨rfl, ao, cap, rfl, _⟩ | ⟨b, off, cap, rfl, hcap, hcell⟩
  · have HL := hid (lonely_any (.slice ao 0 cap) [] w HR.out (by simp))
    have hlo : loI [] = -1 := rfl
    rw [hlo] at HL
    clear HR HX HLL
    go_enter Tryd.func22, Tryd.ntmps22
    go_wp2_with fail
    refine wp_loop_rounds 1 ?_
    rw [rounds_succ]
    go_wp2_with fail
    refine HL.out.mono ?_
    rintro e w1 ⟨rfl, rfl⟩
    go_wp2
    go_ret3
    exact ⟨⟨_, _, _, rfl, .inr ⟨fun j hj => by simp at hj, .inr (.inr ⟨by decide, by simp [scP], by simp [scP], rfl, rfl⟩)⟩⟩, Below.refl _ _⟩
  · have HC := hid hcell
    have HT := hid (fun W (h : Below w.heap.size w W) k hk => RE.take (w := W) hcap (fun j hj => ⟨below_cells h _ _ (hcell j hj).1, below_cells h _ _ (hcell j hj).2⟩) k hk)
    clear hcell
    go_enter Tryd.func22, Tryd.ntmps22
    go_wp2_with fail
    go_loopw [5, 6] (fun s i wr => ∃ (k : Nat) (S : ByteArray), k ≤ L.length ∧ i = .int .i64 (k : Int) ∧ s = .string S ∧ S.data.toList = scP L k ∧ (∀ j, j < k → ft L j = 0) ∧ Below w.heap.size w wr) (fun _ i _ => L.length - (intOf i).toNat)
    case atStart => exact ⟨0, ⟨#[]⟩, by omega, rfl, rfl, rfl, fun j hj => by omega, Below.refl _ _⟩
    case round =>
      obtain ⟨k, S, hk, rfl, rfl, hS, hz, hbl⟩ := hrel
      have HZ := hid hz
      have HB := hid hbl
      have HSe := hid hS
      have hSl := len_list S
      rw [hS] at hSl
      have hsl := scP_len L k hk hz
      have h39 := few_39 L k hk hz
      have hSs : S.size ≤ 4000 := by omega
      clear hz hbl hS hSl hsl
      by_cases hlt : k < L.length
      · have hcl := HC.out k hlt
        have c0 := below_cells HB.out _ _ hcl.1
        have c1 := below_cells HB.out _ _ hcl.2
        have hxs := HX.out (L[k]'hlt) (List.getElem_mem hlt)
        have HFt := hid (ft_at hlt)
        have HSG := hid (sg_at hlt)
        obtain ⟨a, ha⟩ : ∃ a, a = (L[k]'hlt).1 := ⟨_, rfl⟩
        obtain ⟨x, hx⟩ : ∃ x, x = (L[k]'hlt).2 := ⟨_, rfl⟩
        rw [← ha] at c0 HFt HSG
        rw [← hx] at c1 HFt hxs HSG
        have hll := HLL.out
        have HF := hid (fun W (h : Below w.heap.size w W) => fits_any (.slice (some ⟨b, off, none⟩) k cap) (L.take k) a x W (HT.out W h k hk) (by rw [List.length_take]; omega) (by omega))
        rw [← HFt.out] at HF
        obtain ⟨f, hf⟩ : ∃ f, ft L k = f := ⟨_, rfl⟩
        rw [hf] at HF HFt
        have HFE := hid hf
        clear hcl ha hx hf
        have CC := hid (fun wx (h : LaterB wr wx) => And.intro (below_cells h _ _ c0) (below_cells h _ _ c1))
        have sd : LaterB wr wr.drew := (Below.refl _ _).drew
        have BD := hid (HB.out.trans ((Below.refl w.heap.size wr).drew))
        go_wp2_with fail
        first | go_region_held (fun wx => wx.cell? ⟨b, off + k * 2, none⟩ = some (.string a) ∧ wx.cell? ⟨b, off + k * 2 + 1, none⟩ = some (.string x)) (first | exact CC.out _ (by assumption) | go_keep) (first
          | (go_at_call 47; refine (HF.out _ BD.out).mono ?_; rintro e w2 ⟨rfl, hb2⟩; have s2 : LaterB wr w2 := Below.trans sd hb2)) | fail
        have B2 := hid (HB.out.trans (Below.mono s2 HB.out.size))
        obtain ⟨d0, d1⟩ := CC.out _ s2
        clear sd BD HF c0 c1 CC
        by_cases h0 : f = 0
        · subst h0
          obtain ⟨q, hq, _, hfl⟩ := ftE_zero HFt.out.symm
          obtain ⟨q0, q1⟩ := kfind_12 hq
          have ha4 := kfind_len hq
          have hx90 := fltK_len hfl
          have hal := len_list a
          have hxl := len_list x
          obtain ⟨d, c, dy, am, lo, hi, hrk, _, _, _⟩ := rk_of q q0 q1
          have HK := hid (fun w => refKindOf_any a w)
          unfold rkV at HK
          rw [hq] at HK
          simp only [Option.getD_some, Option.isSome_some] at HK
          rw [hrk] at HK
          unfold rk at HK
          have hpl : plB a.data.toList = plK q := by unfold plB; rw [hq]; rfl
          rw [hpl] at HSG
          have has : a.size ≤ 4 := by omega
          have hxs9 : x.size ≤ 90 := by omega
          clear hq hfl ha4 hx90 hal hxl hrk hpl q0 q1 HFt
          go_wp2_with fail
          refine (HK.out _).mono ?_
          rintro e w3 ⟨rfl, hb3⟩
          have e0 := below_cells hb3 _ _ d0
          have e1 := below_cells hb3 _ _ d1
          have B3 := hid (B2.out.trans (hb3.mono B2.out.size))
          clear hb3 d0 d1 HK s2 B2
          have K4 := hid (show KBx (w3.alloc (.cells #[.bool (plK q), .bool d, .int .i64 (lo : Int), .int .i64 (hi : Int), .bool c, .bool dy, .bool am] 52)) w3.heap.size (plK q) d lo hi c dy am from heap_alloc_new _ _)
          have hA4 := (Below.refl w3.heap.size w3).alloc (Nat.le_refl _) (.cells #[.bool (plK q), .bool d, .int .i64 (lo : Int), .int .i64 (hi : Int), .bool c, .bool dy, .bool am] 52)
          have f0 := below_cells hA4 _ _ e0
          have f1 := below_cells hA4 _ _ e1
          have B4 := hid (B3.out.trans (hA4.mono B3.out.size))
          obtain ⟨W, hW⟩ : ∃ W, w3.alloc (.cells #[.bool (plK q), .bool d, .int .i64 (lo : Int), .int .i64 (hi : Int), .bool c, .bool dy, .bool am] 52) = W := ⟨_, rfl⟩
          rw [hW] at K4 f0 f1 B4
          obtain ⟨k0, _⟩ := K4.out.facts
          clear e0 e1 hA4 K4 B3
          go_wp2_with fail
          go_quiet (fail)
          have hBn : Below w.heap.size w (W.drewN nq) := B4.out.trans (below_drewN (Below.refl _ _) nq)
          have BN := hid hBn
          have k0n : (W.drewN nq).cell? ⟨w3.heap.size, 0, none⟩ = some (.bool (plK q)) := below_cells (below_drewN (Below.refl W.heap.size W) nq) _ _ k0
          have HZ2 := hid (show ∀ j, j < k + 1 → ft L j = 0 from fun j hj => by
            by_cases e : j = k
            · subst e; exact HFE.out
            · exact HZ.out j (by omega))
          have HA := hid (show (S ++ a ++ x).data.toList = scP L k ++ a.data.toList ++ x.data.toList by rw [ba_app, ba_app, HSe.out])
          have hsz : (S ++ a ++ x).size ≤ 5000 := by simp; omega
          clear f0 f1 k0 hBn hW B4
          obtain ⟨S2, hS2⟩ : ∃ S2, S ++ a ++ x = S2 := ⟨_, rfl⟩
          rw [hS2] at HA hsz ⊢
          clear hS2
          generalize W.drewN nq = Wn at *
          cases hp : plK q with
          | true =>
            rw [hp] at k0n
            have HE := hid (show S2.data.toList = scP L (k + 1) by rw [scP, HSG.out, hp, HA.out]; simp)
            clear hp
            go_wp2
            go_roundw
            case rel => exact ⟨k + 1, S2, hlt, by go_num, rfl, HE.out, HZ2.out, BN.out⟩
            case measure => simp [intOf]; omega
          | false =>
            rw [hp] at k0n
            by_cases hlast : k + 1 < L.length
            · have hlI : (k : Int) + 1 < (L.length : Int) := by omega
              have HE := hid (show (S2 ++ ⟨#[29]⟩).data.toList = scP L (k + 1) by rw [scP, HSG.out, hp, if_pos ⟨rfl, hlast⟩, ba_app, HA.out]; simp)
              clear hp
              have hcv := run_one Wn 29 29 rfl
              have BA := hid (BN.out.alloc BN.out.size (.cells #[.int .u8 29] 5))
              go_wp2
              go_roundw
              case rel => exact ⟨k + 1, _, hlt, by go_num, rfl, HE.out, HZ2.out, BA.out⟩
              case measure => simp [intOf]; omega
            · have hlI : ¬ (k : Int) + 1 < (L.length : Int) := by omega
              have HE := hid (show S2.data.toList = scP L (k + 1) by rw [scP, HSG.out, hp, if_neg (fun h => hlast h.2), HA.out]; simp)
              clear hp
              go_wp2
              go_roundw
              case rel => exact ⟨k + 1, S2, hlt, by go_num, rfl, HE.out, HZ2.out, BN.out⟩
              case measure => simp [intOf]; omega
        · have hfb : (f != 0) = true := by simp [h0]
          have HN := hid h0
          clear h0
          go_wp2
          go_ret3
          exact ⟨⟨_, _, _, rfl, .inl ⟨k, hlt, HZ.out, by rw [HFE.out]; exact HN.out, rfl, HFE.out.symm, rfl⟩⟩, B2.out⟩
      · have hkl : k = L.length := by omega
        subst hkl
        have HL := hid (lonely_any _ L wr (HR.out.below HB.out) (by omega))
        obtain ⟨o, ho⟩ : ∃ o, loI L = o := ⟨_, rfl⟩
        rw [ho] at HL
        have HOE := hid ho
        have hSl := len_list S
        rw [HSe.out] at hSl
        clear HC HT ho
        go_wp2_with fail
        refine HL.out.mono ?_
        rintro e w1 ⟨rfl, hw1⟩
        have hws := hw1.symm
        clear hw1
        subst hws
        clear HL
        by_cases h0 : 0 ≤ o
        · have HH := hid h0
          go_wp2
          go_ret3
          exact ⟨⟨_, _, _, rfl, .inr ⟨HZ.out, .inl ⟨by rw [HOE.out]; exact HH.out, rfl, rfl, HOE.out.symm⟩⟩⟩, HB.out⟩
        · have HH := hid h0
          by_cases h5 : 512 < S.size
          · have h5I : (512 : Int) < (S.size : Int) := by omega
            go_wp2
            go_ret3
            exact ⟨⟨_, _, _, rfl, .inr ⟨HZ.out, .inr (.inl ⟨by rw [HOE.out]; have := HH.out; omega, by omega, rfl, rfl, rfl⟩)⟩⟩, HB.out⟩
          · have h5I : ¬ (512 : Int) < (S.size : Int) := by omega
            go_wp2
            go_ret3
            exact ⟨⟨_, _, _, rfl, .inr ⟨HZ.out, .inr (.inr ⟨by rw [HOE.out]; have := HH.out; omega, by omega, HSe.out, rfl, rfl⟩)⟩⟩, HB.out⟩
end Go.Proofs.YtjmpkogjilefnaaDoor
