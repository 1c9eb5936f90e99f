/-
  SheetStuck: behind a fault, and behind a Close.
-/
import Derived.Test.YtpgpeafmlijfkaaDoorStk
import Derived.Test.YtpgpeafmlijfkaaDoorFec
import Derived.Deep.DeepCutAuto
import Derived.Deep.CutRange
namespace Go.Proofs.YtpgpeafmlijfkaaDoor
open Go.RowKit
set_option maxRecDepth 100000
set_option linter.unusedVariables false
set_option linter.unusedSimpArgs false

theorem Kg.bel2 {w w' : World} (h : Kg (fun k => k < w.heap.size) w w') : Below w.heap.size w w' := ⟨h.os, h.tape, h.output, h.size, fun k hk => h.block k hk⟩
theorem arr_list (l : List UInt8) : (⟨l.toArray⟩ : ByteArray).data.toList = l := by simp
set_option maxHeartbeats 8000000 in
theorem stuck_law (A : Nat → Addr) (s : ByteArray) (mv : Value) (T : List (List UInt8)) (w : World) (hA : Sn A w) (hT : ErT w) (hN : ErrN A w) (hs : s.size ≤ 140737488355328) (hm : Tx w mv T) :
    Calls Tryd.prog 3 #[.string s, mv] w fun e w' => e = .returned (.bool true) ∧ Below w.heap.size w w' := by
  obtain ⟨ma, mc, rfl, hmc, hmb, hmT⟩ := hm
  have hTl : T.length ≤ 9223372036854775807 := by omega
  have kcv := fun w (s : ByteArray) => run_bytes_of_string (P := Tryd.prog) w 9 30 5 s Tryd.underlying9 Tryd.underlying30 Tryd.underlying5
  have HNR := hid newReader_any
  obtain ⟨tx, hE⟩ := hN
  have HFe := hid hE
  have HA := hid (fun wx (h : Below w.heap.size w wx) => hA.below h)
  have HEw := hid hA.he
  have HT := hid (fun wx (h : Below w.heap.size w wx) => hT.below h)
  have HmT := hid hmT
  obtain ⟨L, hLd⟩ : ∃ L, L = s.data.toList := ⟨_, rfl⟩
  have hLs : L.length = s.size := by rw [hLd, Array.length_toList]; rfl
  obtain ⟨w1, hw1⟩ : ∃ w1, w1 = w.alloc (.cells zeroR 53) := ⟨_, rfl⟩
  have hI : PcI A w L w1 (.slice none 0 0) .nilIface 0 [] := by
    have hz : RZ w1 w.heap.size := by rw [hw1]; exact heap_alloc_new w _
    refine ⟨⟨⟨rfl, .inl ⟨rfl, rfl⟩⟩, RwS.nil _⟩, .inl ⟨rfl, rfl⟩, ?_, fun g hg => by simp [Value.ownBlock] at hg, .inl ⟨rfl, rfl, rfl, hz⟩⟩
    rw [hw1]
    exact (Kg.refl _ w).alloc (fun k hk => hk) _
  obtain ⟨W, hW⟩ : ∃ W, W = (w1.alloc (.cells (bytesRow s (grownCap w1 s.size 0 5)) 5 ((bytesRow s (grownCap w1 s.size 0 5)).size, (bytesRow s (grownCap w1 s.size 0 5)).size + 1))).drew := ⟨_, rfl⟩
  obtain ⟨b1, b2, b3⟩ := bytes_in s w1 W hW
  rw [← hLd] at b3
  have HF := hid (feed_pc A w L L w1 W _ _ 0 L.length (grownCap w1 s.size 0 5) [] hA.he hI (Nat.zero_le _) (Nat.le_refl _) (by simp) b1 b2 b3 (by rw [hLs]; exact grownCap_ge _ _ _ _) (by rw [hLs]; exact hs) rfl)
  rw [hLs] at HF
  have HW := hid hW
  have HLs := hid hLs
  have HW1 := hid hw1
  clear hA hT hE hmT hI b1 b2 b3 hW hLs hw1 hLd
  go_enter Tryd.func3, Tryd.ntmps3
  go_wp2_with fail
  refine Calls.mono (HNR.out _) ?_
  rintro e wz ⟨rfl, hwz⟩
  replace hwz := hwz.trans HW1.out.symm
  subst hwz
  go_wp2_with fail
  rw [← HW.out]
  refine Calls.mono HF.out ?_
  rintro e w2 ⟨tv2, ev, V2, T1, T2, G, rfl, hF⟩
  obtain ⟨a2, c2, hg2⟩ := own_slice hF.t2.own
  subst hg2
  have hF' : FeP A w L w2 (.slice none 0 0) (.slice a2 V2.length c2) ev L.length [] V2 T1 T2 G := by rw [HLs.out]; exact hF
  have hS := sk_first hF'
  clear hF hF' HF HW HW1
  have hcd : (sj L L.length).er ≠ 0 → (sj L L.length).er ≠ 1 ∧ ((sj L L.length).er ≤ 8 ∨ (sj L L.length).er = 20) := sj_code L L.length (Nat.le_refl _)
  have hfp := fp_le2 L
  have HIs := hid (fun d hd => is_ft A ev (sj L L.length).er d (sj L L.length).fp w2 hS.ft (HA.out w2 hS.kg.bel2) (by omega) hd)
  have he2 := (HA.out w2 hS.kg.bel2).he
  have e1 := he2.e1
  have e9 := he2.e9
  have I1 := hid (HIs.out 1 (by omega))
  have I9 := hid (HIs.out 9 (by omega))
  rw [decide_eq_false (by omega)] at I1
  rw [decide_eq_false (by omega)] at I9
  have HS := hid hS
  clear hS he2 HIs
  go_upto_region 5 with fail
  go_cut [31] from 24 to 31 (fun v wx => v = .bool false ∧ wx = w2)
  case first =>
    go_wp2_with fail
    refine Calls.mono I1.out ?_
    rintro e wa ⟨rfl, hw⟩
    replace hw := hw.symm
    subst hw
    go_wp2_with fail
    refine Calls.mono I9.out ?_
    rintro e wa ⟨rfl, hw⟩
    replace hw := hw.symm
    subst hw
    go_wp2_with fail
    go_meet
    exact ⟨rfl, rfl⟩
  case rest =>
  obtain ⟨rfl, hwc⟩ := hcut
  replace hwc := hwc.symm
  subst hwc
  clear I1 I9 e1 e9
  -- the texts of a Fault
  have er : ∀ f, 1 ≤ (sj L L.length).er → ∀ wx, Below w.heap.size w wx → wx.heap[f]? = some (.cells #[.int .i64 ((sj L L.length).fp.1 : Int), .int .i64 ((sj L L.length).fp.2 : Int), erV A (sj L L.length).er] 51 (0, 0)) → Calls Tryd.prog 63 #[.pointer (some ⟨f, 0, none⟩)] wx fun e w' => e = .returned (.string (tx (sj L L.length).fp.1 (sj L L.length).fp.2 (sj L L.length).er)) ∧ Below wx.heap.size wx w' := fun f h1 wx h hf => HFe.out f _ _ _ wx h (hfp (by omega)).1 (hfp (by omega)).2 hf (by omega)
  have kn : ∀ f, 1 ≤ (sj L L.length).er → ∀ wx, Below w.heap.size w wx → wx.heap[f]? = some (.cells #[.int .i64 ((sj L L.length).fp.1 : Int), .int .i64 ((sj L L.length).fp.2 : Int), erV A (sj L L.length).er] 51 (0, 0)) → Calls Tryd.prog 8 #[.iface 54 (.pointer (some ⟨f, 0, none⟩))] wx fun e w' => e = .returned (.int .i64 1) ∧ Below wx.heap.size wx w' := fun f h1 wx h hf => kinds_any A f _ _ _ wx hf (HA.out wx h) (by omega)
  generalize htx : tx (sj L L.length).fp.1 (sj L L.length).fp.2 (sj L L.length).er = txv at er
  have hsame : (txv.toList == txv.toList) = true := by simp
  have HEr := hid er
  have HKn := hid kn
  have HCd := hid hcd
  have HFp := hid hfp
  clear er kn hcd hfp htx HFe
  go_wp2_with fail
  go_loopw [8] (fun i wr => ∃ k : Nat, k ≤ T.length ∧ i = .int .i64 (k : Int) ∧ SkI A w L wr ev) (fun i _ => T.length - (intOf i).toNat)
  case atStart => exact ⟨0, Nat.zero_le _, rfl, HS.out⟩
  case round =>
    obtain ⟨k, hk, hiv, hS⟩ := hrel
    subst hiv
    by_cases hgo : k < T.length ∧ (sj L L.length).er ≠ 0
    · obtain ⟨hkT, her⟩ := hgo
      have hft := hS.ft
      rcases hft with ⟨h, _⟩ | ⟨_, f0, he0, hf0⟩
      · exact absurd h her
      · subst he0
        have hkI : (k : Int) < (T.length : Int) := by omega
        have hdI : decide (k < T.length) = true := by simp; exact hkT
        obtain ⟨mb, mo, hma, hc⟩ := HmT.out k hkT
        subst hma
        have hc' := cellB hS.kg.bel2 hc
        obtain ⟨X, hX⟩ : ∃ X : ByteArray, X = ⟨(T[k]).toArray⟩ := ⟨_, rfl⟩
        rw [← hX] at hc'
        obtain ⟨W, hW⟩ : ∃ W, W = (wr.alloc (.cells (bytesRow X (grownCap wr X.size 0 5)) 5 ((bytesRow X (grownCap wr X.size 0 5)).size, (bytesRow X (grownCap wr X.size 0 5)).size + 1))).drew := ⟨_, rfl⟩
        obtain ⟨b1, b2, b3⟩ := bytes_in X wr W hW
        have hSW := hS.below b1
        have HFB := hid (feed_flt A _ w.heap.size wr.heap.size X.size (grownCap wr X.size 0 5) _ W hSW.rx her)
        have HSW := hid hSW
        have H1 := hid (show 1 ≤ (sj L L.length).er by omega)
        have HW := hid hW
        clear hc hX b1 b2 b3 hSW hW hS hf0 her
        go_wp2_with fail
        rw [← HW.out]
        refine Calls.mono HFB.out ?_
        intro e w3 hfb
        obtain ⟨a3, c3, ev3, rfl, hft3, hS3⟩ := sk_step HSW.out hfb
        rcases hft3 with ⟨h, _⟩ | ⟨_, f3, he3, hf3⟩
        · exact absurd h (by have := H1.out; omega)
        · subst he3
          rcases hS3.ft with ⟨h, _⟩ | ⟨_, f0', he0', hf0'⟩
          · exact absurd h (by have := H1.out; omega)
          · injection he0' with _ h2
            injection h2 with h3
            injection h3 with h4
            injection h4 with h5
            subst h5
            have B3 := hid hS3.kg.bel2
            have HE3 := hid (HEr.out f3 H1.out w3 B3.out hf3)
            have HF3 := hid hf3
            have HF0 := hid hf0'
            have HS3 := hid hS3
            clear hfb hf3 hf0' hS3 HFB HSW
            go_wp2_with fail
            refine Calls.mono HE3.out ?_
            rintro e w4 ⟨rfl, hb4⟩
            have B4 := hid (B3.out.trans (hb4.mono B3.out.size))
            have HF0b := hid ((hb4.block f0 (Array.getElem?_eq_some_iff.1 HF0.out).1).trans HF0.out)
            have HF3b := hid ((hb4.block f3 (Array.getElem?_eq_some_iff.1 HF3.out).1).trans HF3.out)
            have HE4 := hid (HEr.out f0 H1.out w4 B4.out HF0b.out)
            have HS4 := hid (HS3.out.below hb4)
            clear hb4
            go_wp2_with fail
            refine Calls.mono HE4.out ?_
            rintro e w5 ⟨rfl, hb5⟩
            have B5 := hid (B4.out.trans (hb5.mono B4.out.size))
            have HK5 := hid (HKn.out f3 H1.out w5 B5.out ((hb5.block f3 (Array.getElem?_eq_some_iff.1 HF3b.out).1).trans HF3b.out))
            have HS5 := hid (HS4.out.below hb5)
            clear hb5
            go_wp2_with fail
            refine Calls.mono HK5.out ?_
            rintro e w6 ⟨rfl, hb6⟩
            have HS6 := hid (HS5.out.below hb6)
            clear hb6
            go_wp2
            go_roundw
            case rel => exact ⟨k + 1, by omega, by go_num, HS6.out⟩
            case measure => simp [intOf]; omega
    · have hbd := sj_bdd L L.length
      have HCl := hid (close_any A _ w.heap.size { sj L L.length with td := [] } wr ⟨HEw.out.kept hS.kg fun k hk => HEw.out.lt k hk, fun k hk => .inl (HEw.out.lt k hk)⟩ hS.rx rfl hbd.1.cur (by have := hbd.1.cs; have := hbd.2; show (sj L L.length).cs.length ≤ _; omega) (by have := hbd.1.rw; have := hbd.2; show (sj L L.length).rw ≤ _; omega))
      have HSk := hid hS
      have HGo := hid hgo
      clear hS hbd hgo
      go_upto_region 8 with fail
      go_cut [39] from 32 to 39 (fun v wx => v = .bool false ∧ wx = wr)
      case first =>
        by_cases hkT : k < T.length
        · have hkI : (k : Int) < (T.length : Int) := by omega
          have hdI : decide (k < T.length) = true := by simp; exact hkT
          rcases HSk.out.ft with ⟨_, he⟩ | ⟨h, _⟩
          · subst he
            go_wp2_with fail
            go_meet
            exact ⟨rfl, rfl⟩
          · exact absurd ⟨hkT, h⟩ HGo.out
        · have hkI : ¬ (k : Int) < (T.length : Int) := by omega
          have hdI : decide (k < T.length) = false := by simp; omega
          go_wp2_with fail
          go_meet
          exact ⟨rfl, rfl⟩
      case rest =>
        obtain ⟨rfl, hwc⟩ := hcut
        replace hwc := hwc.symm
        subst hwc
        clear hk HGo
        go_wp2_with fail
        refine Calls.mono HCl.out ?_
        rintro e w5 ⟨tv5, V5, ev5, rfl, ht5, hf5, hk5, hdn⟩
        obtain ⟨a5, c5, hg5⟩ := own_slice ht5.own
        subst hg5
        have HB5 := hid (HSk.out.kg.trans (hk5.mono fun k hk => .inl hk)).bel2
        have HDn := hid hdn
        -- what the first Close tells
        go_upto_region 14 with fail
        go_cut [93] from 76 to 93 (fun v wx => v = .bool false ∧ Below w5.heap.size w5 wx)
        case first =>
          rcases HSk.out.ft with ⟨_, he⟩ | ⟨hne, f0, he, hf0⟩
          · subst he
            clear hf5 ht5 hk5 hdn
            go_wp2_with fail
            go_meet
            exact ⟨rfl, Below.refl _ _⟩
          · subst he
            have hcl : clP { sj L L.length with td := [] } = { sj L L.length with td := [] } := by unfold clP; rw [if_neg hne]
            rw [hcl] at ht5 hf5
            have hV5 : V5 = [] := List.eq_nil_of_length_eq_zero (by rw [ht5.rws.len]; rfl)
            subst hV5
            rcases hf5 with ⟨h, _⟩ | ⟨_, f5, he5, hf5⟩
            · exact absurd h hne
            · subst he5
              have HE5 := hid (HEr.out f5 (by omega) w5 HB5.out hf5)
              have HF0 := hid ((hk5.block f0 (.inr (.inr (.inr rfl)))).trans hf0)
              have H1 := hid (show 1 ≤ (sj L L.length).er by omega)
              clear hf5 ht5 hk5 hdn hf0 hcl hne
              go_wp2_with fail
              refine Calls.mono HE5.out ?_
              rintro e w6 ⟨rfl, hb6⟩
              have B6 := hid (HB5.out.trans (hb6.mono HB5.out.size))
              have HE6 := hid (HEr.out f0 H1.out w6 B6.out ((hb6.block f0 (Array.getElem?_eq_some_iff.1 HF0.out).1).trans HF0.out))
              have HB6 := hid hb6
              clear hb6
              go_wp2_with fail
              refine Calls.mono HE6.out ?_
              rintro e w7 ⟨rfl, hb7⟩
              have HB7 := hid (HB6.out.trans (hb7.mono HB6.out.size))
              clear hb7
              go_wp2_with fail
              go_meet
              exact ⟨rfl, HB7.out⟩
        case rest =>
        obtain ⟨rfl, hwc⟩ := hcut
        have HD6 := hid (HDn.out.below hwc)
        have HB6 := hid (HB5.out.trans (hwc.mono HB5.out.size))
        clear hwc hf5 ht5 hk5 hdn HDn HB5 HSk HCl HEr HKn HCd HFp HS
        go_wp2_with fail
        go_loopw [13] (fun i wr => ∃ k : Nat, k ≤ T.length ∧ i = .int .i64 (k : Int) ∧ DnR wr w.heap.size ∧ Below w.heap.size w wr) (fun i _ => T.length - (intOf i).toNat)
        case atStart => exact ⟨0, Nat.zero_le _, rfl, HD6.out, HB6.out⟩
        case round =>
          obtain ⟨k, hk, hiv, hD, hB⟩ := hrel
          subst hiv
          by_cases hkT : k < T.length
          · have hkI : (k : Int) < (T.length : Int) := by omega
            have hdI : decide (k < T.length) = true := by simp; exact hkT
            obtain ⟨mb, mo, hma, hc⟩ := HmT.out k hkT
            subst hma
            have hc' := cellB hB hc
            obtain ⟨X, hX⟩ : ∃ X : ByteArray, X = ⟨(T[k]).toArray⟩ := ⟨_, rfl⟩
            rw [← hX] at hc'
            obtain ⟨W, hW⟩ : ∃ W, W = (wr.alloc (.cells (bytesRow X (grownCap wr X.size 0 5)) 5 ((bytesRow X (grownCap wr X.size 0 5)).size, (bytesRow X (grownCap wr X.size 0 5)).size + 1))).drew := ⟨_, rfl⟩
            obtain ⟨b1, b2, b3⟩ := bytes_in X wr W hW
            have BW := hid (hB.trans (b1.mono hB.size))
            have DW := hid (hD.below b1)
            have HFD := hid (feed_dn A w.heap.size wr.heap.size X.size (grownCap wr X.size 0 5) W (HA.out W BW.out).he DW.out)
            have HW := hid hW
            have HB := hid hB
            clear hc hX b1 b2 b3 hW hD hB
            go_wp2_with fail
            rw [← HW.out]
            refine Calls.mono HFD.out ?_
            rintro e w7 ⟨f7, rfl, hf7, b7⟩
            have B7 := hid (BW.out.trans (b7.mono BW.out.size))
            have D7 := hid (DW.out.below b7)
            have K7 := hid (known_is A f7 9 0 0 w7 (HT.out w7 B7.out) hf7 (HA.out w7 B7.out) (by omega))
            have e9 := (HA.out w7 B7.out).he.e9
            clear b7 hf7
            go_wp2_with fail
            refine Calls.mono K7.out ?_
            rintro e w8 ⟨rfl, hb8⟩
            have B8 := hid (B7.out.trans (hb8.mono B7.out.size))
            have D8 := hid (D7.out.below hb8)
            have HCD := hid (close_dn A w.heap.size w8 (HA.out w8 B8.out).he D8.out)
            clear hb8 e9
            go_wp2_with fail
            refine Calls.mono HCD.out ?_
            rintro e w9 ⟨f9, rfl, hf9, b9⟩
            have B9 := hid (B8.out.trans (b9.mono B8.out.size))
            have D9 := hid (D8.out.below b9)
            have K9 := hid (known_is A f9 9 0 0 w9 (HT.out w9 B9.out) hf9 (HA.out w9 B9.out) (by omega))
            have e9 := (HA.out w9 B9.out).he.e9
            clear b9 hf9
            go_wp2_with fail
            refine Calls.mono K9.out ?_
            rintro e wa ⟨rfl, hba⟩
            have Ba := hid (B9.out.trans (hba.mono B9.out.size))
            have Da := hid (D9.out.below hba)
            clear hba e9
            go_wp2
            go_roundw
            case rel => exact ⟨k + 1, by omega, by go_num, Da.out, Ba.out⟩
            case measure => simp [intOf]; omega
          · have hkI : ¬ (k : Int) < (T.length : Int) := by omega
            have hdI : decide (k < T.length) = false := by simp; omega
            have HB := hid hB
            clear hB hD
            go_wp2
            go_ret
            exact ⟨rfl, HB.out⟩
end Go.Proofs.YtpgpeafmlijfkaaDoor
