/-
  SheetPieces: whatever pieces a text comes in.
-/
import Derived.Test.YtpgpeafmlijfkaaDoorSpx
import Derived.Test.YtpgpeafmlijfkaaDoorFec
import Derived.Test.YtpgpeafmlijfkaaDoorSwi
import Derived.Test.YtpgpeafmlijfkaaDoorCutsIn
import Derived.Deep.DeepCutAuto
import Derived.Deep.CutRange
import Derived.Deep.LoopGhost
namespace Go.Proofs.YtpgpeafmlijfkaaDoor
open Go.RowKit
set_option maxRecDepth 100000
set_option linter.unusedVariables false
set_option linter.unusedSimpArgs false

theorem Kg.bel {w w' : World} (h : Kg (fun k => k < w.heap.size) w w') : Below w.heap.size w w' := ⟨h.os, h.tape, h.output, h.size, fun k hk => h.block k hk⟩
/-- what Close tells behind all the bytes -/
theorem clP_td (L : List UInt8) : (clP { fdP L with td := [] }).er = (clP (fdP L)).er ∧ (clP { fdP L with td := [] }).fp = (clP (fdP L)).fp ∧ ((fdP L).er ≠ 0 → clP { fdP L with td := [] } = { fdP L with td := [] } ∧ (clP (fdP L)).er = (fdP L).er ∧ (clP (fdP L)).fp = (fdP L).fp) := by
  unfold clP
  by_cases h : (fdP L).er = 0
  · simp [h]
  · simp [h]
/-- the state behind the loop, Close and the append -/
structure EnI (A : Nat → Addr) (w1 : World) (L : List UInt8) (w : World) (got want e f bad : Value) (n2 : Nat) : Prop where
  bel : Below w1.heap.size w1 w
  es : (((fdP L).er ≠ 0 ∧ n2 = 0 ∧ FT A w e (clP (fdP L)).er (clP (fdP L)).fp ∧ (clP (fdP L)).er ≠ 0) ∨ ((fdP L).er = 0 ∧ e = .nilIface))
  ff : FT A w f (clP (fdP L)).er (clP (fdP L)).fp
  fb : FT A w bad (clP (fdP L)).er (clP (fdP L)).fp
  cd : (clP (fdP L)).er ≤ 8 ∨ (clP (fdP L)).er = 20
  rs : (clP (fdP L)).er = 0 → ∃ R, Rw w got R ∧ Rw w want R
theorem fp_le (L : List UInt8) (h : (clP (fdP L)).er ≠ 0) : (clP (fdP L)).fp.1 ≤ 262200 ∧ (clP (fdP L)).fp.2 ≤ 262200 := by
  obtain ⟨f, _, h2, h3, _⟩ := first_fault L h
  have := plc_le L f
  rw [h3]
  omega
theorem end_of {A : Nat → Addr} {w1 w5 w6 wr : World} {L : List UInt8} {got want e f bad tv2 v' : Value} {V V2 : List Value} {j : Nat} (hP : PcI A w1 L wr got e j V) (hend : sj L j = fdP L) (hp : PaR A w1 L want bad)
    (ht2 : TR w5 tv2 V2 (clP { fdP L with td := [] }).td) (hf2 : FT A w5 f (clP { fdP L with td := [] }).er (clP { fdP L with td := [] }).fp) (hk5 : Kg (Gq w1.heap.size got V e) wr w5) (ho : w6.ownsRow 0 22 1 v' (V.length + V2.length) (V ++ V2)) (hg : w5.grownBy w6 got.ownBlock) : EnI A w1 L w6 v' want e f bad V2.length := by
  have hg5 : TR w5 got V (sj L j).td := ⟨own_of hP.tr.own fun g hg => hk5.block g (.inr (.inl hg)), hP.tr.rws.kept fun k hv => hk5.block k (.inr (.inr (.inl hv)))⟩
  have hnt : ∀ {f : Nat} {cs : Array Value}, w5.heap[f]? = some (.cells cs 51 (0, 0)) → w6.heap[f]? = some (.cells cs 51 (0, 0)) := fun {f cs} hf => (hg.block f (Array.getElem?_eq_some_iff.1 hf).1 (fun e => own_ne hg5.own hf (by decide) e.symm)).trans hf
  have hft : ∀ {e : Value} {c : Nat} {p : Nat × Nat}, FT A w5 e c p → FT A w6 e c p := fun {e c p} h => by
    rcases h with h0 | ⟨h1, f, h2, h3⟩
    · exact .inl h0
    · exact .inr ⟨h1, f, h2, hnt h3⟩
  have hrow : ∀ {v : Value} {n : Nat} {xs : List Value}, w5.ownsRow 0 9 1 v n xs → w6.ownsRow 0 9 1 v n xs := fun {v n xs} ho => own_of ho fun g hg' => hg.block g (World.ownsRow.lt ho g hg').2 (fun e => own_two ho hg5.own (by decide) g hg' e.symm)
  have kb5 : Kg (fun k => k < w1.heap.size) w1 w5 := hP.kg.trans (hk5.mono fun k hk => .inl hk)
  have kb6 : Kg (fun k => k < w1.heap.size) w1 w6 := kb5.grown (fun k hk => hk) hg fun k hk hlt => by have := hP.ow k hk; omega
  obtain ⟨c1, c2, c3⟩ := clP_td L
  obtain ⟨hbad, hcd⟩ := par_ft hp
  refine ⟨kb6.bel, ?_, ?_, hbad.below kb6.bel, hcd, fun h0 => ?_⟩
  · by_cases he : (fdP L).er = 0
    · right
      refine ⟨he, ?_⟩
      have := hP.ft
      rw [hend] at this
      rcases this with ⟨_, h⟩ | ⟨h, _⟩
      · exact h
      · exact absurd he h
    · left
      obtain ⟨d1, d2, d3⟩ := c3 he
      have hft0 := hP.ft
      rw [hend] at hft0
      have h5 : FT A w5 e (fdP L).er (fdP L).fp := by
        rcases hft0 with h0 | ⟨h1, f, rfl, h3⟩
        · exact .inl h0
        · exact .inr ⟨h1, f, rfl, (hk5.block f (.inr (.inr (.inr rfl)))).trans h3⟩
      have hl := ht2.rws.len
      rw [d1] at hl
      rw [d2, d3]
      exact ⟨he, hl, hft h5, he⟩
  · rw [← c1, ← c2]
    exact hft hf2
  · rcases parse_two L with ⟨p1, p2, p3⟩ | ⟨p1, _, p3, _⟩
    · rcases hp with ⟨_, _, W, hW⟩ | ⟨h, _⟩
      · refine ⟨(rdA L).1, ?_, hW.rw.below kb6.bel⟩
        have hT : TR w6 v' (V ++ V2) ((fdP L).td ++ (clP { fdP L with td := [] }).td) := by
          refine ⟨by rw [List.length_append]; exact ho, ?_⟩
          rw [← hend]
          exact RwS.app ⟨hg5.rws.len, fun j hj hv => hrow (hg5.rws.row j hj hv)⟩ ⟨by rw [hend]; exact ht2.rws.len, fun j hj hv => hrow (by have := ht2.rws.row j (by rw [hend] at hj; exact hj) hv; simpa only [hend] using this)⟩
        rw [p3] at hT
        exact hT.rw
      · exact absurd p1 h
    · rw [← c1, p3] at h0
      exact absurd h0 p1
set_option maxHeartbeats 8000000 in
theorem pieces_law (A : Nat → Addr) (s : ByteArray) (kv : Value) (K : List Int) (w : World) (hA : Sn A w) (hN : ErrN A w) (hs : s.size ≤ 140737488355328) (hK : RI w kv K) (hKb : ∀ z ∈ K, -9223372036854775808 ≤ z ∧ z ≤ 9223372036854775807) (hKl : K.length * 8 ≤ reachBytes) :
    Calls Tryd.prog 4 #[.string s, kv] w fun e w' => e = .returned (.bool true) ∧ Below w.heap.size w w' := by
  obtain ⟨ka, kc, rfl, hkc, hKc⟩ := hK
  have hkl : K.length ≤ 140737488355328 := by unfold reachBytes at hKl; omega
  have HP1 := hid (parse_any A s w hA.he)
  have HNR := hid newReader_any
  have kcv := fun w (s : ByteArray) => run_bytes_of_string (P := Tryd.prog) w 9 30 5 s Tryd.underlying9 Tryd.underlying30 Tryd.underlying5
  obtain ⟨tx, hE⟩ := hN
  have HFe := hid hE
  have HA := hid hA
  have HKc := hid hKc
  have HKb := hid hKb
  obtain ⟨L, hLd⟩ : ∃ L, L = s.data.toList := ⟨_, rfl⟩
  have HLs := hid (show L.length = s.size by rw [hLd, Array.length_toList]; rfl)
  rw [← hLd] at HP1
  have HLd := hid hLd
  clear hA hE hKc hKb hKl hLd
  go_enter Tryd.func4, Tryd.ntmps4
  go_wp2_with fail
  refine Calls.mono HP1.out ?_
  rintro e w1 ⟨rv, bad, rfl, hp, hb1⟩
  obtain ⟨ra, rn, rc, rfl⟩ := par_slice hp
  have HP := hid hp
  have HB1 := hid hb1
  clear hp hb1 HP1
  go_wp2_with fail
  refine Calls.mono (HNR.out _) ?_
  rintro e w2 ⟨rfl, hw2⟩
  have HI := hid (show PcI A w1 L w2 (.slice none 0 0) .nilIface 0 [] from by
    have hz : RZ w2 w1.heap.size := by rw [hw2]; exact heap_alloc_new w1 _
    refine ⟨⟨⟨rfl, .inl ⟨rfl, rfl⟩⟩, RwS.nil _⟩, .inl ⟨rfl, rfl⟩, ?_, fun g hg => by simp [Value.ownBlock] at hg, .inl ⟨rfl, rfl, rfl, hz⟩⟩
    rw [hw2]
    exact (Kg.refl _ w1).alloc (fun k hk => hk) _)
  have HEr := hid (HA.out.below HB1.out).he
  clear hw2
  go_wp2_with fail
  go_loopg [8, 9, 10, 11] (K.length + 1) (fun g got e from_ i wr => ∃ (j k : Nat) (V : List Value), k ≤ K.length + 1 ∧ K.length + 1 - k ≤ g ∧ from_ = .int .i64 (j : Int) ∧ i = .int .i64 (k : Int) ∧ j ≤ s.size ∧ (k = K.length + 1 → j = s.size) ∧ PcI A w1 L wr got e j V ∧ (k = 0 ∨ RX A (Gq w1.heap.size got V e) wr w1.heap.size { sj L j with td := [] }))
  case atStart => exact ⟨0, 0, [], by omega, by omega, rfl, rfl, Nat.zero_le _, by omega, HI.out, .inl rfl⟩
  case round =>
    obtain ⟨j, k, V, hk, hgk, hfr, hiv, hj, hlast, hP, hx⟩ := hrel
    subst hfr hiv
    obtain ⟨a1, c1, hgv⟩ := own_slice hP.tr.own
    subst hgv
    by_cases hgo : k ≤ K.length ∧ (sj L j).er = 0
    · rcases hP.ft with ⟨_, he⟩ | ⟨h, _⟩
      · subst he
        have hkI : (k : Int) ≤ (K.length : Int) := by omega
        have hkK1 := hgo.1
        have HPc := hid hP
        clear hP hx hgo hlast
        go_upto_if 39 with fail
        go_cut [12] from 24 to 65 (fun v wx => ∃ m : Nat, v = .int .i64 (m : Int) ∧ j ≤ m ∧ m ≤ s.size ∧ (k = K.length → m = s.size) ∧ wx = wr)
        case first =>
          by_cases hkK : k < K.length
          · have hkKI : (k : Int) < (K.length : Int) := by omega
            have hdI : decide (k < K.length) = true := by simp; exact hkK
            obtain ⟨kb, ko, hka, hc⟩ := HKc.out k hkK
            subst hka
            have hc' : wr.cell? ⟨kb, ko + k, none⟩ = some (.int .i64 K[k]) := cellB (HB1.out.trans (HPc.out.kg.bel.mono HB1.out.size)) hc
            have hz := HKb.out K[k] (List.getElem_mem _)
            have HW := hid (with_any K[k] (s.size - j + 1) wr hz.1 hz.2 (by omega))
            rw [show ((s.size - j + 1 : Nat) : Int) = (s.size : Int) - (j : Int) + 1 by omega] at HW
            generalize K[k] = z at hc' HW hz
            clear hc
            go_wp2_with fail
            refine Calls.mono HW.out ?_
            rintro e w3 ⟨⟨m, hm, rfl⟩, hw⟩
            replace hw := hw.symm
            subst hw
            go_wp2_with fail
            go_meet
            exact ⟨j + m, by simp, by omega, by omega, by omega, rfl⟩
          · have hkKI : ¬ (k : Int) < (K.length : Int) := by omega
            have hdI : decide (k < K.length) = false := by simp; omega
            go_wp2_with fail
            go_meet
            exact ⟨s.size, rfl, hj, Nat.le_refl _, fun _ => rfl, rfl⟩
        case rest =>
          obtain ⟨m, rfl, hjm, hms, hml, hwc⟩ := hcut
          replace hwc := hwc.symm
          subst hwc
          have kS := pslice2 s j m hjm hms
          obtain ⟨X, hX⟩ : ∃ X, X = s.extract j m := ⟨_, rfl⟩
          have hXl : X.data.toList = (L.take m).drop j := by rw [hX, HLd.out]; exact ext2 s j m
          have hXs : X.data.toList.length = X.size := by rw [Array.length_toList]; rfl
          have hXz : X.size ≤ s.size := by
            rw [← hXs, hXl, ← HLs.out]
            simp
            omega
          rw [← hX] at kS
          obtain ⟨W, hW⟩ : ∃ W, W = (wr.alloc (.cells (bytesRow X (grownCap wr X.size 0 5)) 5 ((bytesRow X (grownCap wr X.size 0 5)).size, (bytesRow X (grownCap wr X.size 0 5)).size + 1))).drew := ⟨_, rfl⟩
          have hWz : W.heap.size = wr.heap.size + 1 := by rw [hW]; show (wr.alloc _).heap.size = _; simp
          have hWo : ∀ k, k < wr.heap.size → W.heap[k]? = wr.heap[k]? := fun k hk => by rw [hW]; exact Lib.alloc_old wr _ k hk
          have hWB : Below wr.heap.size wr W := ⟨by rw [hW]; rfl, by rw [hW]; rfl, by rw [hW]; rfl, by omega, hWo⟩
          have hWb : BsA W wr.heap.size 0 X.data.toList := by
            intro i hi
            have hnew := heap_alloc_new wr (.cells (bytesRow X (grownCap wr X.size 0 5)) 5 ((bytesRow X (grownCap wr X.size 0 5)).size, (bytesRow X (grownCap wr X.size 0 5)).size + 1))
            have hnew' : W.heap[wr.heap.size]? = some (.cells (bytesRow X (grownCap wr X.size 0 5)) 5 ((bytesRow X (grownCap wr X.size 0 5)).size, (bytesRow X (grownCap wr X.size 0 5)).size + 1)) := by rw [hW]; exact hnew
            rw [Nat.zero_add, Lib.cell_of_heap hnew', bytesRow_at X _ i (by simpa using hi)]
            simp
          have HF := hid (feed_pc A w1 L X.data.toList wr W _ _ j m (grownCap wr X.size 0 5) V HEr.out HPc.out hjm (by rw [HLs.out]; exact hms) hXl hWB hWz hWb (by rw [hXs]; exact grownCap_ge _ _ _ _) (by rw [hXs]; omega) rfl)
          rw [hXs] at HF
          have HWk := hid hWB
          clear hWB hWz hWo hWb hXl hXs hX
          go_wp2_with fail
          rw [← hW]
          clear hW
          refine Calls.mono HF.out ?_
          rintro e w5 ⟨tv2, ev2, V2, T1, T2, G, rfl, hF⟩
          obtain ⟨a2, c2, hg2⟩ := own_slice hF.t2.own
          subst hg2
          have hfew := hF.few
          have h63 : V.length + V2.length ≤ maxLen := by unfold maxLen; omega
          have h24 : (V.length + V2.length) * 24 ≤ 140737488355328 := by omega
          have HFq := hid hF
          clear hF hfew HPc HF
          go_wp2_with (at_builtin; refine wpList_appX ssi Tryd.underlying25 rfl (by decide) rfl (.tmp 62) (.tmp 63) rfl 0 _ V.length V rfl HFq.out.t1.own _ V2.length V2 rfl (by simp) HFq.out.t2.src HFq.out.t2.one h63 h24 (Nat.zero_le _) ?n1)
          case n1 =>
          intro v' w6 ho6 hg6 hb6
          have HQ := hid (app_pc HFq.out ho6 hg6 hb6)
          clear ho6 hg6 hb6
          go_wp2
          go_roundg (gk - 1)
          case measure => omega
          case rel =>
            exact ⟨m, k + 1, V ++ V2, by omega, by omega, rfl, by first | rfl | go_num, hms, fun h => hml (by omega), HQ.out.1, .inr HQ.out.2⟩
      · exact absurd hgo.2 h
    · have hend : sj L j = fdP L := by
        refine sj_end L j ?_ (by rw [HLs.out]; exact hj)
        by_cases hkK : k ≤ K.length
        · exact .inr fun h => hgo ⟨hkK, h⟩
        · exact .inl (by rw [HLs.out]; exact hlast (by omega))
      have hrx : RX A (Gq w1.heap.size (.slice a1 V.length c1) V u9) wr w1.heap.size { sj L j with td := [] } := by
        rcases hx with h0 | h
        · rcases hP.rx with ⟨_, _, he, _⟩ | h
          · exfalso
            refine hgo ⟨by omega, ?_⟩
            rcases hP.ft with ⟨h, _⟩ | ⟨_, f, h, _⟩
            · exact h
            · rw [he] at h; cases h
          · exact h
        · exact h
      have hbd := sj_bdd L j
      have HCl := hid (close_any A _ w1.heap.size { sj L j with td := [] } wr ⟨HEr.out.kept hP.kg fun k hk => HEr.out.lt k hk, fun k hk => .inl (HEr.out.lt k hk)⟩ hrx rfl hbd.1.cur (by have := hbd.1.cs; have := hbd.2; show (sj L j).cs.length ≤ _; omega) (by have := hbd.1.rw; have := hbd.2; show (sj L j).rw ≤ _; omega))
      rw [hend] at HCl
      have HPc := hid hP
      have HEn := hid hend
      have hVl : V.length ≤ 262144 := by have := hbd.1.td; have := hbd.2; rw [hP.tr.rws.len]; omega
      have hV2 : (clP { fdP L with td := [] }).td.length ≤ 1 := by
        have hN := nxt_any { fdP L with td := [] } none (by rw [← hend]; exact hbd.1.cur)
        unfold clP
        split
        · exact hN.td
        · simp
      have HGo := hid hgo
      clear hP hrx hx hbd hend hgo hlast
      go_upto_region 9 with fail
      go_cut [31] from 24 to 31 (fun v wx => v = .bool false ∧ wx = wr)
      case first =>
        by_cases hkK : k ≤ K.length
        · have hkI : (k : Int) ≤ (K.length : Int) := by omega
          have hdI : decide (k ≤ K.length) = true := by simp; exact hkK
          rcases HPc.out.ft with ⟨h, _⟩ | ⟨_, f, he, _⟩
          · exact absurd ⟨hkK, h⟩ HGo.out
          · subst he
            go_wp2_with fail
            go_meet
            exact ⟨rfl, rfl⟩
        · have hkI : ¬ (k : Int) ≤ (K.length : Int) := by omega
          have hdI : decide (k ≤ K.length) = false := by simp; omega
          go_wp2_with fail
          go_meet
          exact ⟨rfl, rfl⟩
      case rest =>
        obtain ⟨rfl, hwc⟩ := hcut
        replace hwc := hwc.symm
        subst hwc
        go_wp2_with fail
        refine Calls.mono HCl.out ?_
        rintro e w5 ⟨tv2, V2, ev2, rfl, ht2, hf2, hk5, _⟩
        obtain ⟨a2, c2, hg2⟩ := own_slice ht2.own
        subst hg2
        have hg5 : w5.ownsRow 0 22 1 (.slice a1 V.length c1) V.length V := own_of HPc.out.tr.own fun g hg => hk5.block g (.inr (.inl hg))
        have hv2 : V2.length ≤ 1 := by rw [ht2.rws.len]; exact hV2
        have h63 : V.length + V2.length ≤ maxLen := by unfold maxLen; omega
        have h24 : (V.length + V2.length) * 24 ≤ 140737488355328 := by omega
        have HT2 := hid ht2
        have HF2 := hid hf2
        have HK5 := hid hk5
        have HG5 := hid hg5
        clear ht2 hf2 hk5 hg5 hv2 hV2 hVl HCl
        go_wp2_with (at_builtin; refine wpList_appX ssi Tryd.underlying25 rfl (by decide) rfl (.tmp 71) (.tmp 72) rfl 0 _ V.length V rfl HG5.out _ V2.length V2 rfl (by simp) HT2.out.src HT2.out.one h63 h24 (Nat.zero_le _) ?n1)
        case n1 =>
        intro v' w6 ho6 hg6 hb6
        have hEn := end_of HPc.out HEn.out HP.out HT2.out HF2.out HK5.out ho6 hg6
        obtain ⟨a6, c6, hv6⟩ := own_slice ho6
        subst hv6
        have HB6 := hid (HB1.out.trans (hEn.bel.mono HB1.out.size))
        have hrs := hEn.rs
        have hff := hEn.ff
        have hfb := hEn.fb
        have hes := hEn.es
        have hcd := hEn.cd
        clear ho6 hg6 hb6 hEn HPc HK5 HG5 HT2 HF2 h63 h24 HP
        have hpl := fp_le L
        generalize hc : (clP (fdP L)).er = c at *
        generalize hpp : (clP (fdP L)).fp = pp at *
        obtain ⟨p1, p2⟩ := pp
        clear hc hpp
        by_cases hc0 : c = 0
        · subst hc0
          rcases hff with ⟨_, hf⟩ | ⟨h, _⟩
          · subst hf
            rcases hfb with ⟨_, hf⟩ | ⟨h, _⟩
            · subst hf
              rcases hes with ⟨_, _, _, h4⟩ | ⟨_, he⟩
              · exact absurd rfl h4
              · subst he
                obtain ⟨R, r1, r2⟩ := hrs rfl
                have HS := hid (sameRows_is _ _ R w6 r1 r2)
                clear r1 r2 hrs hpl hcd
                go_wp2_with fail
                refine Calls.mono HS.out ?_
                rintro e w7 ⟨rfl, hb7⟩
                have HB7 := hid (HB6.out.trans (hb7.mono HB6.out.size))
                clear hb7
                go_wp2
                go_ret
                exact ⟨rfl, HB7.out⟩
            · exact absurd rfl h
          · exact absurd rfl h
        · have hcd' : 1 ≤ c ∧ c ≤ 20 := by omega
          obtain ⟨hx1, hx2⟩ := hpl hc0
          rcases hff with ⟨h, _⟩ | ⟨_, f1, hf, hf1⟩
          · exact absurd h hc0
          · subst hf
            rcases hfb with ⟨h, _⟩ | ⟨_, f2, hf, hf2⟩
            · exact absurd h hc0
            · subst hf
              have er : ∀ f, w6.heap[f]? = some (.cells #[.int .i64 (p1 : Int), .int .i64 (p2 : Int), erV A c] 51 (0, 0)) → ∀ wx, Below w6.heap.size w6 wx → Calls Tryd.prog 63 #[.pointer (some ⟨f, 0, none⟩)] wx fun e w' => e = .returned (.string (tx p1 p2 c)) ∧ Below wx.heap.size wx w' := fun f hf wx h => HFe.out f c p1 p2 wx (HB6.out.trans (h.mono HB6.out.size)) hx1 hx2 ((h.block f (Array.getElem?_eq_some_iff.1 hf).1).trans hf) hcd'
              have kn : ∀ wx, Below w6.heap.size w6 wx → Calls Tryd.prog 8 #[.iface 54 (.pointer (some ⟨f1, 0, none⟩))] wx fun e w' => e = .returned (.int .i64 1) ∧ Below wx.heap.size wx w' := fun wx h => kinds_any A f1 c _ _ wx ((h.block f1 (Array.getElem?_eq_some_iff.1 hf1).1).trans hf1) (HA.out.below (HB6.out.trans (h.mono HB6.out.size))) hcd'
              generalize tx p1 p2 c = txv at er
              have hsame : (txv.toList == txv.toList) = true := by simp
              have HE1 := hid (er f1 hf1)
              have HE2 := hid (er f2 hf2)
              have HKn := hid kn
              have H66 := hid (Below.refl w6.heap.size w6)
              rcases hes with ⟨_, h2, h3, _⟩ | ⟨_, he⟩
              · rcases h3 with ⟨h, _⟩ | ⟨_, f0, he, hf0⟩
                · exact absurd h hc0
                · subst he
                  have HE0 := hid (er f0 hf0)
                  have hV0 : V2 = [] := List.eq_nil_of_length_eq_zero h2
                  subst hV0
                  clear er kn hf0 hf1 hf2 hrs hpl hcd hc0 hcd' hx1 hx2 h2
                  go_wp2_with fail
                  refine Calls.mono (HE1.out _ H66.out) ?_
                  rintro e w7 ⟨rfl, hb7⟩
                  have B7 := hid (H66.out.trans (hb7.mono H66.out.size))
                  clear hb7
                  go_wp2_with fail
                  refine Calls.mono (HE0.out _ B7.out) ?_
                  rintro e w8 ⟨rfl, hb8⟩
                  have B8 := hid (B7.out.trans (hb8.mono B7.out.size))
                  clear hb8
                  go_wp2_with fail
                  refine Calls.mono (HE1.out _ B8.out) ?_
                  rintro e w9 ⟨rfl, hb9⟩
                  have B9 := hid (B8.out.trans (hb9.mono B8.out.size))
                  clear hb9
                  go_wp2_with fail
                  refine Calls.mono (HE2.out _ B9.out) ?_
                  rintro e wa ⟨rfl, hba⟩
                  have Ba := hid (B9.out.trans (hba.mono B9.out.size))
                  clear hba
                  go_wp2_with fail
                  refine Calls.mono (HKn.out _ Ba.out) ?_
                  rintro e wb ⟨rfl, hbb⟩
                  have Bb := hid (Ba.out.trans (hbb.mono Ba.out.size))
                  clear hbb
                  go_wp2
                  go_ret
                  exact ⟨rfl, HB6.out.trans (Bb.out.mono HB6.out.size)⟩
              · subst he
                clear er kn hf1 hf2 hrs hpl hcd hc0 hcd' hx1 hx2
                go_wp2_with fail
                refine Calls.mono (HE1.out _ H66.out) ?_
                rintro e w9 ⟨rfl, hb9⟩
                have B9 := hid (H66.out.trans (hb9.mono H66.out.size))
                clear hb9
                go_wp2_with fail
                refine Calls.mono (HE2.out _ B9.out) ?_
                rintro e wa ⟨rfl, hba⟩
                have Ba := hid (B9.out.trans (hba.mono B9.out.size))
                clear hba
                go_wp2_with fail
                refine Calls.mono (HKn.out _ Ba.out) ?_
                rintro e wb ⟨rfl, hbb⟩
                have Bb := hid (Ba.out.trans (hbb.mono Ba.out.size))
                clear hbb
                go_wp2
                go_ret
                exact ⟨rfl, HB6.out.trans (Bb.out.mono HB6.out.size)⟩
end Go.Proofs.YtpgpeafmlijfkaaDoor
