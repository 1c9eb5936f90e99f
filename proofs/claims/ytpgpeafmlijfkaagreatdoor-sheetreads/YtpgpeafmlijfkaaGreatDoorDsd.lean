/-
  Sheets, the document's side: read. Laid by mkdsd.py.
-/
import Derived.Test.YtpgpeafmlijfkaaGreatDoorDsr
import Derived.Test.YtpgpeafmlijfkaaGreatDoorSqb
namespace Go.Proofs.YtpgpeafmlijfkaaGreatDoor
open Go.RowKit
set_option maxRecDepth 100000
set_option linter.unusedVariables false
set_option linter.unusedSimpArgs false

theorem rdD_out {L : List UInt8} {n i : Nat} {acc : List (List (List UInt8))} (h : ¬ i < L.length) : rdD L (n + 1) i acc = (acc, acc.length, 0, 0) := by rw [rdD, if_neg h]
theorem rdD_full {L : List UInt8} {n i : Nat} {acc : List (List (List UInt8))} (h : i < L.length) (h1 : acc.length = 4096) : rdD L (n + 1) i acc = (acc, acc.length, 7, i) := by rw [rdD, if_pos h, if_pos h1]
theorem rdD_bad {L : List UInt8} {n i : Nat} {acc : List (List (List UInt8))} (h : i < L.length) (h1 : ¬ acc.length = 4096) (h2 : (rowD L (L.length + 1) i []).2.2.1 ≠ 0) : rdD L (n + 1) i acc = (acc, acc.length, (rowD L (L.length + 1) i []).2.2.1, (rowD L (L.length + 1) i []).2.2.2) := by
  rw [rdD, if_pos h, if_neg h1]
  simp only []
  rw [if_pos h2]
theorem rdD_line {L : List UInt8} {n i : Nat} {acc : List (List (List UInt8))} (h : i < L.length) (h1 : ¬ acc.length = 4096) (h2 : (rowD L (L.length + 1) i []).2.2.1 = 0) (h3 : (rowD L (L.length + 1) i []).2.1 < L.length ∧ ((rowD L (L.length + 1) i []).2.1 + 1 = L.length ∨ ch L ((rowD L (L.length + 1) i []).2.1 + 1) ≠ 10)) : rdD L (n + 1) i acc = (acc, acc.length, 3, (rowD L (L.length + 1) i []).2.1) := by
  rw [rdD, if_pos h, if_neg h1]
  simp only []
  rw [if_neg (by simp [h2]), if_pos h3]
theorem rdD_rag {L : List UInt8} {n i : Nat} {acc : List (List (List UInt8))} (h : i < L.length) (h1 : ¬ acc.length = 4096) (h2 : (rowD L (L.length + 1) i []).2.2.1 = 0) (h3 : ¬ ((rowD L (L.length + 1) i []).2.1 < L.length ∧ ((rowD L (L.length + 1) i []).2.1 + 1 = L.length ∨ ch L ((rowD L (L.length + 1) i []).2.1 + 1) ≠ 10))) (h4 : 0 < acc.length ∧ (rowD L (L.length + 1) i []).1.length ≠ (acc.headD []).length) : rdD L (n + 1) i acc = (acc, acc.length, 8, (rowD L (L.length + 1) i []).2.1) := by
  rw [rdD, if_pos h, if_neg h1]
  simp only []
  rw [if_neg (by simp [h2]), if_neg h3, if_pos h4]
theorem rdD_last {L : List UInt8} {n i : Nat} {acc : List (List (List UInt8))} (h : i < L.length) (h1 : ¬ acc.length = 4096) (h2 : (rowD L (L.length + 1) i []).2.2.1 = 0) (h3 : ¬ ((rowD L (L.length + 1) i []).2.1 < L.length ∧ ((rowD L (L.length + 1) i []).2.1 + 1 = L.length ∨ ch L ((rowD L (L.length + 1) i []).2.1 + 1) ≠ 10))) (h4 : ¬ (0 < acc.length ∧ (rowD L (L.length + 1) i []).1.length ≠ (acc.headD []).length)) (h5 : (rowD L (L.length + 1) i []).2.1 = L.length) : rdD L (n + 1) i acc = (acc ++ [(rowD L (L.length + 1) i []).1], acc.length, 0, 0) := by
  rw [rdD, if_pos h, if_neg h1]
  simp only []
  rw [if_neg (by simp [h2]), if_neg h3, if_neg h4, if_pos h5]
theorem rdD_next {L : List UInt8} {n i : Nat} {acc : List (List (List UInt8))} (h : i < L.length) (h1 : ¬ acc.length = 4096) (h2 : (rowD L (L.length + 1) i []).2.2.1 = 0) (h3 : ¬ ((rowD L (L.length + 1) i []).2.1 < L.length ∧ ((rowD L (L.length + 1) i []).2.1 + 1 = L.length ∨ ch L ((rowD L (L.length + 1) i []).2.1 + 1) ≠ 10))) (h4 : ¬ (0 < acc.length ∧ (rowD L (L.length + 1) i []).1.length ≠ (acc.headD []).length)) (h5 : ¬ (rowD L (L.length + 1) i []).2.1 = L.length) : rdD L (n + 1) i acc = rdD L n ((rowD L (L.length + 1) i []).2.1 + 2) (acc ++ [(rowD L (L.length + 1) i []).1]) := by
  rw [rdD, if_pos h, if_neg h1]
  simp only []
  rw [if_neg (by simp [h2]), if_neg h3, if_neg h4, if_neg h5]
/-- a list of rows, of the call's own -/
structure LR (w : World) (B : Nat) (v : Value) (V : List Value) (T : List (List (List UInt8))) : Prop where
  own : w.ownsRow B 28 1 v V.length V
  rws : RwS w V T
theorem LR.len {w : World} {B : Nat} {v : Value} {V : List Value} {T : List (List (List UInt8))} (h : LR w B v V T) : V.length = T.length := h.rws.len
theorem LR.big {w w' : World} {B : Nat} {v : Value} {V : List Value} {T : List (List (List UInt8))} (h : LR w B v V T) (hb : Below w.heap.size w w') : LR w' B v V T := ⟨own_big h.own hb, h.rws.len, fun j hj hv => own_big (h.rws.row j hj hv) hb⟩
theorem LR.put {w w' : World} {B b c l k i : Nat} {v : Value} {V : List Value} {T : List (List (List UInt8))} (h : LR w B v V T) (hg : w.grownBy w' (some b)) (hf : FW w b c l k i) : LR w' B v V T :=
  ⟨own_keep h.own hg (own_ne h.own hf (by decide)), h.rws.len, fun j hj hv => own_keep (h.rws.row j hj hv) hg (own_ne (h.rws.row j hj hv) hf (by decide))⟩
theorem LR.alloc {w : World} {B : Nat} {v : Value} {V : List Value} {T : List (List (List UInt8))} (h : LR w B v V T) (o : Obj) : LR (w.alloc o) B v V T := ⟨h.own.alloc _, h.rws.len, fun j hj hv => (h.rws.row j hj hv).alloc _⟩
theorem LR.first {w : World} {B : Nat} {a : Option Addr} {n c : Nat} {V : List Value} {T : List (List (List UInt8))} (h : LR w B (.slice a n c) V T) (h0 : 0 < T.length) : ∃ g x y, a = some ⟨g, 0, none⟩ ∧ w.cell? ⟨g, 0, none⟩ = some (.slice x (T.headD []).length y) := by
  have hl := h.rws.len
  have hc := fun g hg => World.ownsRow.cells h.own (g := g) hg
  obtain ⟨x, y, e⟩ := own_slice (h.rws.row 0 h0 (by omega))
  rcases h.own.2 with ⟨_, h1⟩ | ⟨g, cap, cur, e2, _⟩
  · omega
  · cases e2
    have := hc g rfl 0 V[0] (by simp)
    rw [Addr.add_lit] at this
    refine ⟨g, x, y, rfl, ?_⟩
    have ht : (T.headD []).length = T[0].length := by
      cases T with
      | nil => simp at h0
      | cons a b => rfl
    rw [ht, ← e]
    exact this
theorem LR.drew {w : World} {B : Nat} {v : Value} {V : List Value} {T : List (List (List UInt8))} (h : LR w B v V T) : LR w.drew B v V T := ⟨h.own, h.rws.len, fun j hj hv => h.rws.row j hj hv⟩
/-- what read answers -/
def RdR (w : World) (L : List UInt8) (q : List (List (List UInt8)) × Nat × Nat × Nat) (e : Ending) (w' : World) : Prop := ∃ v V, e = .returned (.tuple #[v, .int .i64 (q.2.1 : Int), fQ L q.2.2.1 q.2.2.2]) ∧ LR w' w.heap.size v V q.1 ∧ Below w.heap.size w w'
theorem LR.app {w w2 : World} {B n : Nat} {a : Option Addr} {cp : Nat} {V : List Value} {T : List (List (List UInt8))} {o : Obj} {t : List (List UInt8)} {v v' : Value} (h : LR w B (.slice a n cp) V T) (hv : w.ownsRow 0 9 1 v t.length (tl t)) (hg : (w.alloc o).grownBy w2 (Value.slice a n cp).ownBlock) (ho : w2.ownsRow B 28 1 v' (V.length + 1) (V ++ [v])) : LR w2 B v' (V ++ [v]) (T ++ [t]) := by
  have hrow : ∀ {u : Value} {m : Nat} {xs : List Value}, w.ownsRow 0 9 1 u m xs → w2.ownsRow 0 9 1 u m xs := fun {u m xs} hu => own_of hu fun g hgu => (hg.block g (by have := (World.ownsRow.lt hu g hgu).2; simp; omega) (fun e => own_two hu h.own (by decide) g hgu e.symm)).trans (Lib.alloc_old w o g (World.ownsRow.lt hu g hgu).2)
  refine ⟨by rw [List.length_append]; exact ho, RwS.snoc ⟨h.rws.len, fun j hj hv' => hrow (h.rws.row j hj hv')⟩ (hrow hv)⟩
attribute [local go_sem ↓] fLd_op fSt_op
set_option maxHeartbeats 12000000 in
theorem dread_any (s : ByteArray) (w : World) (hs : s.size ≤ 140737500000000) :
    Calls Tryz.prog 53 #[.string s] w fun e w' => RdR w s.data.toList (rdD s.data.toList (s.data.toList.length + 1) 0 []) e w' := by
  have HPl := hid (fun c i w (hi : i ≤ s.size) => placed_any s c i w hs hi)
  have HRo := hid (fun i w (hi : i ≤ s.size) => drow_any s i w hs hi)
  have hds : s.data.toList.length = s.size := by rw [Array.length_toList]; rfl
  have HDS := hid hds
  obtain ⟨R, hR⟩ : ∃ R, R = rdD s.data.toList (s.data.toList.length + 1) 0 [] := ⟨_, rfl⟩
  rw [← hR]
  have HR := hid hR
  clear hds hR
  go_enter Tryz.func53, Tryz.ntmps53
  go_wp2_with fail
  go_loopw [5, 6] (fun lv j wr => ∃ (i n : Nat) (acc : List (List (List UInt8))) (V : List Value), i ≤ s.size ∧ j = .int .i64 (i : Int) ∧ LR wr w.heap.size lv V acc ∧ acc.length ≤ 4096 ∧ Below w.heap.size w wr ∧ FW wr w.heap.size 0 0 0 0 ∧ s.size - i < n ∧ R = rdD s.data.toList n i acc) (fun _ j _ => s.size - (intOf j).toNat)
  case atStart =>
    refine ⟨0, s.data.toList.length + 1, [], [], Nat.zero_le _, rfl, ⟨World.ownsRow_nil _ _ _ _, RwS.nil _⟩, by simp, (Below.refl _ _).alloc (Nat.le_refl _) _, FW.new w, by rw [HDS.out]; omega, HR.out⟩
  case round =>
    obtain ⟨i, n, acc, V, hi, rfl, hown, hal, hbl, hfb, hn, hRR⟩ := hrel
    have HVl := hid hown.len
    have hVb : V.length ≤ 4096 := by have := HVl.out; omega
    obtain ⟨ta, tc, rfl⟩ := own_slice hown.own
    have r2 : i ≤ 200000000000000 := by omega
    have HO := hid hown
    have HB := hid hbl
    have HF := hid hfb
    clear hown hbl hfb HR
    obtain ⟨n, rfl⟩ : ∃ m, n = m + 1 := ⟨n - 1, by omega⟩
    by_cases hlt : i < s.size
    · have hI : (i : Int) < (s.size : Int) := by omega
      have hL : i < s.data.toList.length := by rw [HDS.out]; exact hlt
      by_cases h4 : acc.length = 4096
      · have e4 : ((V.length : Int) == 4096) = true := by have := HVl.out; rw [beq_iff_eq]; omega
        have HV := hid (hRR.trans (rdD_full hL h4))
        clear hRR hL h4
        go_wp2_with fail
        refine Calls.mono (HPl.out 7 i _ (by omega)) ?_
        rintro e w3 ⟨rfl, hb3⟩
        obtain ⟨W, ES, hW, gW⟩ := run_fSt (HF.out.big hb3) 7 (plc s.data.toList i).1 (plc s.data.toList i).2 i
        have EL := run_fLd hW
        have BF := hid ((HB.out.trans (hb3.mono HB.out.size)).grown gW (Nat.le_trans HB.out.size hb3.size) (fun b hb => by cases hb; exact Nat.le_refl _))
        have HT := hid (LR.put (HO.out.big hb3) gW ((HF.out.big hb3)))
        obtain ⟨gv, hgv⟩ : ∃ fv, fv = fV 7 (plc s.data.toList i).1 (plc s.data.toList i).2 i := ⟨_, rfl⟩
        rw [← hgv] at ES EL ⊢
        have HGv := hid hgv
        clear hW gW hb3 hgv
        go_wp2
        refine bodyPost_ret (by simp [results, Tryz.results53, asAddr, ↓fLd_op, EL]; try rfl) rfl ?_
        rw [HV.out, HGv.out]
        unfold RdR
        exact ⟨_, V, by rw [← HVl.out]; rfl, HT.out, BF.out⟩
      · have e4 : ((V.length : Int) == 4096) = false := by have := HVl.out; rw [beq_eq_false_iff_ne]; omega
        have K1 := hid (fun h2 => hRR.trans (rdD_bad hL h4 h2))
        have K2 := hid (fun h2 h3 => hRR.trans (rdD_line hL h4 h2 h3))
        have K3 := hid (fun h2 h3 h4' => hRR.trans (rdD_rag hL h4 h2 h3 h4'))
        have K4 := hid (fun h2 h3 h4' h5 => hRR.trans (rdD_last hL h4 h2 h3 h4' h5))
        have K5 := hid (fun h2 h3 h4' h5 => hRR.trans (rdD_next hL h4 h2 h3 h4' h5))
        have hcf := rowD_form s.data.toList (s.data.toList.length + 1) i [] (Nat.le_of_lt hL) (by omega) (by simp) (by simp)
        have HC := hid (HRo.out i wr hi)
        clear hRR
        obtain ⟨⟨T, j, c, f⟩, hq⟩ : ∃ q, q = rowD s.data.toList (s.data.toList.length + 1) i [] := ⟨_, rfl⟩
        rw [← hq] at K1 K2 K3 K4 K5 hcf HC
        clear hq
        go_wp2_with fail
        refine Calls.mono HC.out ?_
        rintro e w1 ⟨rv, rfl, hrv, hb1⟩
        simp only [] at hrv ⊢
        obtain ⟨ra, rc, rfl⟩ := own_slice hrv
        rw [fQ_is]
        obtain ⟨W1, ES1, hW1, hbW, hzW⟩ := run_fStN w1 c (fP s.data.toList c f).1 (fP s.data.toList c f).2.1 (fP s.data.toList c f).2.2
        have hbB : Below wr.heap.size wr W1 := hb1.trans (hbW.mono hb1.size)
        have HB1 := hid (HB.out.trans (hbB.mono HB.out.size))
        have HF1 := hid (HF.out.big hbB)
        have HO1 := hid (HO.out.big hbB)
        have HRv := hid (own_low (own_big hrv hbW))
        have hc0 := hW1.cell
        have HW1 := hid hW1
        obtain ⟨fv, hfv⟩ : ∃ fv, fv = fV c (fP s.data.toList c f).1 (fP s.data.toList c f).2.1 (fP s.data.toList c f).2.2 := ⟨_, rfl⟩
        have HFv := hid hfv
        rw [← hfv] at ES1 ⊢
        clear hb1 hbW hW1 hfv hbB HC hrv
        by_cases hc : c = 0
        · subst hc
          obtain ⟨hT1, hT2, _, hij, hjs, _⟩ := hcf rfl
          rw [HDS.out] at hjs
          have r3 : j ≤ 200000000000000 := by omega
          have hc0' : W1.cell? ⟨w1.heap.size, 0, none⟩ = some (.int .i64 0) := hc0
          clear hc0 hcf K1
          by_cases hjl : j < s.size
          · have hJ : (j : Int) < (s.size : Int) := by omega
            by_cases hj1 : j + 1 = s.size
            · have p1 : (j : Int) + 1 = (s.size : Int) := by omega
              have e1 : ((j : Int) + 1 == (s.size : Int)) = true := by rw [beq_iff_eq]; exact p1
              have HV := hid (K2.out rfl ⟨by rw [HDS.out]; exact hjl, .inl (by rw [HDS.out]; exact hj1)⟩)
              clear p1 hj1
              go_wp2_with fail
              refine Calls.mono (HPl.out 3 j _ (by omega)) ?_
              rintro e w3 ⟨rfl, hb3⟩
              obtain ⟨W, ES, hW, gW⟩ := run_fSt (HF1.out.big hb3) 3 (plc s.data.toList j).1 (plc s.data.toList j).2 j
              have EL := run_fLd hW
              have BF := hid ((HB1.out.trans (hb3.mono HB1.out.size)).grown gW (Nat.le_trans HB1.out.size hb3.size) (fun b hb => by cases hb; exact Nat.le_refl _))
              have HT := hid (LR.put (HO1.out.big hb3) gW ((HF1.out.big hb3)))
              obtain ⟨gv, hgv⟩ : ∃ fv, fv = fV 3 (plc s.data.toList j).1 (plc s.data.toList j).2 j := ⟨_, rfl⟩
              rw [← hgv] at ES EL ⊢
              have HGv := hid hgv
              clear hW gW hb3 hgv
              go_wp2
              refine bodyPost_ret (by simp [results, Tryz.results53, asAddr, ↓fLd_op, EL]; try rfl) rfl ?_
              rw [HV.out, HGv.out]
              unfold RdR
              exact ⟨_, V, by rw [← HVl.out]; rfl, HT.out, BF.out⟩
            · have p1 : ¬ (j : Int) + 1 = (s.size : Int) := by omega
              have e1 : ((j : Int) + 1 == (s.size : Int)) = false := by rw [beq_eq_false_iff_ne]; exact p1
              have hj2 : j + 1 < s.size := by omega
              have hJ2 : (j : Int) + 1 < (s.size : Int) := by omega
              have hcj : ch s.data.toList (j + 1) = s[j + 1].toNat := by unfold ch; rw [bt_at s (j + 1) hj2]
              by_cases h10 : s[j + 1].toNat = 10
              · have p10 : (s[j + 1].toNat : Int) = 10 := by omega
                have n10 : ((s[j + 1].toNat : Int) != 10) = false := by simp; omega
                have hln : ¬ (j < s.data.toList.length ∧ (j + 1 = s.data.toList.length ∨ ch s.data.toList (j + 1) ≠ 10)) := by rw [HDS.out, hcj]; omega
                have HNe := hid (show ¬ j = s.data.toList.length by rw [HDS.out]; omega)
                by_cases h0 : 0 < acc.length
                · have hV0 : (0 : Int) < (V.length : Int) := by have := HVl.out; omega
                  have dV0 : decide ((0 : Int) < (V.length : Int)) = true := decide_eq_true hV0
                  obtain ⟨g, x, y, rfl, cg⟩ := HO1.out.first h0
                  by_cases hw : T.length = (acc.headD []).length
                  · have pw : (T.length : Int) = ((acc.headD []).length : Int) := by omega
                    have nw : ((T.length : Int) != ((acc.headD []).length : Int)) = false := by rw [pw]; exact bne_self_eq_false _
                    have hrg : ¬ (0 < acc.length ∧ T.length ≠ (acc.headD []).length) := fun h => h.2 hw
                    clear hw pw
                    generalize (acc.headD []).length = hd at *
                    have HV := hid (K5.out rfl hln hrg HNe.out)
                    have ee : ((j : Int) == (s.size : Int)) = false := by rw [beq_eq_false_iff_ne]; omega

                    go_wp2_with (at_builtin; refine wpList_append_own_at _ rfl _ _ 30 rfl w.heap.size 28 _ (.slice none 0 0) 1 24 Tryz.underlying30 (info_parts ssi).choose_spec.1 (info_parts ssi).choose_spec.2.1 (info_parts ssi).choose_spec.2.2.1 (info_parts ssi).choose_spec.2.2.2 rfl (by decide) _ _ _ rfl (HO1.out.own.alloc _) ⟨W1.heap.size, 0, none⟩ 1 1 [.slice ra T.length rc] rfl rfl (by intro j u hj; cases j with | zero => simp at hj; subst hj; simp [Addr.add] | succ j => simp at hj) (by intro u hu; simp at hu; subst hu; rfl) (by unfold maxLen; omega) (by omega) (by have := HB1.out.size; simp; omega) ?_)
                    intro v' w2 hown' hgrow _ hblk
                    obtain ⟨a', c', rfl⟩ := own_slice hown'
                    have HB2 := hid ((HB1.out.alloc HB1.out.size _).grown hgrow (by simp; have := HB1.out.size; omega) (fun k hk => (World.ownsRow.lt HO1.out.own k hk).1))
                    have HF2 := hid ((HF1.out.alloc _).grown hgrow (fun e => own_ne HO1.out.own HF1.out (by decide) e))
                    have HO2 := hid (LR.app HO1.out HRv.out hgrow hown')
                    clear hown' hgrow hblk
                    go_wp2
                    go_roundw
                    case rel => exact ⟨j + 2, n, acc ++ [T], V ++ [.slice ra T.length rc], by omega, by go_num, HO2.out, by simp; omega, HB2.out, HF2.out, by omega, HV.out⟩
                    case measure => simp [intOf]; omega
                  · have pw : ¬ (T.length : Int) = ((acc.headD []).length : Int) := by omega
                    have nw : ((T.length : Int) != ((acc.headD []).length : Int)) = true := bne_iff_ne.2 pw
                    have HV := hid (K3.out rfl hln ⟨h0, hw⟩)
                    clear hw
                    generalize (acc.headD []).length = hd at *
                    go_wp2_with fail
                    refine Calls.mono (HPl.out 8 j _ (by omega)) ?_
                    rintro e w3 ⟨rfl, hb3⟩
                    obtain ⟨W, ES, hW, gW⟩ := run_fSt (HF1.out.big hb3) 8 (plc s.data.toList j).1 (plc s.data.toList j).2 j
                    have EL := run_fLd hW
                    have BF := hid ((HB1.out.trans (hb3.mono HB1.out.size)).grown gW (Nat.le_trans HB1.out.size hb3.size) (fun b hb => by cases hb; exact Nat.le_refl _))
                    have HT := hid (LR.put (HO1.out.big hb3) gW ((HF1.out.big hb3)))
                    obtain ⟨gv, hgv⟩ : ∃ fv, fv = fV 8 (plc s.data.toList j).1 (plc s.data.toList j).2 j := ⟨_, rfl⟩
                    rw [← hgv] at ES EL ⊢
                    have HGv := hid hgv
                    clear hW gW hb3 hgv
                    go_wp2
                    refine bodyPost_ret (by simp [results, Tryz.results53, asAddr, ↓fLd_op, EL]; try rfl) rfl ?_
                    rw [HV.out, HGv.out]
                    unfold RdR
                    exact ⟨_, V, by rw [← HVl.out]; rfl, HT.out, BF.out⟩
                · have hV0 : ¬ (0 : Int) < (V.length : Int) := by have := HVl.out; omega
                  have dV0 : decide ((0 : Int) < (V.length : Int)) = false := decide_eq_false hV0
                  have hrg : ¬ (0 < acc.length ∧ T.length ≠ (acc.headD []).length) := fun h => h0 h.1
                  have HV := hid (K5.out rfl hln hrg HNe.out)
                  have ee : ((j : Int) == (s.size : Int)) = false := by rw [beq_eq_false_iff_ne]; omega

                  go_wp2_with (at_builtin; refine wpList_append_own_at _ rfl _ _ 30 rfl w.heap.size 28 _ (.slice none 0 0) 1 24 Tryz.underlying30 (info_parts ssi).choose_spec.1 (info_parts ssi).choose_spec.2.1 (info_parts ssi).choose_spec.2.2.1 (info_parts ssi).choose_spec.2.2.2 rfl (by decide) _ _ _ rfl (HO1.out.own.alloc _) ⟨W1.heap.size, 0, none⟩ 1 1 [.slice ra T.length rc] rfl rfl (by intro j u hj; cases j with | zero => simp at hj; subst hj; simp [Addr.add] | succ j => simp at hj) (by intro u hu; simp at hu; subst hu; rfl) (by unfold maxLen; omega) (by omega) (by have := HB1.out.size; simp; omega) ?_)
                  intro v' w2 hown' hgrow _ hblk
                  obtain ⟨a', c', rfl⟩ := own_slice hown'
                  have HB2 := hid ((HB1.out.alloc HB1.out.size _).grown hgrow (by simp; have := HB1.out.size; omega) (fun k hk => (World.ownsRow.lt HO1.out.own k hk).1))
                  have HF2 := hid ((HF1.out.alloc _).grown hgrow (fun e => own_ne HO1.out.own HF1.out (by decide) e))
                  have HO2 := hid (LR.app HO1.out HRv.out hgrow hown')
                  clear hown' hgrow hblk
                  go_wp2
                  go_roundw
                  case rel => exact ⟨j + 2, n, acc ++ [T], V ++ [.slice ra T.length rc], by omega, by go_num, HO2.out, by simp; omega, HB2.out, HF2.out, by omega, HV.out⟩
                  case measure => simp [intOf]; omega
              · have p10 : ¬ (s[j + 1].toNat : Int) = 10 := by omega
                have n10 : ((s[j + 1].toNat : Int) != 10) = true := by simp; omega
                have HV := hid (K2.out rfl ⟨by rw [HDS.out]; exact hjl, .inr (by rw [hcj]; exact h10)⟩)
                clear hcj h10
                go_wp2_with fail
                refine Calls.mono (HPl.out 3 j _ (by omega)) ?_
                rintro e w3 ⟨rfl, hb3⟩
                obtain ⟨W, ES, hW, gW⟩ := run_fSt (HF1.out.big hb3) 3 (plc s.data.toList j).1 (plc s.data.toList j).2 j
                have EL := run_fLd hW
                have BF := hid ((HB1.out.trans (hb3.mono HB1.out.size)).grown gW (Nat.le_trans HB1.out.size hb3.size) (fun b hb => by cases hb; exact Nat.le_refl _))
                have HT := hid (LR.put (HO1.out.big hb3) gW ((HF1.out.big hb3)))
                obtain ⟨gv, hgv⟩ : ∃ fv, fv = fV 3 (plc s.data.toList j).1 (plc s.data.toList j).2 j := ⟨_, rfl⟩
                rw [← hgv] at ES EL ⊢
                have HGv := hid hgv
                clear hW gW hb3 hgv
                go_wp2
                refine bodyPost_ret (by simp [results, Tryz.results53, asAddr, ↓fLd_op, EL]; try rfl) rfl ?_
                rw [HV.out, HGv.out]
                unfold RdR
                exact ⟨_, V, by rw [← HVl.out]; rfl, HT.out, BF.out⟩
          · have hJ : ¬ (j : Int) < (s.size : Int) := by omega
            have hln : ¬ (j < s.data.toList.length ∧ (j + 1 = s.data.toList.length ∨ ch s.data.toList (j + 1) ≠ 10)) := by rw [HDS.out]; omega
            have HNe := hid (show j = s.data.toList.length by rw [HDS.out]; omega)
            by_cases h0 : 0 < acc.length
            · have hV0 : (0 : Int) < (V.length : Int) := by have := HVl.out; omega
              have dV0 : decide ((0 : Int) < (V.length : Int)) = true := decide_eq_true hV0
              obtain ⟨g, x, y, rfl, cg⟩ := HO1.out.first h0
              by_cases hw : T.length = (acc.headD []).length
              · have pw : (T.length : Int) = ((acc.headD []).length : Int) := by omega
                have nw : ((T.length : Int) != ((acc.headD []).length : Int)) = false := by rw [pw]; exact bne_self_eq_false _
                have hrg : ¬ (0 < acc.length ∧ T.length ≠ (acc.headD []).length) := fun h => h.2 hw
                clear hw pw
                generalize (acc.headD []).length = hd at *
                have HV := hid (K4.out rfl hln hrg HNe.out)
                have ee : ((j : Int) == (s.size : Int)) = true := by rw [beq_iff_eq]; omega

                go_wp2_with (at_builtin; refine wpList_append_own_at _ rfl _ _ 30 rfl w.heap.size 28 _ (.slice none 0 0) 1 24 Tryz.underlying30 (info_parts ssi).choose_spec.1 (info_parts ssi).choose_spec.2.1 (info_parts ssi).choose_spec.2.2.1 (info_parts ssi).choose_spec.2.2.2 rfl (by decide) _ _ _ rfl (HO1.out.own.alloc _) ⟨W1.heap.size, 0, none⟩ 1 1 [.slice ra T.length rc] rfl rfl (by intro j u hj; cases j with | zero => simp at hj; subst hj; simp [Addr.add] | succ j => simp at hj) (by intro u hu; simp at hu; subst hu; rfl) (by unfold maxLen; omega) (by omega) (by have := HB1.out.size; simp; omega) ?_)
                intro v' w2 hown' hgrow _ hblk
                obtain ⟨a', c', rfl⟩ := own_slice hown'
                have HB2 := hid ((HB1.out.alloc HB1.out.size _).grown hgrow (by simp; have := HB1.out.size; omega) (fun k hk => (World.ownsRow.lt HO1.out.own k hk).1))
                have HF2 := hid ((HF1.out.alloc _).grown hgrow (fun e => own_ne HO1.out.own HF1.out (by decide) e))
                have HO2 := hid (LR.app HO1.out HRv.out hgrow hown')
                clear hown' hgrow hblk
                obtain ⟨W, ES, hW, gW⟩ := run_fSt0 HF2.out
                have EL := run_fLd hW
                have BF := hid (HB2.out.grown gW HB2.out.size (fun b hb => by cases hb; exact Nat.le_refl _))
                have HT := hid (LR.put HO2.out gW HF2.out)
                clear hW gW
                go_wp2
                refine bodyPost_ret (by simp [results, Tryz.results53, asAddr, ↓fLd_op, EL]; try rfl) rfl ?_
                rw [HV.out]
                unfold RdR
                exact ⟨_, V ++ [.slice ra T.length rc], by rw [← HVl.out]; rfl, HT.out, BF.out⟩
              · have pw : ¬ (T.length : Int) = ((acc.headD []).length : Int) := by omega
                have nw : ((T.length : Int) != ((acc.headD []).length : Int)) = true := bne_iff_ne.2 pw
                have HV := hid (K3.out rfl hln ⟨h0, hw⟩)
                clear hw
                generalize (acc.headD []).length = hd at *
                go_wp2_with fail
                refine Calls.mono (HPl.out 8 j _ (by omega)) ?_
                rintro e w3 ⟨rfl, hb3⟩
                obtain ⟨W, ES, hW, gW⟩ := run_fSt (HF1.out.big hb3) 8 (plc s.data.toList j).1 (plc s.data.toList j).2 j
                have EL := run_fLd hW
                have BF := hid ((HB1.out.trans (hb3.mono HB1.out.size)).grown gW (Nat.le_trans HB1.out.size hb3.size) (fun b hb => by cases hb; exact Nat.le_refl _))
                have HT := hid (LR.put (HO1.out.big hb3) gW ((HF1.out.big hb3)))
                obtain ⟨gv, hgv⟩ : ∃ fv, fv = fV 8 (plc s.data.toList j).1 (plc s.data.toList j).2 j := ⟨_, rfl⟩
                rw [← hgv] at ES EL ⊢
                have HGv := hid hgv
                clear hW gW hb3 hgv
                go_wp2
                refine bodyPost_ret (by simp [results, Tryz.results53, asAddr, ↓fLd_op, EL]; try rfl) rfl ?_
                rw [HV.out, HGv.out]
                unfold RdR
                exact ⟨_, V, by rw [← HVl.out]; rfl, HT.out, BF.out⟩
            · have hV0 : ¬ (0 : Int) < (V.length : Int) := by have := HVl.out; omega
              have dV0 : decide ((0 : Int) < (V.length : Int)) = false := decide_eq_false hV0
              have hrg : ¬ (0 < acc.length ∧ T.length ≠ (acc.headD []).length) := fun h => h0 h.1
              have HV := hid (K4.out rfl hln hrg HNe.out)
              have ee : ((j : Int) == (s.size : Int)) = true := by rw [beq_iff_eq]; omega

              go_wp2_with (at_builtin; refine wpList_append_own_at _ rfl _ _ 30 rfl w.heap.size 28 _ (.slice none 0 0) 1 24 Tryz.underlying30 (info_parts ssi).choose_spec.1 (info_parts ssi).choose_spec.2.1 (info_parts ssi).choose_spec.2.2.1 (info_parts ssi).choose_spec.2.2.2 rfl (by decide) _ _ _ rfl (HO1.out.own.alloc _) ⟨W1.heap.size, 0, none⟩ 1 1 [.slice ra T.length rc] rfl rfl (by intro j u hj; cases j with | zero => simp at hj; subst hj; simp [Addr.add] | succ j => simp at hj) (by intro u hu; simp at hu; subst hu; rfl) (by unfold maxLen; omega) (by omega) (by have := HB1.out.size; simp; omega) ?_)
              intro v' w2 hown' hgrow _ hblk
              obtain ⟨a', c', rfl⟩ := own_slice hown'
              have HB2 := hid ((HB1.out.alloc HB1.out.size _).grown hgrow (by simp; have := HB1.out.size; omega) (fun k hk => (World.ownsRow.lt HO1.out.own k hk).1))
              have HF2 := hid ((HF1.out.alloc _).grown hgrow (fun e => own_ne HO1.out.own HF1.out (by decide) e))
              have HO2 := hid (LR.app HO1.out HRv.out hgrow hown')
              clear hown' hgrow hblk
              obtain ⟨W, ES, hW, gW⟩ := run_fSt0 HF2.out
              have EL := run_fLd hW
              have BF := hid (HB2.out.grown gW HB2.out.size (fun b hb => by cases hb; exact Nat.le_refl _))
              have HT := hid (LR.put HO2.out gW HF2.out)
              clear hW gW
              go_wp2
              refine bodyPost_ret (by simp [results, Tryz.results53, asAddr, ↓fLd_op, EL]; try rfl) rfl ?_
              rw [HV.out]
              unfold RdR
              exact ⟨_, V ++ [.slice ra T.length rc], by rw [← HVl.out]; rfl, HT.out, BF.out⟩
        · have hcn : ((c : Int) != 0) = true := by simp; omega
          have hcp : ¬ (c : Int) = 0 := by omega
          have HV := hid (K1.out hc)
          obtain ⟨W, ES, hW, gW⟩ := run_fSt HF1.out.drew c (fP s.data.toList c f).1 (fP s.data.toList c f).2.1 (fP s.data.toList c f).2.2
          have EL1 := run_fLd HW1.out.drew
          have EL := run_fLd hW
          have BF := hid (HB1.out.drew.grown gW HB1.out.size (fun b hb => by cases hb; exact Nat.le_refl _))
          have HT := hid (LR.put (w := W1.drew) HO1.out.drew gW HF1.out)
          rw [← HFv.out] at ES EL1 EL
          clear hW gW hc hcf
          go_wp2_with fail
          go_region
          all_goals
            go_wp2
            refine bodyPost_ret (by simp [results, Tryz.results53, asAddr, ↓fLd_op, EL]; try rfl) rfl ?_
            rw [HV.out]
            unfold RdR
            simp only []
            rw [fQ_is, ← HFv.out]
            exact ⟨_, V, by rw [← HVl.out], HT.out, BF.out⟩
    · have hI : ¬ (i : Int) < (s.size : Int) := by omega
      have HV := hid (hRR.trans (rdD_out (by rw [HDS.out]; exact hlt)))
      obtain ⟨W, ES, hW, gW⟩ := run_fSt0 HF.out
      have EL := run_fLd hW
      have BF := hid (HB.out.grown gW HB.out.size (fun b hb => by cases hb; exact Nat.le_refl _))
      have HT := hid (LR.put HO.out gW HF.out)
      clear hW gW hRR
      go_wp2
      refine bodyPost_ret (by simp [results, Tryz.results53, asAddr, ↓fLd_op, EL]; try rfl) rfl ?_
      rw [HV.out]
      unfold RdR
      exact ⟨_, V, by rw [← HVl.out]; rfl, HT.out, BF.out⟩
end Go.Proofs.YtpgpeafmlijfkaaGreatDoor
