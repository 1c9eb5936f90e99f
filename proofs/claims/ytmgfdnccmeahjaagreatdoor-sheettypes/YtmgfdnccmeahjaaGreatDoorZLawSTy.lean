/-
  LawSTy: SheetTypes: the law's own walk.
-/
import Derived.Test.YtmgfdnccmeahjaaGreatDoorZDfy
import Derived.Test.YtmgfdnccmeahjaaGreatDoorZCx1
import Derived.Test.YtmgfdnccmeahjaaGreatDoorZTc6
import Derived.Test.YtmgfdnccmeahjaaGreatDoorZTd7
import Derived.Test.YtmgfdnccmeahjaaGreatDoorZLnc
import Derived.Test.YtmgfdnccmeahjaaGreatDoorZLnk
namespace Go.Proofs.YtmgfdnccmeahjaaGreatDoor
open Go.RowKit
set_option maxRecDepth 100000
set_option linter.unusedVariables false
set_option linter.unusedSimpArgs false
variable {rf : ByteArray → Nat → Rd}

abbrev gRng : Nat := 26
abbrev gSyn : Nat := 25
theorem cls_bd : ∀ (cs : List (List UInt8)) (j : Nat), (cls cs j).2 ≤ j + cs.length := by
  intro cs
  induction cs with
  | nil => intro j; simp [cls]
  | cons T r ih =>
    intro j
    rw [cls]
    split
    · have := ih (j + 1); simp only [List.length_cons]; omega
    · simp only [List.length_cons]; omega
theorem rck_bd (n : Nat) : ∀ (R : List (List (List UInt8))) (i : Nat), i ≤ 4096 → (rck n R i).2.1 ≤ 4097 ∧ (rck n R i).2.2 ≤ 64 := by
  intro R
  induction R with
  | nil => intro i _; simp [rck]
  | cons cs r ih =>
    intro i hi
    rw [rck]
    split
    · simp only []; omega
    · split
      · exact ih (i + 1) (by omega)
      · refine ⟨by simp only []; omega, ?_⟩
        simp only [wfl]
        split
        · simp
        · split
          · simp
          · split
            · have := cls_bd cs 0; omega
            · simp
theorem LG.rw {w : World} {B g cap : Nat} {V : List Value} {R : List (List (List UInt8))} (h : LG w B (.slice (some ⟨g, 0, none⟩) (R.length + 9) cap) V R R.length 9) (hc : R.length + 9 ≤ cap) (hc2 : cap ≤ 9223372036854775807) : Rw w (.slice (some ⟨g, 0, none⟩) R.length cap) R := by
  have hl := h.len
  refine ⟨_, cap, rfl, by omega, hc2, fun i hi => ⟨g, 0, V[i]'(by omega), rfl, ?_, (h.row i hi (by omega) hi).tx⟩⟩
  have := World.ownsRow.cells h.own (g := g) rfl i (V[i]'(by omega)) (by simp [show i < V.length by omega])
  rw [Addr.add_lit] at this
  exact this
theorem wg_bd (R : List (List (List UInt8))) : (wgA R).2.1 ≤ 4097 ∧ (wgA R).2.2 ≤ 64 := by
  unfold wgA
  have h := rck_bd (R.headD []).length R 0 (by omega)
  split
  · split <;> simp
  · exact h
theorem getD_bd (ps : List Nat) (j b : Nat) (h : ∀ i (hi : i < ps.length), ps[i] < b) : ps.getD j 0 ≤ b := by
  by_cases hj : j < ps.length
  · rw [getD_get ps 0 j hj]
    exact Nat.le_of_lt (h j hj)
  · rw [List.getD_eq_getElem?_getD, List.getElem?_eq_none (by omega)]
    exact Nat.zero_le _
theorem head_bd {R : List (List (List UInt8))} (h : okR R) : (R.headD []).length ≤ 64 := by
  cases R with
  | nil => simp
  | cons a r => exact (h.2 a List.mem_cons_self).2.1
/-- a fault's line and column are small -/
theorem TyO.bound {R : List (List (List UInt8))} {L : List Col} {r : Option Nat} {o : TyA} (h : TyO rf R L r o) (hc : colP L r) (hl : L.length ≤ 4398046511102) : o.1.2.1 ≤ 9223372036854775807 ∧ o.1.2.2.1 ≤ 9223372036854775807 := by
  rcases h with ⟨i, hr, rfl⟩ | ⟨_, _, rfl⟩ | ⟨_, hw, ps, c, q, hh, ho⟩
  · refine ⟨by simp, ?_⟩
    rcases hc with ⟨h1, _⟩ | ⟨h1, _⟩ | ⟨i', h1, h2, _⟩
    · rw [hr] at h1; cases h1
    · rw [hr] at h1; cases h1; simp
    · rw [hr] at h1; cases h1
      simp only []
      omega
  · have := wg_bd R
    simp only []
    omega
  · have hok := wg_ok hw
    have h64 := head_bd hok.1
    rcases ho with ⟨h0, rfl⟩ | ⟨rfl, rfl⟩
    · simp only []
      refine ⟨by omega, ?_⟩
      rcases hh with ⟨h1, _⟩ | ⟨i, hi, _, hf⟩
      · exact absurd h1 h0
      · rcases hf with ⟨_, rfl, _⟩ | ⟨_, p, hp, hq, _⟩
        · omega
        · rw [btx_len] at hq
          omega
    · have hR := hok.1.1
      have hw2 := hh.within
      unfold tyB
      split
      · simp
      · rename_i i hi
        rw [List.find?_range_eq_some] at hi
        have hi2 := List.mem_range.1 hi.2.1
        unfold tyF
        simp only []
        refine ⟨by omega, ?_⟩
        have := getD_bd ps ((fcol rf (rowT R i) ps L).getD 0) _ hw2.2
        omega
/-- an error's value is nil or a fault -/
theorem ErO.form {A : Nat → Addr} {q : Nat × Nat × Nat × Int} {w : World} {ev : Value} (h : ErO A q w ev) : ∃ p, ev = .iface 38 (.pointer (some p)) := by
  obtain ⟨f, e, h, _⟩ := h
  exact ⟨_, h⟩
attribute [local go_sem ↓] fLd_op fSt_op
set_option maxHeartbeats 16000000 in
theorem types_law (A : Nat → Addr) (v cv : Value) (R : List (List (List UInt8))) (L : List Col) (w : World) (hw : RdW A w) (hT : ErT w) (hP : HasPw w) (hr : Rw w v R) (hz : Rz w v R) (hl : R.length ≤ 5864062014634) (hrow : ∀ cs ∈ R, cs.length ≤ 8796093021952) (hc : RC w cv L) (hcl : L.length ≤ 4398046511102) :
    Calls Tryz.prog 8 #[v, cv] w fun e w' => e = .returned (.bool true) ∧ Below w.heap.size w w' := by
  obtain ⟨rf, hrf⟩ := rf_ex
  have HLn := hid (lentRows_any v R w hz hl hrow)
  have HW := hid hw
  have HT := hid hT
  have HP := hid hP
  have HR := hid hr
  have HZ := hid hz
  have HRo := hid hrow
  have HC := hid hc
  have HLc := hid (fun (W : World) (hb : Below w.heap.size w W) => lentC_any cv L W (hc.below hb) hcl)
  obtain ⟨r, hcol⟩ := col_ex L
  have HCo := hid hcol
  have HCl := hid hcl
  obtain ⟨ra, rc, rfl⟩ := hr.form
  obtain ⟨ca, cc, rfl, _⟩ := hc.form
  clear hw hT hP hr hz hrow hc hcol hl hcl
  go_enter Tryz.func8, Tryz.ntmps8
  go_wp2_with fail
  refine Calls.mono HLn.out ?_
  rintro e w1 ⟨g, cap, V, rfl, hc1, hc2, hlg, hb1⟩
  have HL1 := hid hlg
  have HB1 := hid hb1
  have HCp := hid (And.intro hc1 hc2)
  clear hlg hb1 HLn hc1 hc2
  go_wp2_with fail
  refine Calls.mono (HLc.out w1 HB1.out) ?_
  rintro e w2 ⟨⟨lv, rfl, hlc⟩, hb2⟩
  have HLC := hid hlc
  have HB2 := hid (HB1.out.trans (hb2.mono HB1.out.size))
  have HL2 := hid (HL1.out.big hb2)
  have HTy := hid (typed_any hrf A _ lv R L r w2 (HL2.out.rw HCp.out.1 HCp.out.2) hlc.rc HCo.out (HW.out.below HB2.out) (HT.out.below HB2.out))
  obtain ⟨la, lcp, hlve, _⟩ := hlc.rc.form
  subst hlve
  clear hlc hb2
  go_wp2_with fail
  refine Calls.mono HTy.out ?_
  rintro e w3 ⟨⟨o, ho, hcs⟩, hb3⟩
  have HO := hid ho
  have HB3 := hid (HB2.out.trans (hb3.mono HB2.out.size))
  have HB23 := hid hb3
  have HD := hid (dTyped_any hrf _ _ R L r w3 (HR.out.below HB3.out) (HC.out.below HB3.out) HCo.out)
  have hA : ∃ a ev, e = .returned (.tuple #[a, ev]) ∧ ((o.1.1 = 0 ∧ ev = .nilIface ∧ RKc w3 a (o.2.map (List.map clO))) ∨ (o.1.1 ≠ 0 ∧ a = .slice none 0 0 ∧ ErO A o.1 w3 ev)) := by
    rcases hcs with ⟨h0, v2, V2, rfl, hk⟩ | ⟨h0, ev, rfl, he⟩
    · exact ⟨_, _, rfl, .inl ⟨h0, rfl, hk.reads⟩⟩
    · exact ⟨_, _, rfl, .inr ⟨h0, rfl, he⟩⟩
  obtain ⟨a, ev, rfl, hae⟩ := hA
  have HAe := hid hae
  have hform : (∃ x y z, a = .slice x y z) ∧ (ev = .nilIface ∨ ∃ p, ev = .iface 38 (.pointer (some p))) := by
    rcases hae with ⟨_, rfl, hk⟩ | ⟨_, rfl, he⟩
    · obtain ⟨x, y, rfl⟩ := hk.form
      exact ⟨⟨_, _, _, rfl⟩, .inl rfl⟩
    · exact ⟨⟨_, _, _, rfl⟩, .inr he.form⟩
  clear ho hcs hb3 hae
  go_wp2_with fail
  refine Calls.mono HD.out ?_
  rintro e w4 ⟨⟨o2, ho2, hcs2⟩, hb4⟩
  obtain rfl := HO.out.uniq ho2
  have HB4 := hid (HB3.out.trans (hb4.mono HB3.out.size))
  have HB34 := hid hb4
  have hD2 : ∃ (b : Value) (c l k n : Nat) (X : List (List Cl)), e = .returned (.tuple #[b, fVw c l k 0 n]) ∧ (∀ W : World, Below w4.heap.size w4 W → Calls Tryz.prog 24 #[ev, fVw c l k 0 n] W fun e w' => e = .returned (.bool true) ∧ Below W.heap.size W w') ∧ RKc w4 a X ∧ RKc w4 b X := by
    rcases hcs2 with ⟨h0, v2, V2, rfl, hk⟩ | ⟨h0, n, hn, rfl⟩
    · rcases HAe.out with ⟨_, rfl, ha⟩ | ⟨h1, _⟩
      · exact ⟨v2, 0, 0, 0, 0, _, rfl, fun W hb => said_none 0 0 0 W, ha.below hb4, hk.reads⟩
      · exact absurd h0 h1
    · rcases HAe.out with ⟨h1, _⟩ | ⟨_, rfl, he⟩
      · exact absurd h1 h0
      · have hbd := HO.out.bound HCo.out HCl.out
        refine ⟨_, _, _, _, n, [], rfl, fun W hb => ?_, RKc.nil _, RKc.nil _⟩
        have hbW := HB4.out.trans (hb.mono HB4.out.size)
        exact said_ero A o.1 0 W ev ((he.later hb4).later hb) hbd.1 hbd.2 n hn (HT.out.below hbW) (HP.out.below hbW) (HW.out.below hbW).sn
  obtain ⟨b, c, l, k, n, X, rfl, hsd, hxa, hxb⟩ := hD2
  obtain ⟨W1, ES1, hW1, hbW, -⟩ := run_fStNw w4 c l k 0 n
  have EL1 := run_fLdw hW1
  have HBW := hid (HB4.out.trans (hbW.mono HB4.out.size))
  have HS := hid (hsd W1 hbW)
  obtain ⟨fv, hfv⟩ : ∃ fv, fv = fVw c l k 0 n := ⟨_, rfl⟩
  rw [← hfv] at ES1 EL1 HS ⊢
  have HXa := hid (hxa.below hbW)
  have HXb := hid (hxb.below hbW)
  have HL4 := hid (((HL2.out.big HB23.out).big HB34.out).big hbW)
  have HC4 := hid (((HLC.out.below HB23.out).below HB34.out).below hbW)
  obtain ⟨⟨x1, x2, x3, rfl⟩, hev⟩ := hform
  obtain ⟨y1, y2, rfl⟩ := hxb.form
  clear hW1 hbW hsd hxa hxb hfv hb4 hcs2 ho2
  rcases hev with rfl | ⟨pv, rfl⟩
  all_goals
    go_wp2_with fail
    refine Calls.mono HS.out ?_
    rintro e w5 ⟨rfl, hb5⟩
    have HB5 := hid (HBW.out.trans (hb5.mono HBW.out.size))
    have HB15 := hid hb5
    have HSm := hid (sameCells_is _ _ X w5 (HXa.out.below hb5) (HXb.out.below hb5))
    clear hb5
    go_wp2_with fail
    refine Calls.mono HSm.out ?_
    rintro e w6 ⟨rfl, hb6⟩
    have HB6 := hid (HB5.out.trans (hb6.mono HB5.out.size))
    have HB16 := hid (HB15.out.trans (hb6.mono HB15.out.size))
    have HKp := hid (keptRows_any g cap V _ _ R w6 (HL4.out.big HB16.out) HCp.out.1 HCp.out.2 (HZ.out.below HB6.out) HRo.out)
    clear hb6
    go_wp2_with fail
    refine Calls.mono HKp.out ?_
    rintro e w7 ⟨rfl, hb7⟩
    have HB7 := hid (HB6.out.trans (hb7.mono HB6.out.size))
    have HB17 := hid (HB16.out.trans (hb7.mono HB16.out.size))
    have HKc := hid (keptC_any _ _ L _ w7 (HC4.out.below HB17.out) (HC.out.below HB7.out) HCl.out)
    clear hb7
    go_wp2_with fail
    refine Calls.mono HKc.out ?_
    rintro e w8 ⟨rfl, hb8⟩
    have HB8 := hid (HB7.out.trans (hb8.mono HB7.out.size))
    clear hb8
    go_wp2
    go_ret
    exact ⟨rfl, HB8.out⟩
end Go.Proofs.YtmgfdnccmeahjaaGreatDoor
