/-
  St5: codec's forms with a reader: a request's fields in a row, something done. Laid by mkst5.py.
  St6: codec's forms with a reader: what is done. Laid by mkst6.py.
-/
import Derived.Test.YtfhicemfhkhjaabSt4
namespace Go.Proofs.Ytfhicemfhkhjaab
open Go.RowKit
set_option maxRecDepth 100000

/-- a row with a request laid at o -/
def rqRow (cur : Array Value) (o : Nat) (x : Rq) (v : Value) : Array Value := (((((cur.setIfInBounds o (.string x.id)).setIfInBounds (o + 1) (.int .i64 x.kind)).setIfInBounds (o + 2) v).setIfInBounds (o + 3) (.string x.hold)).setIfInBounds (o + 4) (.int .i64 x.ttl)).setIfInBounds (o + 5) (.int .i64 x.now)
/-- behind a request's fields that are read into the cells at g, o -/
def DfG (rb b off cap : Nat) (l : List UInt8) (i most g o : Nat) (cur : Array Value) (T : TypeId) (w : World) (e : Ending) (w' : World) : Prop :=
  Tb rb g w w' ∧ (((fRq l most i).1 = 0 ∧ e = .returned (.tuple #[]) ∧ RD w' rb b off cap l (fRq l most i).2.1 most ∧ ∃ v', w'.heap[g]? = some (.cells (rqRow cur o (fRq l most i).2.2 v') T (0, 0)) ∧ OLn w' w.heap.size v' (fRq l most i).2.2.lines)
  ∨ ((fRq l most i).1 ≠ 0 ∧ e = flt ((fRq l most i).1 : Int) ((fRq l most i).2.1 : Int)))
set_option maxHeartbeats 4000000 in
theorem dfieldsG_any (g o : Nat) (cur : Array Value) (T : TypeId) (w : World) {rb b off cap i most : Nat} {l : List UInt8} (h : RD w rb b off cap l i most) (hcp : l.length ≤ 100000000000000) (hm : most ≤ 1000000000)
    (hq : w.heap[g]? = some (.cells cur T (0, 0))) (k0 : cur[o]? = some (.string ⟨#[]⟩)) (k1 : cur[o + 1]? = some (.int .i64 0)) (k2 : cur[o + 2]? = some (.slice none 0 0)) (k3 : cur[o + 3]? = some (.string ⟨#[]⟩)) (k4 : cur[o + 4]? = some (.int .i64 0)) (k5 : cur[o + 5]? = some (.int .i64 0)) (hqb : g ≠ rb ∧ g ≠ b) (hbw : b < w.heap.size) (hrw : rb < w.heap.size) :
    Calls Try.prog 72 #[ir rb, .pointer (some ⟨g, o, none⟩)] w fun e w' => DfG rb b off cap l i most g o cur T w e w' := by
  have hmf : ∀ (fn : Fn) (first cap : Array Value) (w : World), (Instr.makeFunc fn first cap).run Try.prog w = .ok (.func fn first cap) w := fun _ _ _ _ => rfl
  have hgw := (Array.getElem?_eq_some_iff.1 hq).1
  have HF0 := hid (fRq_eq l most i)
  have HR0 := hid h
  have HT0 := hid (Tb.drewN rb g w 0)
  have HQ0 := hid hq
  have HK0 := hid k0
  have HK1 := hid k1
  have HK2 := hid k2
  have HK3 := hid k3
  have HK4 := hid k4
  have HK5 := hid k5
  clear h hq k0 k1 k2 k3 k4 k5
  go_enter Try.func72, Try.ntmps72
  have hsz0 := HT0.out.size
  have hcell : w.cell? ⟨g, o, none⟩ = some (.string ⟨#[]⟩) := by
    rw [cell_of_row _ _ _ _ _ _ HQ0.out]
    show (cur)[o]? = _; exact HK0.out
  have HC := hid (fun q => dtext_any ⟨g, o, none⟩ ⟨#[]⟩ (w.drewN q) (HR0.out.drewN q) hcp hm (by show w.cell? _ = _; exact hcell) (by show w.frozen? _ = _; simp [World.frozen?, HQ0.out]) hqb.1)
  have hle := at_le HR0.out.at' (tx_le (l.drop i) most)
  have hna := nr_text rb
  have hme := mr_text
  clear hcell
  go_wp2_with fail
  refine wp_region_any (by kernel_rfl) ?_
  try (change wpAny _ _ _ _ _ _ _ (World.drew _))
  refine wpAny_take (i := 0) (v := ir rb) rfl (by kernel_rfl) (by kernel_rfl) (by kernel_rfl) (fun _ _ _ h => h) (Or.inl ⟨by rfl, by intro w; go_simp⟩) ?_
  refine wpAny_take (i := 1) (v := .pointer (some ⟨g, o, none⟩)) rfl (by kernel_rfl) (by kernel_rfl) (by kernel_rfl) (fun _ _ _ h => h) (Or.inl ⟨by rfl, by intro w; go_simp⟩) ?_
  refine wpAny_take (i := 2) (v := .pointer (some ⟨g, o, none⟩)) rfl (by kernel_rfl) (by kernel_rfl) (by kernel_rfl) (fun _ _ _ h => h) (Or.inl ⟨by rfl, by intro w; go_simp⟩) ?_
  refine wpAny_take (i := 3) (v := .pointer (some ⟨g, o, none⟩)) rfl (by kernel_rfl) (by kernel_rfl) (by kernel_rfl) (fun _ _ _ h => h) (Or.inl ⟨by rfl, by intro w; go_simp⟩) ?_
  refine wpAny_ready (rs := [4]) (by kernel_rfl) (by simp) ?_
  refine AllReady.cons rfl (fun K hK => ?_) AllReady.nil
  go_simp
  refine hK _ _ ?_
  clear hK K
  refine wpAny_take (i := 5) (v := .func (.method "larder/codec.text") #[ir rb] #[]) rfl (by kernel_rfl) (by kernel_rfl) (by kernel_rfl) (fun _ _ _ h => h) (Or.inl ⟨by rfl, by intro w; go_simp⟩) ?_
  refine wpAny_take (i := 6) (v := ir rb) rfl (by kernel_rfl) (by kernel_rfl) (by kernel_rfl) (fun _ _ _ h => h) (Or.inl ⟨by rfl, by intro w; go_simp⟩) ?_
  refine wpAny_ready (rs := [7]) (by kernel_rfl) (by simp) ?_
  refine AllReady.cons rfl (fun K hK => ?_) AllReady.nil
  go_simp
  go_wp2_with fail
  refine (HC.out _).mono ?_
  rintro e w1 ⟨q1, ⟨he, rfl, hw⟩ | ⟨he, rfl, hw⟩⟩
  rotate_left
  · have HF := hid (show DfG rb b off cap l i most g o cur T w (flt ((fTx l most i).1 : Int) ((fTx l most i).2.1 : Int)) w1 by
      unfold DfG
      rw [HF0.out, andR_no (show (fTx l most i).1 ≠ 0 from he)]
      exact ⟨HT0.out.trans ((Tb.drewN rb g w 1).trans (by rw [hw]; exact Tb.drewN _ _ _ _)), .inr ⟨he, rfl⟩⟩)
    clear hw
    go_wp2_with fail
    exact ⟨rfl, HF.out⟩
  have hTk : Tb rb g w w1 := (Tb.drewN rb g w 1).trans (show Tb rb g (w.drewN 1) w1 by rw [hw]; exact Tb.put _ q1 ⟨g, o, none⟩ _ _ rfl)
  have HQ1 := hid (show w1.heap[g]? = some (.cells ((cur).setIfInBounds (o) (.string (fTx l most i).2.2)) T (0, 0)) by rw [hw]; exact q_set (w := w.drewN 1) HQ0.out hqb.1 (o) _)
  have HR1 := hid (show RD w1 rb b off cap l (fTx l most i).2.1 most by rw [hw]; exact (HR0.out.drewN 1).put q1 _ ⟨g, o, none⟩ _ hle hqb.1 hqb.2)
  have HT1 := hid (HT0.out.trans hTk)
  have HF1 := hid (HF0.out.trans (andR_ok (show (fTx l most i).1 = 0 from he)))
  obtain ⟨i1, hi⟩ : ∃ x, (fTx l most i).2.1 = x := ⟨_, rfl⟩
  obtain ⟨a1, ha⟩ : ∃ x, (fTx l most i).2.2 = x := ⟨_, rfl⟩
  rw [hi, ha] at HF1
  rw [hi] at HR1
  rw [ha] at HQ1
  clear hi ha he HC HT0 HQ0 HR0 HF0 hTk hw hna hme hle
  go_wp2_with fail
  refine wpAny_done (by kernel_rfl) ?_ _
  have hsz1 := HT1.out.size
  have hcell : w1.cell? ⟨g, o + 1, none⟩ = some (.int .i64 0) := by
    rw [cell_of_row _ _ _ _ _ _ HQ1.out]
    show ((cur).setIfInBounds (o) (.string a1))[o + 1]? = _; rw [Array.getElem?_setIfInBounds_ne (by omega)]; exact HK1.out
  have HC := hid (fun q => dwhole_any ⟨g, o + 1, none⟩ 0 (w1.drewN q) (HR1.out.drewN q) hcp (by show w1.cell? _ = _; exact hcell) (by show w1.frozen? _ = _; simp [World.frozen?, HQ1.out]) hqb.1)
  have hle := at_le HR1.out.at' ((show (rd (l.drop i1) 0 0).2.1 ≤ _ by have := rd_le (l.drop i1) 0 0; omega))
  have hna := nr_whole rb
  have hme := mr_whole
  clear hcell
  go_wp2_with fail
  refine wp_region_any (by kernel_rfl) ?_
  try (change wpAny _ _ _ _ _ _ _ (World.drew _))
  refine wpAny_take (i := 0) (v := ir rb) rfl (by kernel_rfl) (by kernel_rfl) (by kernel_rfl) (fun _ _ _ h => h) (Or.inl ⟨by rfl, by intro w; go_simp⟩) ?_
  refine wpAny_take (i := 1) (v := .pointer (some ⟨g, o, none⟩)) rfl (by kernel_rfl) (by kernel_rfl) (by kernel_rfl) (fun _ _ _ h => h) (Or.inl ⟨by rfl, by intro w; go_simp⟩) ?_
  refine wpAny_take (i := 2) (v := .pointer (some ⟨g, o, none⟩)) rfl (by kernel_rfl) (by kernel_rfl) (by kernel_rfl) (fun _ _ _ h => h) (Or.inl ⟨by rfl, by intro w; go_simp⟩) ?_
  refine wpAny_take (i := 3) (v := .pointer (some ⟨g, o + 1, none⟩)) rfl (by kernel_rfl) (by kernel_rfl) (by kernel_rfl) (fun _ _ _ h => h) (Or.inl ⟨by rfl, by intro w; go_simp⟩) ?_
  refine wpAny_ready (rs := [4]) (by kernel_rfl) (by simp) ?_
  refine AllReady.cons rfl (fun K hK => ?_) AllReady.nil
  go_simp
  refine hK _ _ ?_
  clear hK K
  refine wpAny_take (i := 5) (v := .func (.method "larder/codec.whole") #[ir rb] #[]) rfl (by kernel_rfl) (by kernel_rfl) (by kernel_rfl) (fun _ _ _ h => h) (Or.inl ⟨by rfl, by intro w; go_simp⟩) ?_
  refine wpAny_take (i := 6) (v := ir rb) rfl (by kernel_rfl) (by kernel_rfl) (by kernel_rfl) (fun _ _ _ h => h) (Or.inl ⟨by rfl, by intro w; go_simp⟩) ?_
  refine wpAny_ready (rs := [7]) (by kernel_rfl) (by simp) ?_
  refine AllReady.cons rfl (fun K hK => ?_) AllReady.nil
  go_simp
  go_wp2_with fail
  refine (HC.out _).mono ?_
  rintro e w2 ⟨q2, ⟨he, rfl, hw⟩ | ⟨he, rfl, hw⟩⟩
  rotate_left
  · have HF := hid (show DfG rb b off cap l i most g o cur T w (flt ((fIn l i1).1 : Int) ((fIn l i1).2.1 : Int)) w2 by
      unfold DfG
      rw [HF1.out, andR_no (show (fIn l i1).1 ≠ 0 from he)]
      exact ⟨HT1.out.trans ((Tb.drewN rb g w1 1).trans (by rw [hw]; exact Tb.drewN _ _ _ _)), .inr ⟨he, rfl⟩⟩)
    clear hw
    go_wp2_with fail
    exact ⟨rfl, HF.out⟩
  have hTk : Tb rb g w1 w2 := (Tb.drewN rb g w1 1).trans (show Tb rb g (w1.drewN 1) w2 by rw [hw]; exact Tb.put _ q2 ⟨g, o + 1, none⟩ _ _ rfl)
  have HQ2 := hid (show w2.heap[g]? = some (.cells (((cur).setIfInBounds (o) (.string a1)).setIfInBounds (o + 1) (.int .i64 (fIn l i1).2.2)) T (0, 0)) by rw [hw]; exact q_set (w := w1.drewN 1) HQ1.out hqb.1 (o + 1) _)
  have HR2 := hid (show RD w2 rb b off cap l (fIn l i1).2.1 most by rw [hw]; exact (HR1.out.drewN 1).put q2 _ ⟨g, o + 1, none⟩ _ hle hqb.1 hqb.2)
  have HT2 := hid (HT1.out.trans hTk)
  have HF2 := hid (HF1.out.trans (andR_ok (show (fIn l i1).1 = 0 from he)))
  obtain ⟨i2, hi⟩ : ∃ x, (fIn l i1).2.1 = x := ⟨_, rfl⟩
  obtain ⟨a2, ha⟩ : ∃ x, (fIn l i1).2.2 = x := ⟨_, rfl⟩
  rw [hi, ha] at HF2
  rw [hi] at HR2
  rw [ha] at HQ2
  clear hi ha he HC HT1 HQ1 HR1 HF1 hTk hw hna hme hle
  go_wp2_with fail
  refine wpAny_done (by kernel_rfl) ?_ _
  have hsz2 := HT2.out.size
  have hrow : (((cur).setIfInBounds (o) (.string a1)).setIfInBounds (o + 1) (.int .i64 a2))[o + 2]? = some (.slice none 0 0) := by show (((cur).setIfInBounds (o) (.string a1)).setIfInBounds (o + 1) (.int .i64 a2))[o + 2]? = _; rw [Array.getElem?_setIfInBounds_ne (by omega)]; rw [Array.getElem?_setIfInBounds_ne (by omega)]; exact HK2.out
  have HC := hid (dlines_any g (o + 2) (((cur).setIfInBounds (o) (.string a1)).setIfInBounds (o + 1) (.int .i64 a2)) T w2 HR2.out hcp hm HQ2.out hrow hqb (by omega))
  clear hrow
  go_wp2_with fail
  refine Calls.mono HC.out ?_
  rintro e w3 ⟨ht, ⟨he, rfl, hr, v3, hq3, ho3⟩ | ⟨he, rfl, ao9, n9, c9, hq9⟩⟩
  rotate_left
  · have HF := hid (show DfG rb b off cap l i most g o cur T w (flt ((fLi l most i2).1 : Int) ((fLi l most i2).2.1 : Int)) w3 by
      unfold DfG
      rw [HF2.out, andR_no (show (fLi l most i2).1 ≠ 0 from he)]
      exact ⟨HT2.out.trans ht, .inr ⟨he, rfl⟩⟩)
    clear ht hq9
    go_wp2_with fail
    exact ⟨rfl, HF.out⟩
  have hTk : Tb rb g w2 w3 := ht
  have HQ3 := hid hq3
  have HR3 := hid hr
  have HO3 := hid (show OLn w3 w.heap.size v3 (fLi l most i2).2.2 from OLn.lower ho3 (by omega))
  have HT3 := hid (HT2.out.trans hTk)
  have HF3 := hid (HF2.out.trans (andR_ok (show (fLi l most i2).1 = 0 from he)))
  obtain ⟨i3, hi⟩ : ∃ x, (fLi l most i2).2.1 = x := ⟨_, rfl⟩
  obtain ⟨a3, ha⟩ : ∃ x, (fLi l most i2).2.2 = x := ⟨_, rfl⟩
  rw [hi, ha] at HF3
  rw [hi] at HR3
  rw [ha] at HO3
  clear hi ha he HC HT2 HQ2 HR2 HF2 hTk ht hr hq3 ho3
  have hsz3 := HT3.out.size
  have hcell : w3.cell? ⟨g, o + 3, none⟩ = some (.string ⟨#[]⟩) := by
    rw [cell_of_row _ _ _ _ _ _ HQ3.out]
    show ((((cur).setIfInBounds (o) (.string a1)).setIfInBounds (o + 1) (.int .i64 a2)).setIfInBounds (o + 2) v3)[o + 3]? = _; rw [Array.getElem?_setIfInBounds_ne (by omega)]; rw [Array.getElem?_setIfInBounds_ne (by omega)]; rw [Array.getElem?_setIfInBounds_ne (by omega)]; exact HK3.out
  have HC := hid (fun q => dtext_any ⟨g, o + 3, none⟩ ⟨#[]⟩ (w3.drewN q) (HR3.out.drewN q) hcp hm (by show w3.cell? _ = _; exact hcell) (by show w3.frozen? _ = _; simp [World.frozen?, HQ3.out]) hqb.1)
  have hle := at_le HR3.out.at' (tx_le (l.drop i3) most)
  have hna := nr_text rb
  have hme := mr_text
  clear hcell
  go_wp2_with fail
  refine wp_region_any (by kernel_rfl) ?_
  try (change wpAny _ _ _ _ _ _ _ (World.drew _))
  refine wpAny_take (i := 0) (v := ir rb) rfl (by kernel_rfl) (by kernel_rfl) (by kernel_rfl) (fun _ _ _ h => h) (Or.inl ⟨by rfl, by intro w; go_simp⟩) ?_
  refine wpAny_take (i := 1) (v := .pointer (some ⟨g, o, none⟩)) rfl (by kernel_rfl) (by kernel_rfl) (by kernel_rfl) (fun _ _ _ h => h) (Or.inl ⟨by rfl, by intro w; go_simp⟩) ?_
  refine wpAny_take (i := 2) (v := .pointer (some ⟨g, o, none⟩)) rfl (by kernel_rfl) (by kernel_rfl) (by kernel_rfl) (fun _ _ _ h => h) (Or.inl ⟨by rfl, by intro w; go_simp⟩) ?_
  refine wpAny_take (i := 3) (v := .pointer (some ⟨g, o + 3, none⟩)) rfl (by kernel_rfl) (by kernel_rfl) (by kernel_rfl) (fun _ _ _ h => h) (Or.inl ⟨by rfl, by intro w; go_simp⟩) ?_
  refine wpAny_ready (rs := [4]) (by kernel_rfl) (by simp) ?_
  refine AllReady.cons rfl (fun K hK => ?_) AllReady.nil
  go_simp
  refine hK _ _ ?_
  clear hK K
  refine wpAny_take (i := 5) (v := .func (.method "larder/codec.text") #[ir rb] #[]) rfl (by kernel_rfl) (by kernel_rfl) (by kernel_rfl) (fun _ _ _ h => h) (Or.inl ⟨by rfl, by intro w; go_simp⟩) ?_
  refine wpAny_take (i := 6) (v := ir rb) rfl (by kernel_rfl) (by kernel_rfl) (by kernel_rfl) (fun _ _ _ h => h) (Or.inl ⟨by rfl, by intro w; go_simp⟩) ?_
  refine wpAny_ready (rs := [7]) (by kernel_rfl) (by simp) ?_
  refine AllReady.cons rfl (fun K hK => ?_) AllReady.nil
  go_simp
  go_wp2_with fail
  refine (HC.out _).mono ?_
  rintro e w4 ⟨q4, ⟨he, rfl, hw⟩ | ⟨he, rfl, hw⟩⟩
  rotate_left
  · have HF := hid (show DfG rb b off cap l i most g o cur T w (flt ((fTx l most i3).1 : Int) ((fTx l most i3).2.1 : Int)) w4 by
      unfold DfG
      rw [HF3.out, andR_no (show (fTx l most i3).1 ≠ 0 from he)]
      exact ⟨HT3.out.trans ((Tb.drewN rb g w3 1).trans (by rw [hw]; exact Tb.drewN _ _ _ _)), .inr ⟨he, rfl⟩⟩)
    clear hw
    go_wp2_with fail
    exact ⟨rfl, HF.out⟩
  have hTk : Tb rb g w3 w4 := (Tb.drewN rb g w3 1).trans (show Tb rb g (w3.drewN 1) w4 by rw [hw]; exact Tb.put _ q4 ⟨g, o + 3, none⟩ _ _ rfl)
  have HQ4 := hid (show w4.heap[g]? = some (.cells (((((cur).setIfInBounds (o) (.string a1)).setIfInBounds (o + 1) (.int .i64 a2)).setIfInBounds (o + 2) v3).setIfInBounds (o + 3) (.string (fTx l most i3).2.2)) T (0, 0)) by rw [hw]; exact q_set (w := w3.drewN 1) HQ3.out hqb.1 (o + 3) _)
  have HR4 := hid (show RD w4 rb b off cap l (fTx l most i3).2.1 most by rw [hw]; exact (HR3.out.drewN 1).put q4 _ ⟨g, o + 3, none⟩ _ hle hqb.1 hqb.2)
  have HO4 := hid (HO3.out.tb hTk hrw hgw)
  have HT4 := hid (HT3.out.trans hTk)
  have HF4 := hid (HF3.out.trans (andR_ok (show (fTx l most i3).1 = 0 from he)))
  obtain ⟨i4, hi⟩ : ∃ x, (fTx l most i3).2.1 = x := ⟨_, rfl⟩
  obtain ⟨a4, ha⟩ : ∃ x, (fTx l most i3).2.2 = x := ⟨_, rfl⟩
  rw [hi, ha] at HF4
  rw [hi] at HR4
  rw [ha] at HQ4
  clear hi ha he HC HT3 HQ3 HR3 HF3 hTk hw hna hme hle HO3
  go_wp2_with fail
  refine wpAny_done (by kernel_rfl) ?_ _
  have hsz4 := HT4.out.size
  have hcell : w4.cell? ⟨g, o + 4, none⟩ = some (.int .i64 0) := by
    rw [cell_of_row _ _ _ _ _ _ HQ4.out]
    show (((((cur).setIfInBounds (o) (.string a1)).setIfInBounds (o + 1) (.int .i64 a2)).setIfInBounds (o + 2) v3).setIfInBounds (o + 3) (.string a4))[o + 4]? = _; rw [Array.getElem?_setIfInBounds_ne (by omega)]; rw [Array.getElem?_setIfInBounds_ne (by omega)]; rw [Array.getElem?_setIfInBounds_ne (by omega)]; rw [Array.getElem?_setIfInBounds_ne (by omega)]; exact HK4.out
  have HC := hid (fun q => dwhole_any ⟨g, o + 4, none⟩ 0 (w4.drewN q) (HR4.out.drewN q) hcp (by show w4.cell? _ = _; exact hcell) (by show w4.frozen? _ = _; simp [World.frozen?, HQ4.out]) hqb.1)
  have hle := at_le HR4.out.at' ((show (rd (l.drop i4) 0 0).2.1 ≤ _ by have := rd_le (l.drop i4) 0 0; omega))
  have hna := nr_whole rb
  have hme := mr_whole
  clear hcell
  go_wp2_with fail
  refine wp_region_any (by kernel_rfl) ?_
  try (change wpAny _ _ _ _ _ _ _ (World.drew _))
  refine wpAny_take (i := 0) (v := ir rb) rfl (by kernel_rfl) (by kernel_rfl) (by kernel_rfl) (fun _ _ _ h => h) (Or.inl ⟨by rfl, by intro w; go_simp⟩) ?_
  refine wpAny_take (i := 1) (v := .pointer (some ⟨g, o, none⟩)) rfl (by kernel_rfl) (by kernel_rfl) (by kernel_rfl) (fun _ _ _ h => h) (Or.inl ⟨by rfl, by intro w; go_simp⟩) ?_
  refine wpAny_take (i := 2) (v := .pointer (some ⟨g, o, none⟩)) rfl (by kernel_rfl) (by kernel_rfl) (by kernel_rfl) (fun _ _ _ h => h) (Or.inl ⟨by rfl, by intro w; go_simp⟩) ?_
  refine wpAny_take (i := 3) (v := .pointer (some ⟨g, o + 4, none⟩)) rfl (by kernel_rfl) (by kernel_rfl) (by kernel_rfl) (fun _ _ _ h => h) (Or.inl ⟨by rfl, by intro w; go_simp⟩) ?_
  refine wpAny_ready (rs := [4]) (by kernel_rfl) (by simp) ?_
  refine AllReady.cons rfl (fun K hK => ?_) AllReady.nil
  go_simp
  refine hK _ _ ?_
  clear hK K
  refine wpAny_take (i := 5) (v := .func (.method "larder/codec.whole") #[ir rb] #[]) rfl (by kernel_rfl) (by kernel_rfl) (by kernel_rfl) (fun _ _ _ h => h) (Or.inl ⟨by rfl, by intro w; go_simp⟩) ?_
  refine wpAny_take (i := 6) (v := ir rb) rfl (by kernel_rfl) (by kernel_rfl) (by kernel_rfl) (fun _ _ _ h => h) (Or.inl ⟨by rfl, by intro w; go_simp⟩) ?_
  refine wpAny_ready (rs := [7]) (by kernel_rfl) (by simp) ?_
  refine AllReady.cons rfl (fun K hK => ?_) AllReady.nil
  go_simp
  go_wp2_with fail
  refine (HC.out _).mono ?_
  rintro e w5 ⟨q5, ⟨he, rfl, hw⟩ | ⟨he, rfl, hw⟩⟩
  rotate_left
  · have HF := hid (show DfG rb b off cap l i most g o cur T w (flt ((fIn l i4).1 : Int) ((fIn l i4).2.1 : Int)) w5 by
      unfold DfG
      rw [HF4.out, andR_no (show (fIn l i4).1 ≠ 0 from he)]
      exact ⟨HT4.out.trans ((Tb.drewN rb g w4 1).trans (by rw [hw]; exact Tb.drewN _ _ _ _)), .inr ⟨he, rfl⟩⟩)
    clear hw
    go_wp2_with fail
    exact ⟨rfl, HF.out⟩
  have hTk : Tb rb g w4 w5 := (Tb.drewN rb g w4 1).trans (show Tb rb g (w4.drewN 1) w5 by rw [hw]; exact Tb.put _ q5 ⟨g, o + 4, none⟩ _ _ rfl)
  have HQ5 := hid (show w5.heap[g]? = some (.cells ((((((cur).setIfInBounds (o) (.string a1)).setIfInBounds (o + 1) (.int .i64 a2)).setIfInBounds (o + 2) v3).setIfInBounds (o + 3) (.string a4)).setIfInBounds (o + 4) (.int .i64 (fIn l i4).2.2)) T (0, 0)) by rw [hw]; exact q_set (w := w4.drewN 1) HQ4.out hqb.1 (o + 4) _)
  have HR5 := hid (show RD w5 rb b off cap l (fIn l i4).2.1 most by rw [hw]; exact (HR4.out.drewN 1).put q5 _ ⟨g, o + 4, none⟩ _ hle hqb.1 hqb.2)
  have HO5 := hid (HO4.out.tb hTk hrw hgw)
  have HT5 := hid (HT4.out.trans hTk)
  have HF5 := hid (HF4.out.trans (andR_ok (show (fIn l i4).1 = 0 from he)))
  obtain ⟨i5, hi⟩ : ∃ x, (fIn l i4).2.1 = x := ⟨_, rfl⟩
  obtain ⟨a5, ha⟩ : ∃ x, (fIn l i4).2.2 = x := ⟨_, rfl⟩
  rw [hi, ha] at HF5
  rw [hi] at HR5
  rw [ha] at HQ5
  clear hi ha he HC HT4 HQ4 HR4 HF4 hTk hw hna hme hle HO4
  go_wp2_with fail
  refine wpAny_done (by kernel_rfl) ?_ _
  have hsz5 := HT5.out.size
  have hcell : w5.cell? ⟨g, o + 5, none⟩ = some (.int .i64 0) := by
    rw [cell_of_row _ _ _ _ _ _ HQ5.out]
    show ((((((cur).setIfInBounds (o) (.string a1)).setIfInBounds (o + 1) (.int .i64 a2)).setIfInBounds (o + 2) v3).setIfInBounds (o + 3) (.string a4)).setIfInBounds (o + 4) (.int .i64 a5))[o + 5]? = _; rw [Array.getElem?_setIfInBounds_ne (by omega)]; rw [Array.getElem?_setIfInBounds_ne (by omega)]; rw [Array.getElem?_setIfInBounds_ne (by omega)]; rw [Array.getElem?_setIfInBounds_ne (by omega)]; rw [Array.getElem?_setIfInBounds_ne (by omega)]; exact HK5.out
  have HC := hid (fun q => dwhole_any ⟨g, o + 5, none⟩ 0 (w5.drewN q) (HR5.out.drewN q) hcp (by show w5.cell? _ = _; exact hcell) (by show w5.frozen? _ = _; simp [World.frozen?, HQ5.out]) hqb.1)
  have hle := at_le HR5.out.at' ((show (rd (l.drop i5) 0 0).2.1 ≤ _ by have := rd_le (l.drop i5) 0 0; omega))
  have hna := nr_whole rb
  have hme := mr_whole
  clear hcell
  go_wp2_with fail
  refine wp_region_any (by kernel_rfl) ?_
  try (change wpAny _ _ _ _ _ _ _ (World.drew _))
  refine wpAny_take (i := 0) (v := ir rb) rfl (by kernel_rfl) (by kernel_rfl) (by kernel_rfl) (fun _ _ _ h => h) (Or.inl ⟨by rfl, by intro w; go_simp⟩) ?_
  refine wpAny_take (i := 1) (v := .pointer (some ⟨g, o, none⟩)) rfl (by kernel_rfl) (by kernel_rfl) (by kernel_rfl) (fun _ _ _ h => h) (Or.inl ⟨by rfl, by intro w; go_simp⟩) ?_
  refine wpAny_take (i := 2) (v := .pointer (some ⟨g, o, none⟩)) rfl (by kernel_rfl) (by kernel_rfl) (by kernel_rfl) (fun _ _ _ h => h) (Or.inl ⟨by rfl, by intro w; go_simp⟩) ?_
  refine wpAny_take (i := 3) (v := .pointer (some ⟨g, o + 5, none⟩)) rfl (by kernel_rfl) (by kernel_rfl) (by kernel_rfl) (fun _ _ _ h => h) (Or.inl ⟨by rfl, by intro w; go_simp⟩) ?_
  refine wpAny_ready (rs := [4]) (by kernel_rfl) (by simp) ?_
  refine AllReady.cons rfl (fun K hK => ?_) AllReady.nil
  go_simp
  refine hK _ _ ?_
  clear hK K
  refine wpAny_take (i := 5) (v := .func (.method "larder/codec.whole") #[ir rb] #[]) rfl (by kernel_rfl) (by kernel_rfl) (by kernel_rfl) (fun _ _ _ h => h) (Or.inl ⟨by rfl, by intro w; go_simp⟩) ?_
  refine wpAny_take (i := 6) (v := ir rb) rfl (by kernel_rfl) (by kernel_rfl) (by kernel_rfl) (fun _ _ _ h => h) (Or.inl ⟨by rfl, by intro w; go_simp⟩) ?_
  refine wpAny_ready (rs := [7]) (by kernel_rfl) (by simp) ?_
  refine AllReady.cons rfl (fun K hK => ?_) AllReady.nil
  go_simp
  go_wp2_with fail
  refine (HC.out _).mono ?_
  rintro e w6 ⟨q6, ⟨he, rfl, hw⟩ | ⟨he, rfl, hw⟩⟩
  rotate_left
  · have HF := hid (show DfG rb b off cap l i most g o cur T w (flt ((fIn l i5).1 : Int) ((fIn l i5).2.1 : Int)) w6 by
      unfold DfG
      rw [HF5.out, andR_no (show (fIn l i5).1 ≠ 0 from he)]
      exact ⟨HT5.out.trans ((Tb.drewN rb g w5 1).trans (by rw [hw]; exact Tb.drewN _ _ _ _)), .inr ⟨he, rfl⟩⟩)
    clear hw
    go_wp2_with fail
    exact ⟨rfl, HF.out⟩
  have hTk : Tb rb g w5 w6 := (Tb.drewN rb g w5 1).trans (show Tb rb g (w5.drewN 1) w6 by rw [hw]; exact Tb.put _ q6 ⟨g, o + 5, none⟩ _ _ rfl)
  have HQ6 := hid (show w6.heap[g]? = some (.cells (((((((cur).setIfInBounds (o) (.string a1)).setIfInBounds (o + 1) (.int .i64 a2)).setIfInBounds (o + 2) v3).setIfInBounds (o + 3) (.string a4)).setIfInBounds (o + 4) (.int .i64 a5)).setIfInBounds (o + 5) (.int .i64 (fIn l i5).2.2)) T (0, 0)) by rw [hw]; exact q_set (w := w5.drewN 1) HQ5.out hqb.1 (o + 5) _)
  have HR6 := hid (show RD w6 rb b off cap l (fIn l i5).2.1 most by rw [hw]; exact (HR5.out.drewN 1).put q6 _ ⟨g, o + 5, none⟩ _ hle hqb.1 hqb.2)
  have HO6 := hid (HO5.out.tb hTk hrw hgw)
  have HT6 := hid (HT5.out.trans hTk)
  have HF6 := hid (HF5.out.trans (andR_ok (show (fIn l i5).1 = 0 from he)))
  obtain ⟨i6, hi⟩ : ∃ x, (fIn l i5).2.1 = x := ⟨_, rfl⟩
  obtain ⟨a6, ha⟩ : ∃ x, (fIn l i5).2.2 = x := ⟨_, rfl⟩
  rw [hi, ha] at HF6
  rw [hi] at HR6
  rw [ha] at HQ6
  clear hi ha he HC HT5 HQ5 HR5 HF5 hTk hw hna hme hle HO5
  go_wp2_with fail
  refine wpAny_done (by kernel_rfl) ?_ _
  have HF := hid (show DfG rb b off cap l i most g o cur T w (.returned (.tuple #[])) w6 by
    unfold DfG
    rw [HF6.out]
    exact ⟨HT6.out, .inl ⟨rfl, rfl, HR6.out, v3, HQ6.out, HO6.out⟩⟩)
  go_wp2_with fail
  go_end0
  exact HF.out
end Go.Proofs.Ytfhicemfhkhjaab

namespace Go.Proofs.Ytfhicemfhkhjaab
open Go.RowKit
set_option maxRecDepth 100000

theorem fDn_eq (l : List UInt8) (most i : Nat) : fDn most l i = andR (fRq l most i) dn0 fun i1 r => andR (fIn l i1) dn0 fun i2 t => (0, i2, ⟨r, t⟩) := rfl
/-- a row with something done laid at o -/
def dnRow (cur : Array Value) (o : Nat) (x : Dn) (v : Value) : Array Value := (rqRow cur o x.req v).setIfInBounds (o + 6) (.int .i64 x.at')
/-- behind something done that is read into the cells at g, o -/
def DnV (rb b off cap : Nat) (l : List UInt8) (i most g o : Nat) (cur : Array Value) (T : TypeId) (w : World) (e : Ending) (w' : World) : Prop :=
  Tb rb g w w' ∧ (((fDn most l i).1 = 0 ∧ e = .returned (.tuple #[]) ∧ RD w' rb b off cap l (fDn most l i).2.1 most ∧ ∃ v', w'.heap[g]? = some (.cells (dnRow cur o (fDn most l i).2.2 v') T (0, 0)) ∧ OLn w' w.heap.size v' (fDn most l i).2.2.req.lines)
  ∨ ((fDn most l i).1 ≠ 0 ∧ e = flt ((fDn most l i).1 : Int) ((fDn most l i).2.1 : Int)))
set_option maxHeartbeats 2000000 in
theorem ddone_any (cb g o : Nat) (cur : Array Value) (T : TypeId) (w : World) {rb b off cap i most : Nat} {l : List UInt8} (h : RD w rb b off cap l i most) (hcp : l.length ≤ 100000000000000) (hm : most ≤ 1000000000)
    (hcb : w.cell? ⟨cb, 0, none⟩ = some (ir rb)) (hcw : cb ≠ rb ∧ cb ≠ g) (hq : w.heap[g]? = some (.cells cur T (0, 0))) (k0 : cur[o]? = some (.string ⟨#[]⟩)) (k1 : cur[o + 1]? = some (.int .i64 0)) (k2 : cur[o + 2]? = some (.slice none 0 0)) (k3 : cur[o + 3]? = some (.string ⟨#[]⟩)) (k4 : cur[o + 4]? = some (.int .i64 0)) (k5 : cur[o + 5]? = some (.int .i64 0)) (k6 : cur[o + 6]? = some (.int .i64 0)) (hqb : g ≠ rb ∧ g ≠ b) (hbw : b < w.heap.size) (hrw : rb < w.heap.size) :
    Calls Try.prog 78 #[.pointer (some ⟨g, o, none⟩), .pointer (some ⟨cb, 0, none⟩)] w fun e w' => DnV rb b off cap l i most g o cur T w e w' := by
  have hmf : ∀ (fn : Fn) (first cap : Array Value) (w : World), (Instr.makeFunc fn first cap).run Try.prog w = .ok (.func fn first cap) w := fun _ _ _ _ => rfl
  have hgw := (Array.getElem?_eq_some_iff.1 hq).1
  have HF0 := hid (fDn_eq l most i)
  have HCB0 := hid hcb
  have HCW := hid hcw
  have HK6 := hid k6
  have HC := hid (fun q => dfieldsG_any g o cur T (w.drewN q) (h.drewN q) hcp hm hq k0 k1 k2 k3 k4 k5 hqb hbw hrw)
  have hcbk := hcb
  clear h hq hcb hcw k0 k1 k2 k3 k4 k5 k6
  go_enter Try.func78, Try.ntmps78
  go_wp2_with fail
  refine wp_region_any (by kernel_rfl) ?_
  try (change wpAny _ _ _ _ _ _ _ (World.drew _))
  refine wpAny_take (i := 1) (v := .pointer (some ⟨g, o, none⟩)) rfl (by kernel_rfl) (by kernel_rfl) (by kernel_rfl) (fun _ _ _ h => h) (Or.inl ⟨by rfl, by intro w; go_simp⟩) ?_
  refine wpAny_take (i := 2) (v := .pointer (some ⟨g, o, none⟩)) rfl (by kernel_rfl) (by kernel_rfl) (by kernel_rfl) (fun _ _ _ h => h) (Or.inl ⟨by rfl, by intro w; go_simp⟩) ?_
  refine wpAny_take (i := 3) (v := .pointer (some ⟨g, o, none⟩)) rfl (by kernel_rfl) (by kernel_rfl) (by kernel_rfl) (fun _ _ _ h => h) (Or.inl ⟨by rfl, by intro w; go_simp⟩) ?_
  refine wpAny_ready (rs := [0]) (by kernel_rfl) (by simp) ?_
  refine AllReady.cons rfl (fun K hK => ?_) AllReady.nil
  go_simp
  refine hK _ _ ?_
  clear hK K
  refine wpAny_ready (rs := [4]) (by kernel_rfl) (by simp) ?_
  refine AllReady.cons rfl (fun K hK => ?_) AllReady.nil
  go_simp
  go_wp2_with fail
  refine (HC.out _).mono ?_
  rintro e w1 ⟨ht, ⟨he, rfl, hr, v3, hq3, ho3⟩ | ⟨he, rfl⟩⟩
  rotate_left
  · have HF := hid (show DnV rb b off cap l i most g o cur T w (flt ((fRq l most i).1 : Int) ((fRq l most i).2.1 : Int)) w1 by
      unfold DnV
      rw [HF0.out, andR_no (show (fRq l most i).1 ≠ 0 from he)]
      exact ⟨(Tb.drewN rb g w 1).trans ht, .inr ⟨he, rfl⟩⟩)
    clear ht
    go_wp2_with fail
    exact ⟨rfl, HF.out⟩
  have hTk : Tb rb g w w1 := (Tb.drewN rb g w 1).trans ht
  have HT1 := hid hTk
  have HQ1 := hid hq3
  have HR1 := hid hr
  have HO1 := hid (show OLn w1 w.heap.size v3 (fRq l most i).2.2.lines from ho3)
  have HCB1 := hid (cb_keep hTk HCB0.out HCW.out)
  have HF1 := hid (HF0.out.trans (andR_ok (show (fRq l most i).1 = 0 from he)))
  obtain ⟨i1, hi⟩ : ∃ x, (fRq l most i).2.1 = x := ⟨_, rfl⟩
  obtain ⟨a1, ha⟩ : ∃ x, (fRq l most i).2.2 = x := ⟨_, rfl⟩
  rw [hi, ha] at HF1
  rw [hi] at HR1
  rw [ha] at HO1 HQ1
  clear hi ha he HC HF0 HCB0 hcbk hTk ht hr hq3 ho3
  go_wp2_with fail
  refine wpAny_done (by kernel_rfl) ?_ _
  have hcell : w1.cell? ⟨g, o + 6, none⟩ = some (.int .i64 0) := by
    rw [cell_of_row _ _ _ _ _ _ HQ1.out]
    show (rqRow cur o a1 v3)[o + 6]? = _
    unfold rqRow
    rw [Array.getElem?_setIfInBounds_ne (by omega)]; rw [Array.getElem?_setIfInBounds_ne (by omega)]; rw [Array.getElem?_setIfInBounds_ne (by omega)]; rw [Array.getElem?_setIfInBounds_ne (by omega)]; rw [Array.getElem?_setIfInBounds_ne (by omega)]; rw [Array.getElem?_setIfInBounds_ne (by omega)]; exact HK6.out
  have HC := hid (fun q => dwhole_any ⟨g, o + 6, none⟩ 0 (w1.drewN q) (HR1.out.drewN q) hcp (by show w1.cell? _ = _; exact hcell) (by show w1.frozen? _ = _; simp [World.frozen?, HQ1.out]) hqb.1)
  have hle := at_le HR1.out.at' ((show (rd (l.drop i1) 0 0).2.1 ≤ _ by have := rd_le (l.drop i1) 0 0; omega))
  have hna := nr_whole rb
  have hme := mr_whole
  have hcbk := HCB1.out
  clear hcell
  go_wp2_with fail
  refine wp_region_any (by kernel_rfl) ?_
  try (change wpAny _ _ _ _ _ _ _ (World.drew _))
  refine wpAny_take (i := 1) (v := .pointer (some ⟨g, o, none⟩)) rfl (by kernel_rfl) (by kernel_rfl) (by kernel_rfl) (fun _ _ _ h => h) (Or.inl ⟨by rfl, by intro w; go_simp⟩) ?_
  refine wpAny_take (i := 2) (v := .pointer (some ⟨g, o, none⟩)) rfl (by kernel_rfl) (by kernel_rfl) (by kernel_rfl) (fun _ _ _ h => h) (Or.inl ⟨by rfl, by intro w; go_simp⟩) ?_
  refine wpAny_take (i := 3) (v := .pointer (some ⟨g, o + 6, none⟩)) rfl (by kernel_rfl) (by kernel_rfl) (by kernel_rfl) (fun _ _ _ h => h) (Or.inl ⟨by rfl, by intro w; go_simp⟩) ?_
  refine wpAny_ready (rs := [0]) (by kernel_rfl) (by simp) ?_
  refine AllReady.cons rfl (fun K hK => ?_) AllReady.nil
  go_simp
  refine hK _ _ ?_
  clear hK K
  refine wpAny_ready (rs := [4]) (by kernel_rfl) (by simp) ?_
  refine AllReady.cons rfl (fun K hK => ?_) AllReady.nil
  go_simp
  refine hK _ _ ?_
  clear hK K
  refine wpAny_take (i := 5) (v := .func (.method "larder/codec.whole") #[ir rb] #[]) rfl (by kernel_rfl) (by kernel_rfl) (by kernel_rfl) (fun _ _ _ h => h) (Or.inl ⟨by rfl, by intro w; go_simp⟩) ?_
  refine wpAny_take (i := 6) (v := ir rb) rfl (by kernel_rfl) (by kernel_rfl) (by kernel_rfl) (fun _ _ _ h => h) (Or.inl ⟨by rfl, by intro w; go_simp⟩) ?_
  refine wpAny_ready (rs := [7]) (by kernel_rfl) (by simp) ?_
  refine AllReady.cons rfl (fun K hK => ?_) AllReady.nil
  go_simp
  go_wp2_with fail
  refine (HC.out _).mono ?_
  rintro e w2 ⟨q2, ⟨he, rfl, hw⟩ | ⟨he, rfl, hw⟩⟩
  rotate_left
  · have HF := hid (show DnV rb b off cap l i most g o cur T w (flt ((fIn l i1).1 : Int) ((fIn l i1).2.1 : Int)) w2 by
      unfold DnV
      rw [HF1.out, andR_no (show (fIn l i1).1 ≠ 0 from he)]
      exact ⟨HT1.out.trans ((Tb.drewN rb g w1 1).trans (by rw [hw]; exact Tb.drewN _ _ _ _)), .inr ⟨he, rfl⟩⟩)
    clear hw
    go_wp2_with fail
    exact ⟨rfl, HF.out⟩
  have hTk : Tb rb g w1 w2 := (Tb.drewN rb g w1 1).trans (show Tb rb g (w1.drewN 1) w2 by rw [hw]; exact Tb.put _ q2 ⟨g, o + 6, none⟩ _ _ rfl)
  have HQ2 := hid (show w2.heap[g]? = some (.cells ((rqRow cur o a1 v3).setIfInBounds (o + 6) (.int .i64 (fIn l i1).2.2)) T (0, 0)) by rw [hw]; exact q_set (w := w1.drewN 1) HQ1.out hqb.1 (o + 6) _)
  have HR2 := hid (show RD w2 rb b off cap l (fIn l i1).2.1 most by rw [hw]; exact (HR1.out.drewN 1).put q2 _ ⟨g, o + 6, none⟩ _ hle hqb.1 hqb.2)
  have HO2 := hid (HO1.out.tb hTk hrw hgw)
  have HT2 := hid (HT1.out.trans hTk)
  have HF2 := hid (HF1.out.trans (andR_ok (show (fIn l i1).1 = 0 from he)))
  have HF := hid (show DnV rb b off cap l i most g o cur T w (.returned (.tuple #[])) w2 by
    unfold DnV
    rw [HF2.out]
    exact ⟨HT2.out, .inl ⟨rfl, rfl, HR2.out, v3, HQ2.out, HO2.out⟩⟩)
  clear he hw HC HT1 HQ1 HR1 HF1 HCB1 hna hme hle hcbk hTk HO1
  go_wp2_with fail
  refine wpAny_done (by kernel_rfl) ?_ _
  go_wp2_with fail
  go_end0
  exact HF.out
/-- what is done as cells, their lines at vs -/
def dc (L : List Dn) (vs : List Value) : List Value := (L.zip vs).flatMap fun x => [.string x.1.req.id, .int .i64 x.1.req.kind, x.2, .string x.1.req.hold, .int .i64 x.1.req.ttl, .int .i64 x.1.req.now, .int .i64 x.1.at']
theorem dc_len (L : List Dn) (vs : List Value) (h : vs.length = L.length) : (dc L vs).length = L.length * 7 := by
  induction L generalizing vs with
  | nil => simp [dc]
  | cons x t ih =>
    cases vs with
    | nil => simp at h
    | cons v vs =>
      have := ih vs (by simpa using h)
      have e : dc (x :: t) (v :: vs) = .string x.req.id :: .int .i64 x.req.kind :: v :: .string x.req.hold :: .int .i64 x.req.ttl :: .int .i64 x.req.now :: .int .i64 x.at' :: dc t vs := rfl
      rw [e, List.length_cons, List.length_cons, List.length_cons, List.length_cons, List.length_cons, List.length_cons, List.length_cons, this, List.length_cons]
      omega
theorem dc_app (L : List Dn) (x : Dn) (vs : List Value) (v : Value) (h : vs.length = L.length) : dc (L ++ [x]) (vs ++ [v]) = dc L vs ++ [.string x.req.id, .int .i64 x.req.kind, v, .string x.req.hold, .int .i64 x.req.ttl, .int .i64 x.req.now, .int .i64 x.at'] := by
  unfold dc
  rw [List.zip_append h.symm, List.flatMap_append]
  rfl
theorem dninfo : (Try.prog.info? 81).map (fun i => (i.zero, i.size, i.bytes)) = some (some (.agg #[.string ⟨#[]⟩, .int .i64 0, .slice none 0 0, .string ⟨#[]⟩, .int .i64 0, .int .i64 0, .int .i64 0]), 7, 88) := by kernel_rfl
/-- what is done in a row of the call's own, each one's lines in another -/
def ODn (w : World) (base : Nat) (v : Value) (L : List Dn) : Prop := ∃ vs : List Value, vs.length = L.length ∧ w.ownsRow base 81 7 v L.length (dc L vs) ∧ ∀ m (h : m < L.length) (h' : m < vs.length), OLn w base vs[m] L[m].req.lines ∧ ∀ k, vs[m].ownBlock = some k → v.ownBlock ≠ some k
theorem step_appD {ops : Array Oper} {o : Oper} {a : Act} {w : World} {K : Act → World → Prop} {Q : Exit → Act → World → Prop} {E : Prop} (hg : o.guard = none) (s x : Operand) (hop : o.op = Op.call { callee := Callee.builtin Builtin.append, args := #[s, x], argTypes := #[30, 30] }) (hty : o.type = 30)
    {v xv v' : Value} {w' : World} (hs : a.eval s = v) (hx : a.eval x = xv) (hrun : (Builtin.append_ #[30, 30] 30 #[v, xv]).run Try.prog w = .ok v' w') (hK : K (a.put o.dst v') w') :
    if Region.wanted o (yielded ops a.tmps) = true then Oper.wp Try.prog o a w K Q else E := by
  rw [if_pos (show Region.wanted o (yielded ops a.tmps) = true by simp [Region.wanted, hg])]
  unfold Oper.wp
  simp [execOp, hop, hty, resolve, invoke, builtin, hs, hx, hrun, Result.andThen]
  exact hK
/-- behind a list of what is done that is read into the cell po of block qb -/
def DeD (rb b off cap : Nat) (l : List UInt8) (i most qb po : Nat) (row : Array Value) (T : TypeId) (w : World) (e : Ending) (w' : World) : Prop :=
  Tb rb qb w w' ∧ (((gL (fDn most) most l i).1 = 0 ∧ e = .returned (.tuple #[]) ∧ RD w' rb b off cap l (gL (fDn most) most l i).2.1 most ∧ ∃ v', w'.heap[qb]? = some (.cells (row.setIfInBounds po v') T (0, 0)) ∧ ODn w' w.heap.size v' (gL (fDn most) most l i).2.2)
  ∨ ((gL (fDn most) most l i).1 ≠ 0 ∧ e = flt ((gL (fDn most) most l i).1 : Int) ((gL (fDn most) most l i).2.1 : Int) ∧ ∃ ao n c, w'.heap[qb]? = some (.cells (row.setIfInBounds po (.slice ao n c)) T (0, 0))))
theorem ddn_ok {rb qb g po j i0 most cap2 : Nat} {w W w' : World} {l : List UInt8} {row cur : Array Value} {T : TypeId} {v2 v3 : Value} {vs : List Value} (hT : Tb rb qb w W) (hQ : W.heap[qb]? = some (.cells (row.setIfInBounds po v2) T (0, 0))) (k : Tb rb g W w')
    (hz : (gS (fDn most) l i0 j).1 = 0) (hz4 : (fDn most l (gS (fDn most) l i0 j).2.1).1 = 0)
    (hw : w'.heap[g]? = some (.cells (dnRow cur (j * 7) (fDn most l (gS (fDn most) l i0 j).2.1).2.2 v3) 81 (0, 0)))
    (ho : OLn w' W.heap.size v3 (fDn most l (gS (fDn most) l i0 j).2.1).2.2.req.lines) (hlen : (gS (fDn most) l i0 j).2.2.length = j) (hvl : vs.length = (gS (fDn most) l i0 j).2.2.length) (hS : j + 1 ≤ cap2 ∧ cap2 ≤ maxLen ∧ cur.size = cap2 * 7 ∧ w.heap.size ≤ g ∧ cur.toList.take ((j + 1) * 7) = dc (gS (fDn most) l i0 j).2.2 vs ++ [.string ⟨#[]⟩, .int .i64 0, .slice none 0 0, .string ⟨#[]⟩, .int .i64 0, .int .i64 0, .int .i64 0]) (hq : qb ≠ rb ∧ qb < w.heap.size) (hrb : rb < w.heap.size) (hgW : g < W.heap.size) (hN : ∀ m (h : m < (gS (fDn most) l i0 j).2.2.length) (h' : m < vs.length), OLn W w.heap.size vs[m] ((gS (fDn most) l i0 j).2.2[m]).req.lines ∧ ∀ k, vs[m].ownBlock = some k → k ≠ g) :
    (gS (fDn most) l i0 (j + 1)).1 = 0 ∧ (gS (fDn most) l i0 (j + 1)).2.1 = (fDn most l (gS (fDn most) l i0 j).2.1).2.1 ∧ Tb rb qb w w' ∧ w'.heap[qb]? = some (.cells (row.setIfInBounds po v2) T (0, 0)) ∧ ODn w' w.heap.size (.slice (some ⟨g, 0, none⟩) (j + 1) cap2) (gS (fDn most) l i0 (j + 1)).2.2 := by
  obtain ⟨h1, h2, h3, h4, h5⟩ := hS
  have e1 : gS (fDn most) l i0 (j + 1) = (0, (fDn most l (gS (fDn most) l i0 j).2.1).2.1, (gS (fDn most) l i0 j).2.2 ++ [(fDn most l (gS (fDn most) l i0 j).2.1).2.2]) := (if_neg (fun e => e hz)).trans (if_neg (fun e => e hz4))
  rw [e1]
  refine ⟨rfl, rfl, tb_two hT k h4, ?_, ?_⟩
  · refine (k.block qb ?_ hq.1 (by omega)).trans hQ
    have := hT.size
    omega
  · generalize (fDn most l (gS (fDn most) l i0 j).2.1).2.2 = x at *
    generalize (gS (fDn most) l i0 j).2.2 = L at *
    have hll : (L ++ [x]).length = j + 1 := by simp [hlen]
    have hws := hT.size
    refine ⟨vs ++ [v3], by simp [hvl], ?_, ?_⟩
    · show w'.ownsRow w.heap.size _ 7 _ (L ++ [x]).length (dc (L ++ [x]) (vs ++ [v3]))
      rw [hll]
      have ll : (dc L vs).length = j * 7 := by rw [dc_len _ _ hvl, hlen]
      refine ⟨by rw [dc_len _ _ (by simp [hvl]), hll], .inr ⟨g, cap2, _, rfl, h4, hw, h1, h2, by simp [dnRow, rqRow, h3], ?_⟩⟩
      unfold dnRow rqRow
      rw [Array.toList_setIfInBounds, Array.toList_setIfInBounds, Array.toList_setIfInBounds, Array.toList_setIfInBounds, Array.toList_setIfInBounds, Array.toList_setIfInBounds, Array.toList_setIfInBounds, List.take_set, List.take_set, List.take_set, List.take_set, List.take_set, List.take_set, List.take_set, h5, dc_app _ _ _ _ hvl, List.set_append_right _ _ (by omega), ll, Nat.sub_self, List.set_append_right _ _ (by omega), ll, show j * 7 + 1 - j * 7 = 1 by omega, List.set_append_right _ _ (by omega), ll, show j * 7 + 2 - j * 7 = 2 by omega, List.set_append_right _ _ (by omega), ll, show j * 7 + 3 - j * 7 = 3 by omega, List.set_append_right _ _ (by omega), ll, show j * 7 + 4 - j * 7 = 4 by omega, List.set_append_right _ _ (by omega), ll, show j * 7 + 5 - j * 7 = 5 by omega, List.set_append_right _ _ (by omega), ll, show j * 7 + 6 - j * 7 = 6 by omega]
      rfl
    · intro m hm hm'
      have hm2 : m < (L ++ [x]).length := hm
      by_cases hmj : m < j
      · obtain ⟨n1, n2⟩ := hN m (by omega) (by omega)
        have e1 : (L ++ [x])[m] = L[m]'(by omega) := List.getElem_append_left (by omega)
        have e2 : (vs ++ [v3])[m] = vs[m]'(by omega) := List.getElem_append_left (by omega)
        rw [e1, e2]
        refine ⟨n1.own (fun kk hk => ?_), fun kk hk e => n2 kk hk (by injection e with e; exact e.symm)⟩
        obtain ⟨q1, q2⟩ := World.ownsRow.lt n1 kk hk
        exact k.block kk q2 (by omega) (n2 kk hk)
      · obtain rfl : m = j := by omega
        have e1 : (L ++ [x])[m] = x := by rw [List.getElem_append_right (by omega)]; simp [hlen]
        have e2 : (vs ++ [v3])[m] = v3 := by rw [List.getElem_append_right (by omega)]; simp [hvl, hlen]
        rw [e1, e2]
        refine ⟨ho.lower (by omega), fun kk hk e => ?_⟩
        obtain ⟨q1, q2⟩ := World.ownsRow.lt ho kk hk
        have e : some g = some kk := e
        injection e with e
        omega
set_option maxHeartbeats 2000000 in
theorem ddonelist_any (cb qb po : Nat) (row : Array Value) (T : TypeId) (w : World) {rb b off cap i most : Nat} {l : List UInt8} (h : RD w rb b off cap l i most) (hcp : l.length ≤ 100000000000000) (hm : most ≤ 1000000000)
    (hcb : w.cell? ⟨cb, 0, none⟩ = some (ir rb)) (hcw : cb ≠ rb ∧ cb ≠ qb) (hq : w.heap[qb]? = some (.cells row T (0, 0))) (hrow : row[po]? = some (.slice none 0 0)) (hqb : qb ≠ rb ∧ qb ≠ b) (hbw : b < w.heap.size) :
    Calls Try.prog 77 #[ir rb, .pointer (some ⟨qb, po, none⟩), .func (.func 78) #[] #[.pointer (some ⟨cb, 0, none⟩)]] w fun e w' => DeD rb b off cap l i most qb po row T w e w' := by
  have hmf : ∀ (fn : Fn) (first cap : Array Value) (w : World), (Instr.makeFunc fn first cap).run Try.prog w = .ok (.func fn first cap) w := fun _ _ _ _ => rfl
  have HC := hid (fun q => dcount_any 0 (w.drewN q) (h.drewN q) hcp hm)
  have hle := at_le h.at' (ct_le (l.drop i) most)
  have hp : w.cell? ⟨qb, po, none⟩ = some (.slice none 0 0) := by rw [cell_of_row w qb po _ _ _ hq]; exact hrow
  have H := hid h
  have HCB := hid hcb
  have HCW := hid hcw
  have HQ := hid hq
  have HQB := hid hqb
  have hna := nr_count rb
  have hme := mr_count
  clear h hcw hcb hq hqb
  go_enter Try.func77, Try.ntmps77
  go_wp2_with fail
  refine wp_region_any (by kernel_rfl) ?_
  try (change wpAny _ _ _ _ _ _ _ (World.drew _))
  refine wpAny_take (i := 0) (v := ir rb) rfl (by kernel_rfl) (by kernel_rfl) (by kernel_rfl) (fun _ _ _ h => h) (Or.inl ⟨by rfl, by intro w; go_simp⟩) ?_
  refine wpAny_take (i := 1) (v := .pointer (some ⟨qb, po, none⟩)) rfl (by kernel_rfl) (by kernel_rfl) (by kernel_rfl) (fun _ _ _ h => h) (Or.inl ⟨by rfl, by intro w; go_simp⟩) ?_
  refine wpAny_take (i := 2) (v := .pointer (some ⟨qb, po, none⟩)) rfl (by kernel_rfl) (by kernel_rfl) (by kernel_rfl) (fun _ _ _ h => h) (Or.inl ⟨by rfl, by intro w; go_simp⟩) ?_
  refine wpAny_take (i := 9) (v := .int .i64 0) rfl (by kernel_rfl) (by kernel_rfl) (by kernel_rfl) (fun _ _ _ h => h) (Or.inl ⟨by rfl, by intro w; go_simp⟩) ?_
  refine wpAny_take (i := 5) (v := .func (.method "larder/codec.count") #[ir rb] #[]) rfl (by kernel_rfl) (by kernel_rfl) (by kernel_rfl) (fun _ _ _ h => h) (Or.inl ⟨by rfl, by intro w; go_simp⟩) ?_
  refine wpAny_take (i := 6) (v := .func (.method "larder/codec.count") #[ir rb] #[]) rfl (by kernel_rfl) (by kernel_rfl) (by kernel_rfl) (fun _ _ _ h => h) (Or.inl ⟨by rfl, by intro w; go_simp⟩) ?_
  refine wpAny_take (i := 7) (v := ir rb) rfl (by kernel_rfl) (by kernel_rfl) (by kernel_rfl) (fun _ _ _ h => h) (Or.inl ⟨by rfl, by intro w; go_simp⟩) ?_
  refine wpAny_ready (rs := [3]) (by kernel_rfl) (by simp) ?_
  refine AllReady.cons rfl (fun K hK => ?_) AllReady.nil
  go_simp
  refine hK _ _ ?_
  clear hK K
  refine wpAny_take (i := 4) (v := .int .i64 0) rfl (by kernel_rfl) (by kernel_rfl) (by kernel_rfl) (fun _ _ _ h => h) (Or.inl ⟨by rfl, by intro w; go_simp⟩) ?_
  refine wpAny_ready (rs := [8]) (by kernel_rfl) (by simp) ?_
  refine AllReady.cons rfl (fun K hK => ?_) AllReady.nil
  go_simp
  go_wp2_with fail
  refine (HC.out _).mono ?_
  rintro e w2 ⟨q, ⟨he, rfl, hw2⟩ | ⟨he, rfl, hw2⟩⟩
  · have HTb2 := hid (show Tb rb qb w w2 from (Tb.drewN rb qb w 1).trans (by rw [hw2]; exact (Tb.drewN rb qb _ q).trans (Tb.set _ ⟨rb, 1, none⟩ _ (.inl rfl))))
    have HR2 := hid (show RD w2 rb b off cap l (i + (ct (l.drop i) most).2.1) most from by
      rw [hw2]
      refine ⟨heap_setCell_same _ rb 1 _ _ _ H.out.top, H.out.room, hle, H.out.ne, fun j hj => ?_⟩
      rw [World.cell?_setCell_other _ _ _ _ (fun e => H.out.ne (by injection e with e; exact e.symm))]
      exact H.out.bytes j hj)
    have HQ2 := hid (show w2.heap[qb]? = some (.cells row T (0, 0)) from by
      rw [hw2, heap_setCell_other _ ⟨rb, 1, none⟩ qb _ HQB.out.1]
      exact HQ.out)
    have HFi := hid (show gL (fDn most) most l i = gS (fDn most) l (i + (ct (l.drop i) most).2.1) (ct (l.drop i) most).1 from if_neg (fun e => e he))
    have hcn : (ct (l.drop i) most).1 ≤ most := by
      have he2 := he
      unfold ct at he2 ⊢
      split at he2
      · cases he2
      · rename_i hc; rw [if_neg hc]; omega
    have HRo := hid hrow
    have HE := hid he
    clear he hw2 HC hp hrow
    obtain ⟨i0, hi0⟩ : ∃ i0, i + (ct (l.drop i) most).2.1 = i0 := ⟨_, rfl⟩
    obtain ⟨n, hn⟩ : ∃ n, (ct (l.drop i) most).1 = n := ⟨_, rfl⟩
    rw [hi0] at HR2 hle
    rw [hi0, hn] at HFi
    rw [hn] at hcn
    rw [hn]
    clear hi0 hn
    go_wp2_with fail
    refine wpAny_done (by kernel_rfl) ?_ _
    go_wp2_with fail
    go_loopw [6, 7, 17] (fun _ _ vi wx => ∃ (j : Nat) (v' : Value), j ≤ n ∧ vi = .int .i64 (j : Int) ∧ (gS (fDn most) l i0 j).1 = 0 ∧ RD wx rb b off cap l (gS (fDn most) l i0 j).2.1 most ∧ Tb rb qb w wx ∧ wx.heap[qb]? = some (.cells (row.setIfInBounds po v') T (0, 0)) ∧ ODn wx w.heap.size v' (gS (fDn most) l i0 j).2.2) (fun _ _ vi _ => n - (intOf vi).toNat)
    case atStart => exact ⟨0, .slice none 0 0, Nat.zero_le _, rfl, rfl, HR2.out, HTb2.out, by rw [set_self HRo.out]; exact HQ2.out, [], rfl, World.ownsRow_nil _ _ _ _, fun m h => absurd h (Nat.not_lt_zero m)⟩
    case round =>
      obtain ⟨j, v', hj, rfl, hz, hR, hTb, hQ, vs, hvl, hO, hN⟩ := hrel
      by_cases hlt : j < n
      · have hI : (j : Int) < (n : Int) := by omega
        have hIb : ((j : Int) == (j : Int)) = true := by simp
        have hlen := gS_len (fDn most) l i0 j hz
        obtain ⟨aoj, capj, hv'⟩ : ∃ ao c, v' = .slice ao j c := by
          rcases hO.2 with ⟨rfl, h0⟩ | ⟨g, c, cur, rfl, _⟩
          · exact ⟨none, 0, by rw [← hlen, h0]⟩
          · exact ⟨_, c, by rw [hlen]⟩
        subst hv'
        have hpo : po < row.size := (Array.getElem?_eq_some_iff.1 HRo.out).1
        have cq : wr.cell? ⟨qb, po, none⟩ = some (.slice aoj j capj) := by
          rw [cell_of_row wr qb po _ _ _ hQ, Array.getElem?_setIfInBounds, if_pos rfl, if_pos hpo]
        obtain ⟨W1, hW1⟩ : ∃ W1, wr.alloc (.cells #[.string ⟨#[]⟩, .int .i64 0, .slice none 0 0, .string ⟨#[]⟩, .int .i64 0, .int .i64 0, .int .i64 0] 81) = W1 := ⟨_, rfl⟩
        obtain ⟨WA, hWA⟩ : ∃ WA, W1.drew.alloc (.cells #[.string ⟨#[]⟩, .int .i64 0, .slice none 0 0, .string ⟨#[]⟩, .int .i64 0, .int .i64 0, .int .i64 0] 81) = WA := ⟨_, rfl⟩
        have z1 : W1.heap.size = wr.heap.size + 1 := by rw [← hW1, World.size_alloc]
        have hb1 : Below wr.heap.size wr W1 := by rw [← hW1]; exact (Below.refl _ _).alloc (Nat.le_refl _) _
        have hbA : Below wr.heap.size wr WA := by
          have : Below W1.drew.heap.size W1.drew WA := by rw [← hWA]; exact (Below.refl _ _).alloc (Nat.le_refl _) _
          exact hb1.drew.trans (this.mono (by show wr.heap.size ≤ W1.heap.size; omega))
        have zA : WA.heap.size = wr.heap.size + 2 := by rw [← hWA, World.size_alloc]; show W1.heap.size + 1 = _; omega
        have hOA : WA.ownsRow w.heap.size 81 7 (.slice aoj j capj) j (dc (gS (fDn most) l i0 j).2.2 vs) := by
          have h1 := World.ownsRow.kept hO (show wr.grownBy WA none from ⟨hbA.os, hbA.tape, hbA.output, hbA.size, fun k hk _ => hbA.block k hk⟩) (by cases (Value.slice aoj j capj).ownBlock <;> simp)
          rw [hlen] at h1
          exact h1
        have cq1 : W1.drew.cell? ⟨qb, po, none⟩ = some (.slice aoj j capj) := below_cells hb1 _ _ cq
        have cqW : WA.cell? ⟨qb, po, none⟩ = some (.slice aoj j capj) := below_cells hbA _ _ cq
        have hzl : W1.heap[wr.heap.size]? = some (.cells #[.string ⟨#[]⟩, .int .i64 0, .slice none 0 0, .string ⟨#[]⟩, .int .i64 0, .int .i64 0, .int .i64 0] 81 (0, 0)) := by rw [← hW1]; exact heap_alloc_new wr _
        have cz0 : W1.drew.cell? ⟨wr.heap.size, 0, none⟩ = some (.string ⟨#[]⟩) := by show W1.cell? _ = _; rw [cell_of_row _ _ _ _ _ _ hzl]; rfl
        have cz1 : W1.drew.cell? ⟨wr.heap.size, 1, none⟩ = some (.int .i64 0) := by show W1.cell? _ = _; rw [cell_of_row _ _ _ _ _ _ hzl]; rfl
        have cz2 : W1.drew.cell? ⟨wr.heap.size, 2, none⟩ = some (.slice none 0 0) := by show W1.cell? _ = _; rw [cell_of_row _ _ _ _ _ _ hzl]; rfl
        have cz3 : W1.drew.cell? ⟨wr.heap.size, 3, none⟩ = some (.string ⟨#[]⟩) := by show W1.cell? _ = _; rw [cell_of_row _ _ _ _ _ _ hzl]; rfl
        have cz4 : W1.drew.cell? ⟨wr.heap.size, 4, none⟩ = some (.int .i64 0) := by show W1.cell? _ = _; rw [cell_of_row _ _ _ _ _ _ hzl]; rfl
        have cz5 : W1.drew.cell? ⟨wr.heap.size, 5, none⟩ = some (.int .i64 0) := by show W1.cell? _ = _; rw [cell_of_row _ _ _ _ _ _ hzl]; rfl
        have cz6 : W1.drew.cell? ⟨wr.heap.size, 6, none⟩ = some (.int .i64 0) := by show W1.cell? _ = _; rw [cell_of_row _ _ _ _ _ _ hzl]; rfl
        obtain ⟨ti, hti, hz0, hz1, hz2⟩ := info_parts dninfo
        have hsz := hTb.size
        obtain ⟨v2, wA, hap, hown2, hgr, _, hloc⟩ := run_append_own_at (P := Try.prog) WA w.heap.size 30 30 81 ti (.agg #[.string ⟨#[]⟩, .int .i64 0, .slice none 0 0, .string ⟨#[]⟩, .int .i64 0, .int .i64 0, .int .i64 0]) 7 88 Try.underlying30 hti hz0 hz1 hz2 rfl (by decide) _ j _ hOA ⟨W1.heap.size, 0, none⟩ 1 1 [.string ⟨#[]⟩, .int .i64 0, .slice none 0 0, .string ⟨#[]⟩, .int .i64 0, .int .i64 0, .int .i64 0] rfl (fun k u hk => by
          rw [← hWA]
          have hn : (W1.drew.alloc (.cells #[.string ⟨#[]⟩, .int .i64 0, .slice none 0 0, .string ⟨#[]⟩, .int .i64 0, .int .i64 0, .int .i64 0] 81)).heap[W1.heap.size]? = some (.cells #[.string ⟨#[]⟩, .int .i64 0, .slice none 0 0, .string ⟨#[]⟩, .int .i64 0, .int .i64 0, .int .i64 0] 81 (0, 0)) := heap_alloc_new W1.drew _
          rw [Addr.add_lit, Nat.zero_add, cell_of_row _ _ _ _ _ _ hn]
          simpa using hk) (by intro u hu; simp at hu; rcases hu with rfl | rfl | rfl | rfl | rfl | rfl | rfl <;> rfl) (by unfold maxLen; omega) (by omega) (by omega)
        rw [z1] at hap
        have HAP := hid hap
        clear hap
        have hqlt : qb < w.heap.size := (Array.getElem?_eq_some_iff.1 HQ.out).1
        have hqA : wA.heap[qb]? = some (.cells (row.setIfInBounds po (.slice aoj j capj)) T (0, 0)) := by
          refine (hgr.block qb (by omega) (fun e => ?_)).trans ((hbA.block qb (by omega)).trans hQ)
          have := (World.ownsRow.lt hO qb e.symm).1
          omega
        have cqA : wA.cell? ⟨qb, po, none⟩ = some (.slice aoj j capj) := by
          rw [cell_of_row wA qb po _ _ _ hqA, Array.getElem?_setIfInBounds, if_pos rfl, if_pos hpo]
        have fqA : wA.frozen? ⟨qb, po, none⟩ = false := by simp [World.frozen?, hqA]
        obtain ⟨g2, cap2, cur2, hv2, hg2, hh2, hc2, hm2, hs2, ht2⟩ : ∃ g cap cur, v2 = .slice (some ⟨g, 0, none⟩) (j + 1) cap ∧ w.heap.size ≤ g ∧ wA.heap[g]? = some (.cells cur 81 (0, 0)) ∧ j + 1 ≤ cap ∧ cap ≤ maxLen ∧ cur.size = cap * 7 ∧ cur.toList.take ((j + 1) * 7) = dc (gS (fDn most) l i0 j).2.2 vs ++ [.string ⟨#[]⟩, .int .i64 0, .slice none 0 0, .string ⟨#[]⟩, .int .i64 0, .int .i64 0, .int .i64 0] := by
          rcases hown2.2 with ⟨_, h0⟩ | h2
          · omega
          · exact h2
        subst hv2
        obtain ⟨W3, hW3⟩ : ∃ W3, wA.setCell ⟨qb, po, none⟩ (.slice (some ⟨g2, 0, none⟩) (j + 1) cap2) = W3 := ⟨_, rfl⟩
        have hown_ge : ∀ k, (Value.slice aoj j capj).ownBlock = some k → w.heap.size ≤ k := fun k e => (World.ownsRow.lt hO k e).1
        have hrlt : rb < w.heap.size := (Array.getElem?_eq_some_iff.1 H.out.top).1
        have hclt : cb < w.heap.size := World.block_lt_of_cell? _ _ HCB.out
        have h3 : ∀ k, k < w.heap.size → k ≠ qb → W3.heap[k]? = wr.heap[k]? := fun k hk h1 => by
          rw [← hW3, heap_setCell_other wA ⟨qb, po, none⟩ k _ h1]
          refine (hgr.block k (by omega) (fun e => ?_)).trans (hbA.block k (by omega))
          have := hown_ge k e.symm
          omega
        have hT3 : Tb rb qb w W3 := by
          refine ⟨?_, ?_, ?_, ?_, fun k hk h1 h2 => (h3 k hk h2).trans (hTb.block k hk h1 h2)⟩
          · rw [← hW3]; exact hgr.os.trans (hbA.os.trans hTb.os)
          · rw [← hW3]; exact hgr.tape.trans (hbA.tape.trans hTb.tape)
          · rw [← hW3]; exact hgr.output.trans (hbA.output.trans hTb.output)
          · rw [← hW3, World.size_setCell]; have := hgr.size; omega
        have hR3 : RD W3 rb b off cap l (gS (fDn most) l i0 j).2.1 most := by
          refine ⟨(h3 rb hrlt (fun e => HQB.out.1 e.symm)).trans hR.top, hR.room, hR.at', hR.ne, fun k hk => ?_⟩
          have hb0 := World.block_lt_of_cell? _ _ (H.out.bytes k hk)
          have := h3 b hb0 (fun e => HQB.out.2 e.symm)
          have hc := hR.bytes k hk
          simp only [World.cell?] at hc ⊢
          rw [this]
          exact hc
        have hcb3 : W3.cell? ⟨cb, 0, none⟩ = some (ir rb) := by
          have e1 := hT3.block cb hclt HCW.out.1 HCW.out.2
          have hc := HCB.out
          simp only [World.cell?] at hc ⊢
          rw [e1]
          exact hc
        have hrw3 : W3.heap[g2]? = some (.cells cur2 81 (0, 0)) := by
          rw [← hW3, heap_setCell_other wA ⟨qb, po, none⟩ g2 _ (by show g2 ≠ qb; omega)]
          exact hh2
        have hq3 : W3.heap[qb]? = some (.cells (row.setIfInBounds po (.slice (some ⟨g2, 0, none⟩) (j + 1) cap2)) T (0, 0)) := by
          rw [← hW3, heap_setCell_same wA qb po _ _ _ hqA]
          simp
        have ll : (dc (gS (fDn most) l i0 j).2.2 vs).length = j * 7 := by rw [dc_len _ _ hvl, hlen]
        have k0 : cur2[j * 7]? = some (.string ⟨#[]⟩) := by
          have : (cur2.toList.take ((j + 1) * 7))[j * 7]? = some (.string ⟨#[]⟩) := by rw [ht2, List.getElem?_append_right (by omega), ll, Nat.sub_self]; rfl
          rw [List.getElem?_take, if_pos (by omega)] at this
          rw [← Array.getElem?_toList]; exact this
        have k1 : cur2[j * 7 + 1]? = some (.int .i64 0) := by
          have : (cur2.toList.take ((j + 1) * 7))[j * 7 + 1]? = some (.int .i64 0) := by rw [ht2, List.getElem?_append_right (by omega), ll, show j * 7 + 1 - j * 7 = 1 by omega]; rfl
          rw [List.getElem?_take, if_pos (by omega)] at this
          rw [← Array.getElem?_toList]; exact this
        have k2 : cur2[j * 7 + 2]? = some (.slice none 0 0) := by
          have : (cur2.toList.take ((j + 1) * 7))[j * 7 + 2]? = some (.slice none 0 0) := by rw [ht2, List.getElem?_append_right (by omega), ll, show j * 7 + 2 - j * 7 = 2 by omega]; rfl
          rw [List.getElem?_take, if_pos (by omega)] at this
          rw [← Array.getElem?_toList]; exact this
        have k3 : cur2[j * 7 + 3]? = some (.string ⟨#[]⟩) := by
          have : (cur2.toList.take ((j + 1) * 7))[j * 7 + 3]? = some (.string ⟨#[]⟩) := by rw [ht2, List.getElem?_append_right (by omega), ll, show j * 7 + 3 - j * 7 = 3 by omega]; rfl
          rw [List.getElem?_take, if_pos (by omega)] at this
          rw [← Array.getElem?_toList]; exact this
        have k4 : cur2[j * 7 + 4]? = some (.int .i64 0) := by
          have : (cur2.toList.take ((j + 1) * 7))[j * 7 + 4]? = some (.int .i64 0) := by rw [ht2, List.getElem?_append_right (by omega), ll, show j * 7 + 4 - j * 7 = 4 by omega]; rfl
          rw [List.getElem?_take, if_pos (by omega)] at this
          rw [← Array.getElem?_toList]; exact this
        have k5 : cur2[j * 7 + 5]? = some (.int .i64 0) := by
          have : (cur2.toList.take ((j + 1) * 7))[j * 7 + 5]? = some (.int .i64 0) := by rw [ht2, List.getElem?_append_right (by omega), ll, show j * 7 + 5 - j * 7 = 5 by omega]; rfl
          rw [List.getElem?_take, if_pos (by omega)] at this
          rw [← Array.getElem?_toList]; exact this
        have k6 : cur2[j * 7 + 6]? = some (.int .i64 0) := by
          have : (cur2.toList.take ((j + 1) * 7))[j * 7 + 6]? = some (.int .i64 0) := by rw [ht2, List.getElem?_append_right (by omega), ll, show j * 7 + 6 - j * 7 = 6 by omega]; rfl
          rw [List.getElem?_take, if_pos (by omega)] at this
          rw [← Array.getElem?_toList]; exact this
        have HDl := hid (ddone_any cb g2 (j * 7) cur2 81 W3 hR3 hcp hm hcb3 ⟨HCW.out.1, by omega⟩ hrw3 k0 k1 k2 k3 k4 k5 k6 ⟨by omega, by omega⟩ (by have := hT3.size; omega) (by have := hT3.size; omega))
        have hg2W := (Array.getElem?_eq_some_iff.1 hrw3).1
        have HN3 := hid (show ∀ m (h : m < (gS (fDn most) l i0 j).2.2.length) (h' : m < vs.length), OLn W3 w.heap.size vs[m] ((gS (fDn most) l i0 j).2.2[m]).req.lines ∧ ∀ k, vs[m].ownBlock = some k → k ≠ g2 from fun m h h' => by
          obtain ⟨n1, n2⟩ := hN m h h'
          refine ⟨n1.own (fun k hk => ?_), fun k hk => ?_⟩
          · obtain ⟨e1, e2⟩ := World.ownsRow.lt n1 k hk
            rw [← hW3, heap_setCell_other wA ⟨qb, po, none⟩ k _ (by show k ≠ qb; omega)]
            exact (hgr.block k (by omega) (fun e => n2 k hk e.symm)).trans (hbA.block k e2)
          · obtain ⟨e1, e2⟩ := World.ownsRow.lt n1 k hk
            rcases hloc with e | e
            · rintro rfl; exact n2 k hk (by rw [← e]; rfl)
            · have e : some g2 = some WA.heap.size := e
              injection e with e
              omega)
        have c3 : W3.cell? ⟨qb, po, none⟩ = some (.slice (some ⟨g2, 0, none⟩) (j + 1) cap2) := by
          rw [cell_of_row _ _ _ _ _ _ hq3, Array.getElem?_setIfInBounds, if_pos rfl, if_pos hpo]
        have hIc : (j : Int) < (j : Int) + 1 := by omega
        have HT3 := hid hT3
        have HQ3 := hid hq3
        have HQS := hid (show j + 1 ≤ cap2 ∧ cap2 ≤ maxLen ∧ cur2.size = cap2 * 7 ∧ w.heap.size ≤ g2 ∧ cur2.toList.take ((j + 1) * 7) = dc (gS (fDn most) l i0 j).2.2 vs ++ [.string ⟨#[]⟩, .int .i64 0, .slice none 0 0, .string ⟨#[]⟩, .int .i64 0, .int .i64 0, .int .i64 0] from ⟨hc2, hm2, hs2, hg2, ht2⟩)
        clear hR hTb hQ hO hN hT3 hR3 hcb3 hrw3 hq3 k0 k1 k2 k3 k4 k5 k6 ll h3 hown_ge hgr hown2 hh2 hqA hOA hloc ht2
        go_wp2_with fail
        go_region_law (refine step_appD rfl _ _ rfl rfl rfl rfl HAP.out ?_)
        all_goals
          clear HAP
          go_wp2_with fail
          try rw [hW3]
          refine Calls.mono HDl.out ?_
          rintro e w4 ⟨hT4, ⟨hz4, rfl, hR4, v3, hw4, ho4⟩ | ⟨hz4, rfl⟩⟩
          · have HFn := hid (ddn_ok HT3.out HQ3.out hT4 hz hz4 hw4 ho4 hlen hvl HQS.out ⟨HQB.out.1, hqlt⟩ hrlt hg2W HN3.out)
            have HR4 := hid hR4
            have HZ4 := hid hz4
            clear hT4 hw4 hR4 ho4
            go_wp2_with fail
            go_roundw
            case rel => exact ⟨j + 1, _, by omega, by go_num, HFn.out.1, by rw [HFn.out.2.1]; exact HR4.out, HFn.out.2.2.1, HFn.out.2.2.2.1, HFn.out.2.2.2.2⟩
            case measure => simp [intOf]; omega
          · have HF := hid (show DeD rb b off cap l i most qb po row T w (flt ((fDn most l (gS (fDn most) l i0 j).2.1).1 : Int) ((fDn most l (gS (fDn most) l i0 j).2.1).2.1 : Int)) w4 by
              unfold DeD
              rw [HFi.out]
              have e1 : gS (fDn most) l i0 (j + 1) = ((fDn most l (gS (fDn most) l i0 j).2.1).1, (fDn most l (gS (fDn most) l i0 j).2.1).2.1, []) := (if_neg (fun e => e hz)).trans (if_pos hz4)
              have e2 := gS_stuck (fDn most) l i0 (j + 1) (by rw [e1]; exact hz4) n (by omega)
              rw [e2.1, e2.2, e1]
              exact ⟨tb_two HT3.out hT4 hg2, .inr ⟨hz4, rfl, _, _, _, (hT4.block qb (by have := HT3.out.size; omega) HQB.out.1 (by omega)).trans HQ3.out⟩⟩)
            clear hT4
            go_wp2_with fail
            exact ⟨rfl, HF.out⟩
      · have hI : ¬ (j : Int) < (n : Int) := by omega
        obtain rfl : j = n := by omega
        have HF := hid (show DeD rb b off cap l i most qb po row T w (.returned (.tuple #[])) wr by
          unfold DeD
          rw [HFi.out]
          exact ⟨hTb, .inl ⟨hz, rfl, hR, v', hQ, vs, hvl, hO, hN⟩⟩)
        clear hR hTb hQ hO hN
        go_wp2_with fail
        go_end0
        exact HF.out
  · have HF := hid (show DeD rb b off cap l i most qb po row T w (flt ((ct (l.drop i) most).2.2 : Int) ((i + (ct (l.drop i) most).2.1 : Nat) : Int)) w2 by
      unfold DeD
      rw [show gL (fDn most) most l i = _ from if_pos he]
      exact ⟨(Tb.drewN rb qb w 1).trans (by rw [hw2]; exact Tb.drewN _ _ _ _), .inr ⟨he, rfl, none, 0, 0, by rw [set_self hrow, hw2]; exact HQ.out⟩⟩)
    clear hw2
    go_wp2_with fail
    exact ⟨rfl, HF.out⟩
end Go.Proofs.Ytfhicemfhkhjaab
