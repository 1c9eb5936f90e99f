/-
  codec's forms with a reader: levels. Laid by mklv2.py.
-/
import Derived.Test.YtfhicemfhkhjaabRc4
import Derived.Test.YtfhicemfhkhjaabLv1
namespace Go.Proofs.Ytfhicemfhkhjaab
open Go.RowKit
set_option maxRecDepth 100000

/-- a level that is read from place i on: the error, its place or where it ends, the level -/
def fLv (l : List UInt8) (most i : Nat) : Nat × Nat × Lv := andR (fTx l most i) (⟨#[]⟩, 0, 0) fun i1 s => andR (fIn l i1) (⟨#[]⟩, 0, 0) fun i2 n => andR (fIn l i2) (⟨#[]⟩, 0, 0) fun i3 m => (0, i3, (s, n, m))
theorem fLv_eq (l : List UInt8) (most i : Nat) : fLv l most i = andR (fTx l most i) (⟨#[]⟩, 0, 0) fun i1 s => andR (fIn l i1) (⟨#[]⟩, 0, 0) fun i2 n => andR (fIn l i2) (⟨#[]⟩, 0, 0) fun i3 m => (0, i3, (s, n, m)) := rfl
/-- a row with a level laid at o -/
def lvRow (cur : Array Value) (o : Nat) (x : Lv) : Array Value := ((cur.setIfInBounds o (.string x.1)).setIfInBounds (o + 1) (.int .i64 x.2.1)).setIfInBounds (o + 2) (.int .i64 x.2.2)
/-- behind a level that is read into the cells at g, o -/
def DlV (rb b off cap : Nat) (l : List UInt8) (i most g o : Nat) (cur : Array Value) (T : TypeId) (w : World) (e : Ending) (w' : World) : Prop :=
  Tb rb g w w' ∧ (((fLv l most i).1 = 0 ∧ e = .returned (.tuple #[]) ∧ RD w' rb b off cap l (fLv l most i).2.1 most ∧ w'.heap[g]? = some (.cells (lvRow cur o (fLv l most i).2.2) T (0, 0)))
  ∨ ((fLv l most i).1 ≠ 0 ∧ e = flt ((fLv l most i).1 : Int) ((fLv l most i).2.1 : Int)))
theorem cb_keep {rb g cb : Nat} {w w' : World} {u : Value} (h : Tb rb g w w') (hc : w.cell? ⟨cb, 0, none⟩ = some u) (h1 : cb ≠ rb ∧ cb ≠ g) : w'.cell? ⟨cb, 0, none⟩ = some u :=
  (World.cell?_of_block (h.block cb (World.block_lt_of_cell? _ _ hc) h1.1 h1.2)).trans hc
set_option maxHeartbeats 2000000 in
theorem dlevel_any (cb g o : Nat) (s0 : ByteArray) (n0 m0 : Int) (cur : Array Value) (T : TypeId) (w : World) {rb b off cap i most : Nat} {l : List UInt8} (h : RD w rb b off cap l i most) (hcp : l.length ≤ 100000000000000) (hm : most ≤ 1000000000)
    (hcb : w.cell? ⟨cb, 0, none⟩ = some (ir rb)) (hcw : cb ≠ rb ∧ cb ≠ g) (hq : w.heap[g]? = some (.cells cur T (0, 0))) (k0 : cur[o]? = some (.string s0)) (k1 : cur[o + 1]? = some (.int .i64 n0)) (k2 : cur[o + 2]? = some (.int .i64 m0)) (hqb : g ≠ rb ∧ g ≠ b) :
    Calls Try.prog 92 #[.pointer (some ⟨g, o, none⟩), .pointer (some ⟨cb, 0, none⟩)] w fun e w' => DlV rb b off cap l i most g o cur T w e w' := by
  have hmf : ∀ (fn : Fn) (first cap : Array Value) (w : World), (Instr.makeFunc fn first cap).run Try.prog w = .ok (.func fn first cap) w := fun _ _ _ _ => rfl
  have HF0 := hid (fLv_eq l most i)
  have HR0 := hid h
  have HT0 := hid (Tb.drewN rb g w 0)
  have HQ0 := hid hq
  have HCB0 := hid hcb
  have HCW := hid hcw
  have HK0 := hid k0
  have HK1 := hid k1
  have HK2 := hid k2
  clear h hq hcb hcw k0 k1 k2
  go_enter Try.func92, Try.ntmps92
  have hcell : w.cell? ⟨g, o, none⟩ = some (.string s0) := by
    rw [cell_of_row _ _ _ _ _ _ HQ0.out]
    show (cur)[o]? = _; exact HK0.out
  have HC := hid (fun q => dtext_any ⟨g, o, none⟩ s0 (w.drewN q) (HR0.out.drewN q) hcp hm (by show w.cell? _ = _; exact hcell) (by show w.frozen? _ = _; simp [World.frozen?, HQ0.out]) hqb.1)
  have hle := at_le HR0.out.at' (tx_le (l.drop i) most)
  have hna := nr_text rb
  have hme := mr_text
  have hcbk := HCB0.out
  clear hcell
  go_wp2_with fail
  refine wp_region_any (by kernel_rfl) ?_
  try (change wpAny _ _ _ _ _ _ _ (World.drew _))
  refine wpAny_take (i := 1) (v := .pointer (some ⟨g, o, none⟩)) rfl (by kernel_rfl) (by kernel_rfl) (by kernel_rfl) (fun _ _ _ h => h) (Or.inl ⟨by rfl, by intro w; go_simp⟩) ?_
  refine wpAny_take (i := 2) (v := .pointer (some ⟨g, o, none⟩)) rfl (by kernel_rfl) (by kernel_rfl) (by kernel_rfl) (fun _ _ _ h => h) (Or.inl ⟨by rfl, by intro w; go_simp⟩) ?_
  refine wpAny_take (i := 3) (v := .pointer (some ⟨g, o, none⟩)) rfl (by kernel_rfl) (by kernel_rfl) (by kernel_rfl) (fun _ _ _ h => h) (Or.inl ⟨by rfl, by intro w; go_simp⟩) ?_
  refine wpAny_ready (rs := [0]) (by kernel_rfl) (by simp) ?_
  refine AllReady.cons rfl (fun K hK => ?_) AllReady.nil
  go_simp
  refine hK _ _ ?_
  clear hK K
  refine wpAny_ready (rs := [4]) (by kernel_rfl) (by simp) ?_
  refine AllReady.cons rfl (fun K hK => ?_) AllReady.nil
  go_simp
  refine hK _ _ ?_
  clear hK K
  refine wpAny_take (i := 5) (v := .func (.method "larder/codec.text") #[ir rb] #[]) rfl (by kernel_rfl) (by kernel_rfl) (by kernel_rfl) (fun _ _ _ h => h) (Or.inl ⟨by rfl, by intro w; go_simp⟩) ?_
  refine wpAny_take (i := 6) (v := ir rb) rfl (by kernel_rfl) (by kernel_rfl) (by kernel_rfl) (fun _ _ _ h => h) (Or.inl ⟨by rfl, by intro w; go_simp⟩) ?_
  refine wpAny_ready (rs := [7]) (by kernel_rfl) (by simp) ?_
  refine AllReady.cons rfl (fun K hK => ?_) AllReady.nil
  go_simp
  go_wp2_with fail
  refine (HC.out _).mono ?_
  rintro e w1 ⟨q1, ⟨he, rfl, hw⟩ | ⟨he, rfl, hw⟩⟩
  rotate_left
  · have HF := hid (show DlV rb b off cap l i most g o cur T w (flt ((fTx l most i).1 : Int) ((fTx l most i).2.1 : Int)) w1 by
      unfold DlV
      rw [HF0.out, andR_no (show (fTx l most i).1 ≠ 0 from he)]
      exact ⟨HT0.out.trans ((Tb.drewN rb g w 1).trans (by rw [hw]; exact Tb.drewN _ _ _ _)), .inr ⟨he, rfl⟩⟩)
    clear hw
    go_wp2_with fail
    exact ⟨rfl, HF.out⟩
  have hTk : Tb rb g w w1 := (Tb.drewN rb g w 1).trans (show Tb rb g (w.drewN 1) w1 by rw [hw]; exact Tb.put _ q1 ⟨g, o, none⟩ _ _ rfl)
  have HT1 := hid (HT0.out.trans hTk)
  have HCB1 := hid (cb_keep hTk HCB0.out HCW.out)
  have HQ1 := hid (show w1.heap[g]? = some (.cells ((cur).setIfInBounds (o) (.string (fTx l most i).2.2)) T (0, 0)) by rw [hw]; exact q_set (w := w.drewN 1) HQ0.out hqb.1 (o) _)
  have HR1 := hid (show RD w1 rb b off cap l (fTx l most i).2.1 most by rw [hw]; exact (HR0.out.drewN 1).put q1 _ ⟨g, o, none⟩ _ hle hqb.1 hqb.2)
  have HF1 := hid (HF0.out.trans (andR_ok (show (fTx l most i).1 = 0 from he)))
  obtain ⟨i1, hi⟩ : ∃ x, (fTx l most i).2.1 = x := ⟨_, rfl⟩
  obtain ⟨a1, ha⟩ : ∃ x, (fTx l most i).2.2 = x := ⟨_, rfl⟩
  rw [hi, ha] at HF1
  rw [hi] at HR1
  rw [ha] at HQ1
  clear hi ha hw he HC HT0 HQ0 HR0 HF0 HCB0 hna hme hle hcbk hTk
  go_wp2_with fail
  refine wpAny_done (by kernel_rfl) ?_ _
  have hcell : w1.cell? ⟨g, o + 1, none⟩ = some (.int .i64 n0) := by
    rw [cell_of_row _ _ _ _ _ _ HQ1.out]
    show ((cur).setIfInBounds (o) (.string a1))[o + 1]? = _; rw [Array.getElem?_setIfInBounds_ne (by omega)]; exact HK1.out
  have HC := hid (fun q => dwhole_any ⟨g, o + 1, none⟩ n0 (w1.drewN q) (HR1.out.drewN q) hcp (by show w1.cell? _ = _; exact hcell) (by show w1.frozen? _ = _; simp [World.frozen?, HQ1.out]) hqb.1)
  have hle := at_le HR1.out.at' ((show (rd (l.drop i1) 0 0).2.1 ≤ _ by have := rd_le (l.drop i1) 0 0; omega))
  have hna := nr_whole rb
  have hme := mr_whole
  have hcbk := HCB1.out
  clear hcell
  go_wp2_with fail
  refine wp_region_any (by kernel_rfl) ?_
  try (change wpAny _ _ _ _ _ _ _ (World.drew _))
  refine wpAny_take (i := 1) (v := .pointer (some ⟨g, o, none⟩)) rfl (by kernel_rfl) (by kernel_rfl) (by kernel_rfl) (fun _ _ _ h => h) (Or.inl ⟨by rfl, by intro w; go_simp⟩) ?_
  refine wpAny_take (i := 2) (v := .pointer (some ⟨g, o, none⟩)) rfl (by kernel_rfl) (by kernel_rfl) (by kernel_rfl) (fun _ _ _ h => h) (Or.inl ⟨by rfl, by intro w; go_simp⟩) ?_
  refine wpAny_take (i := 3) (v := .pointer (some ⟨g, o + 1, none⟩)) rfl (by kernel_rfl) (by kernel_rfl) (by kernel_rfl) (fun _ _ _ h => h) (Or.inl ⟨by rfl, by intro w; go_simp⟩) ?_
  refine wpAny_ready (rs := [0]) (by kernel_rfl) (by simp) ?_
  refine AllReady.cons rfl (fun K hK => ?_) AllReady.nil
  go_simp
  refine hK _ _ ?_
  clear hK K
  refine wpAny_ready (rs := [4]) (by kernel_rfl) (by simp) ?_
  refine AllReady.cons rfl (fun K hK => ?_) AllReady.nil
  go_simp
  refine hK _ _ ?_
  clear hK K
  refine wpAny_take (i := 5) (v := .func (.method "larder/codec.whole") #[ir rb] #[]) rfl (by kernel_rfl) (by kernel_rfl) (by kernel_rfl) (fun _ _ _ h => h) (Or.inl ⟨by rfl, by intro w; go_simp⟩) ?_
  refine wpAny_take (i := 6) (v := ir rb) rfl (by kernel_rfl) (by kernel_rfl) (by kernel_rfl) (fun _ _ _ h => h) (Or.inl ⟨by rfl, by intro w; go_simp⟩) ?_
  refine wpAny_ready (rs := [7]) (by kernel_rfl) (by simp) ?_
  refine AllReady.cons rfl (fun K hK => ?_) AllReady.nil
  go_simp
  go_wp2_with fail
  refine (HC.out _).mono ?_
  rintro e w2 ⟨q2, ⟨he, rfl, hw⟩ | ⟨he, rfl, hw⟩⟩
  rotate_left
  · have HF := hid (show DlV rb b off cap l i most g o cur T w (flt ((fIn l i1).1 : Int) ((fIn l i1).2.1 : Int)) w2 by
      unfold DlV
      rw [HF1.out, andR_no (show (fIn l i1).1 ≠ 0 from he)]
      exact ⟨HT1.out.trans ((Tb.drewN rb g w1 1).trans (by rw [hw]; exact Tb.drewN _ _ _ _)), .inr ⟨he, rfl⟩⟩)
    clear hw
    go_wp2_with fail
    exact ⟨rfl, HF.out⟩
  have hTk : Tb rb g w1 w2 := (Tb.drewN rb g w1 1).trans (show Tb rb g (w1.drewN 1) w2 by rw [hw]; exact Tb.put _ q2 ⟨g, o + 1, none⟩ _ _ rfl)
  have HT2 := hid (HT1.out.trans hTk)
  have HCB2 := hid (cb_keep hTk HCB1.out HCW.out)
  have HQ2 := hid (show w2.heap[g]? = some (.cells (((cur).setIfInBounds (o) (.string a1)).setIfInBounds (o + 1) (.int .i64 (fIn l i1).2.2)) T (0, 0)) by rw [hw]; exact q_set (w := w1.drewN 1) HQ1.out hqb.1 (o + 1) _)
  have HR2 := hid (show RD w2 rb b off cap l (fIn l i1).2.1 most by rw [hw]; exact (HR1.out.drewN 1).put q2 _ ⟨g, o + 1, none⟩ _ hle hqb.1 hqb.2)
  have HF2 := hid (HF1.out.trans (andR_ok (show (fIn l i1).1 = 0 from he)))
  obtain ⟨i2, hi⟩ : ∃ x, (fIn l i1).2.1 = x := ⟨_, rfl⟩
  obtain ⟨a2, ha⟩ : ∃ x, (fIn l i1).2.2 = x := ⟨_, rfl⟩
  rw [hi, ha] at HF2
  rw [hi] at HR2
  rw [ha] at HQ2
  clear hi ha hw he HC HT1 HQ1 HR1 HF1 HCB1 hna hme hle hcbk hTk
  go_wp2_with fail
  refine wpAny_done (by kernel_rfl) ?_ _
  have hcell : w2.cell? ⟨g, o + 2, none⟩ = some (.int .i64 m0) := by
    rw [cell_of_row _ _ _ _ _ _ HQ2.out]
    show (((cur).setIfInBounds (o) (.string a1)).setIfInBounds (o + 1) (.int .i64 a2))[o + 2]? = _; rw [Array.getElem?_setIfInBounds_ne (by omega)]; rw [Array.getElem?_setIfInBounds_ne (by omega)]; exact HK2.out
  have HC := hid (fun q => dwhole_any ⟨g, o + 2, none⟩ m0 (w2.drewN q) (HR2.out.drewN q) hcp (by show w2.cell? _ = _; exact hcell) (by show w2.frozen? _ = _; simp [World.frozen?, HQ2.out]) hqb.1)
  have hle := at_le HR2.out.at' ((show (rd (l.drop i2) 0 0).2.1 ≤ _ by have := rd_le (l.drop i2) 0 0; omega))
  have hna := nr_whole rb
  have hme := mr_whole
  have hcbk := HCB2.out
  clear hcell
  go_wp2_with fail
  refine wp_region_any (by kernel_rfl) ?_
  try (change wpAny _ _ _ _ _ _ _ (World.drew _))
  refine wpAny_take (i := 1) (v := .pointer (some ⟨g, o, none⟩)) rfl (by kernel_rfl) (by kernel_rfl) (by kernel_rfl) (fun _ _ _ h => h) (Or.inl ⟨by rfl, by intro w; go_simp⟩) ?_
  refine wpAny_take (i := 2) (v := .pointer (some ⟨g, o, none⟩)) rfl (by kernel_rfl) (by kernel_rfl) (by kernel_rfl) (fun _ _ _ h => h) (Or.inl ⟨by rfl, by intro w; go_simp⟩) ?_
  refine wpAny_take (i := 3) (v := .pointer (some ⟨g, o + 2, none⟩)) rfl (by kernel_rfl) (by kernel_rfl) (by kernel_rfl) (fun _ _ _ h => h) (Or.inl ⟨by rfl, by intro w; go_simp⟩) ?_
  refine wpAny_ready (rs := [0]) (by kernel_rfl) (by simp) ?_
  refine AllReady.cons rfl (fun K hK => ?_) AllReady.nil
  go_simp
  refine hK _ _ ?_
  clear hK K
  refine wpAny_ready (rs := [4]) (by kernel_rfl) (by simp) ?_
  refine AllReady.cons rfl (fun K hK => ?_) AllReady.nil
  go_simp
  refine hK _ _ ?_
  clear hK K
  refine wpAny_take (i := 5) (v := .func (.method "larder/codec.whole") #[ir rb] #[]) rfl (by kernel_rfl) (by kernel_rfl) (by kernel_rfl) (fun _ _ _ h => h) (Or.inl ⟨by rfl, by intro w; go_simp⟩) ?_
  refine wpAny_take (i := 6) (v := ir rb) rfl (by kernel_rfl) (by kernel_rfl) (by kernel_rfl) (fun _ _ _ h => h) (Or.inl ⟨by rfl, by intro w; go_simp⟩) ?_
  refine wpAny_ready (rs := [7]) (by kernel_rfl) (by simp) ?_
  refine AllReady.cons rfl (fun K hK => ?_) AllReady.nil
  go_simp
  go_wp2_with fail
  refine (HC.out _).mono ?_
  rintro e w3 ⟨q3, ⟨he, rfl, hw⟩ | ⟨he, rfl, hw⟩⟩
  rotate_left
  · have HF := hid (show DlV rb b off cap l i most g o cur T w (flt ((fIn l i2).1 : Int) ((fIn l i2).2.1 : Int)) w3 by
      unfold DlV
      rw [HF2.out, andR_no (show (fIn l i2).1 ≠ 0 from he)]
      exact ⟨HT2.out.trans ((Tb.drewN rb g w2 1).trans (by rw [hw]; exact Tb.drewN _ _ _ _)), .inr ⟨he, rfl⟩⟩)
    clear hw
    go_wp2_with fail
    exact ⟨rfl, HF.out⟩
  have hTk : Tb rb g w2 w3 := (Tb.drewN rb g w2 1).trans (show Tb rb g (w2.drewN 1) w3 by rw [hw]; exact Tb.put _ q3 ⟨g, o + 2, none⟩ _ _ rfl)
  have HT3 := hid (HT2.out.trans hTk)
  have HCB3 := hid (cb_keep hTk HCB2.out HCW.out)
  have HQ3 := hid (show w3.heap[g]? = some (.cells ((((cur).setIfInBounds (o) (.string a1)).setIfInBounds (o + 1) (.int .i64 a2)).setIfInBounds (o + 2) (.int .i64 (fIn l i2).2.2)) T (0, 0)) by rw [hw]; exact q_set (w := w2.drewN 1) HQ2.out hqb.1 (o + 2) _)
  have HR3 := hid (show RD w3 rb b off cap l (fIn l i2).2.1 most by rw [hw]; exact (HR2.out.drewN 1).put q3 _ ⟨g, o + 2, none⟩ _ hle hqb.1 hqb.2)
  have HF3 := hid (HF2.out.trans (andR_ok (show (fIn l i2).1 = 0 from he)))
  obtain ⟨i3, hi⟩ : ∃ x, (fIn l i2).2.1 = x := ⟨_, rfl⟩
  obtain ⟨a3, ha⟩ : ∃ x, (fIn l i2).2.2 = x := ⟨_, rfl⟩
  rw [hi, ha] at HF3
  rw [hi] at HR3
  rw [ha] at HQ3
  clear hi ha hw he HC HT2 HQ2 HR2 HF2 HCB2 hna hme hle hcbk hTk
  go_wp2_with fail
  refine wpAny_done (by kernel_rfl) ?_ _
  have HF := hid (show DlV rb b off cap l i most g o cur T w (.returned (.tuple #[])) w3 by
    unfold DlV
    rw [HF3.out]
    exact ⟨HT3.out, .inl ⟨rfl, rfl, HR3.out, HQ3.out⟩⟩)
  go_wp2_with fail
  go_end0
  exact HF.out
/-- levels as cells -/
def vc (L : List Lv) : List Value := L.flatMap fun x => [.string x.1, .int .i64 x.2.1, .int .i64 x.2.2]
theorem vc_len (L : List Lv) : (vc L).length = L.length * 3 := by
  induction L with
  | nil => rfl
  | cons x t ih =>
    have e : vc (x :: t) = [.string x.1, .int .i64 x.2.1, .int .i64 x.2.2] ++ vc t := rfl
    rw [e, List.length_append, ih, List.length_cons]
    show 3 + t.length * 3 = (t.length + 1) * 3
    omega
theorem vc_app (L M : List Lv) : vc (L ++ M) = vc L ++ vc M := by simp [vc]
theorem vc_one (L : List Lv) : ∀ u ∈ vc L, u.oneCell' = true := by
  intro u hu
  obtain ⟨x, _, hx⟩ := List.mem_flatMap.1 hu
  simp at hx
  rcases hx with rfl | rfl | rfl <;> rfl
theorem lvinfo : (Try.prog.info? 77).map (fun i => (i.zero, i.size, i.bytes)) = some (some (.agg #[.string ⟨#[]⟩, .int .i64 0, .int .i64 0]), 3, 32) := by kernel_rfl
/-- levels in a row of the call's own -/
def OLv (w : World) (base : Nat) (v : Value) (L : List Lv) : Prop := w.ownsRow base 77 3 v L.length (vc L)
/-- the first j levels from place i on -/
def fVs (l : List UInt8) (most i : Nat) : Nat → Nat × Nat × List Lv
  | 0 => (0, i, [])
  | j + 1 =>
    if (fVs l most i j).1 ≠ 0 then ((fVs l most i j).1, (fVs l most i j).2.1, [])
    else if (fLv l most (fVs l most i j).2.1).1 ≠ 0 then ((fLv l most (fVs l most i j).2.1).1, (fLv l most (fVs l most i j).2.1).2.1, [])
    else (0, (fLv l most (fVs l most i j).2.1).2.1, (fVs l most i j).2.2 ++ [(fLv l most (fVs l most i j).2.1).2.2])
theorem fVs_stuck (l : List UInt8) (most i j : Nat) (h : (fVs l most i j).1 ≠ 0) : ∀ k, j ≤ k → (fVs l most i k).1 = (fVs l most i j).1 ∧ (fVs l most i k).2.1 = (fVs l most i j).2.1 := by
  intro k hk
  induction hk with
  | refl => exact ⟨rfl, rfl⟩
  | step _ ih =>
    rename_i k _
    have e : fVs l most i (k + 1) = ((fVs l most i k).1, (fVs l most i k).2.1, []) := if_pos (by rw [ih.1]; exact h)
    rw [Nat.succ_eq_add_one, e]
    exact ih
/-- a list of lines from place i on -/
def fVi (l : List UInt8) (most i : Nat) : Nat × Nat × List Lv :=
  if (ct (l.drop i) most).2.2 ≠ 0 then ((ct (l.drop i) most).2.2, i + (ct (l.drop i) most).2.1, []) else fVs l most (i + (ct (l.drop i) most).2.1) (ct (l.drop i) most).1
theorem step_appV {ops : Array Oper} {o : Oper} {a : Act} {w : World} {K : Act → World → Prop} {Q : Exit → Act → World → Prop} {E : Prop} (hg : o.guard = none) (s x : Operand) (hop : o.op = Op.call { callee := Callee.builtin Builtin.append, args := #[s, x], argTypes := #[26, 26] }) (hty : o.type = 26)
    {v xv v' : Value} {w' : World} (hs : a.eval s = v) (hx : a.eval x = xv) (hrun : (Builtin.append_ #[26, 26] 26 #[v, xv]).run Try.prog w = .ok v' w') (hK : K (a.put o.dst v') w') :
    if Region.wanted o (yielded ops a.tmps) = true then Oper.wp Try.prog o a w K Q else E := by
  rw [if_pos (show Region.wanted o (yielded ops a.tmps) = true by simp [Region.wanted, hg])]
  unfold Oper.wp
  simp [execOp, hop, hty, resolve, invoke, builtin, hs, hx, hrun, Result.andThen]
  exact hK
theorem fVs_len (l : List UInt8) (most i : Nat) : ∀ j, (fVs l most i j).1 = 0 → (fVs l most i j).2.2.length = j
  | 0, _ => rfl
  | j + 1, h => by
    unfold fVs at h ⊢
    split at h
    · rename_i hc; exact (hc h).elim
    · rename_i hc
      split at h
      · rename_i hd; exact (hd h).elim
      · rename_i hd
        rw [if_neg hc, if_neg hd]
        have := fVs_len l most i j (by simpa using hc)
        simp [this]
/-- behind a list of lines that is read into the cell po of block qb -/
def DeV (rb b off cap : Nat) (l : List UInt8) (i most qb po : Nat) (row : Array Value) (T : TypeId) (w : World) (e : Ending) (w' : World) : Prop :=
  Tb rb qb w w' ∧ (((fVi l most i).1 = 0 ∧ e = .returned (.tuple #[]) ∧ RD w' rb b off cap l (fVi l most i).2.1 most ∧ ∃ v', w'.heap[qb]? = some (.cells (row.setIfInBounds po v') T (0, 0)) ∧ OLv w' w.heap.size v' (fVi l most i).2.2)
  ∨ ((fVi l most i).1 ≠ 0 ∧ e = flt ((fVi l most i).1 : Int) ((fVi l most i).2.1 : Int) ∧ ∃ ao n c, w'.heap[qb]? = some (.cells (row.setIfInBounds po (.slice ao n c)) T (0, 0))))
theorem dlv_ok {rb qb g po j i0 most cap2 : Nat} {w W w' : World} {l : List UInt8} {row cur : Array Value} {T : TypeId} {v2 : Value} (hT : Tb rb qb w W) (hQ : W.heap[qb]? = some (.cells (row.setIfInBounds po v2) T (0, 0))) (k : Tb rb g W w')
    (hz : (fVs l most i0 j).1 = 0) (hz4 : (fLv l most (fVs l most i0 j).2.1).1 = 0)
    (hw : w'.heap[g]? = some (.cells (lvRow cur (j * 3) (fLv l most (fVs l most i0 j).2.1).2.2) 77 (0, 0)))
    (hlen : (fVs l most i0 j).2.2.length = j) (hS : j + 1 ≤ cap2 ∧ cap2 ≤ maxLen ∧ cur.size = cap2 * 3 ∧ w.heap.size ≤ g ∧ cur.toList.take ((j + 1) * 3) = vc (fVs l most i0 j).2.2 ++ [.string ⟨#[]⟩, .int .i64 0, .int .i64 0]) (hq : qb ≠ rb ∧ qb < w.heap.size) :
    (fVs l most i0 (j + 1)).1 = 0 ∧ (fVs l most i0 (j + 1)).2.1 = (fLv l most (fVs l most i0 j).2.1).2.1 ∧ Tb rb qb w w' ∧ w'.heap[qb]? = some (.cells (row.setIfInBounds po v2) T (0, 0)) ∧ OLv w' w.heap.size (.slice (some ⟨g, 0, none⟩) (j + 1) cap2) (fVs l most i0 (j + 1)).2.2 := by
  obtain ⟨h1, h2, h3, h4, h5⟩ := hS
  have e1 : fVs l most i0 (j + 1) = (0, (fLv l most (fVs l most i0 j).2.1).2.1, (fVs l most i0 j).2.2 ++ [(fLv l most (fVs l most i0 j).2.1).2.2]) := (if_neg (fun e => e hz)).trans (if_neg (fun e => e hz4))
  rw [e1]
  refine ⟨rfl, rfl, tb_two hT k h4, ?_, ?_⟩
  · refine (k.block qb ?_ hq.1 (by omega)).trans hQ
    have := hT.size
    omega
  · generalize (fLv l most (fVs l most i0 j).2.1).2.2 = x at *
    generalize (fVs l most i0 j).2.2 = L at *
    have hll : (L ++ [x]).length = j + 1 := by simp [hlen]
    unfold OLv
    show w'.ownsRow w.heap.size _ 3 _ (L ++ [x]).length (vc (L ++ [x]))
    rw [hll]
    refine ⟨by rw [vc_len, hll], .inr ⟨g, cap2, _, rfl, h4, hw, h1, h2, by simp [lvRow, h3], ?_⟩⟩
    have ll : (vc L).length = j * 3 := by rw [vc_len, hlen]
    unfold lvRow
    rw [Array.toList_setIfInBounds, Array.toList_setIfInBounds, Array.toList_setIfInBounds, List.take_set, List.take_set, List.take_set, h5, vc_app, List.set_append_right _ _ (by omega), ll, Nat.sub_self, List.set_append_right _ _ (by omega), ll, show j * 3 + 1 - j * 3 = 1 by omega, List.set_append_right _ _ (by omega), ll, show j * 3 + 2 - j * 3 = 2 by omega]
    rfl
set_option maxHeartbeats 2000000 in
theorem dlvlist_any (cb qb po : Nat) (row : Array Value) (T : TypeId) (w : World) {rb b off cap i most : Nat} {l : List UInt8} (h : RD w rb b off cap l i most) (hcp : l.length ≤ 100000000000000) (hm : most ≤ 1000000000)
    (hcb : w.cell? ⟨cb, 0, none⟩ = some (ir rb)) (hcw : cb ≠ rb ∧ cb ≠ qb) (hq : w.heap[qb]? = some (.cells row T (0, 0))) (hrow : row[po]? = some (.slice none 0 0)) (hqb : qb ≠ rb ∧ qb ≠ b) (hbw : b < w.heap.size) :
    Calls Try.prog 91 #[ir rb, .pointer (some ⟨qb, po, none⟩), .func (.func 92) #[] #[.pointer (some ⟨cb, 0, none⟩)]] w fun e w' => DeV rb b off cap l i most qb po row T w e w' := by
  have hmf : ∀ (fn : Fn) (first cap : Array Value) (w : World), (Instr.makeFunc fn first cap).run Try.prog w = .ok (.func fn first cap) w := fun _ _ _ _ => rfl
  have HC := hid (fun q => dcount_any 0 (w.drewN q) (h.drewN q) hcp hm)
  have hle := at_le h.at' (ct_le (l.drop i) most)
  have hp : w.cell? ⟨qb, po, none⟩ = some (.slice none 0 0) := by rw [cell_of_row w qb po _ _ _ hq]; exact hrow
  have H := hid h
  have HCB := hid hcb
  have HCW := hid hcw
  have HQ := hid hq
  have HQB := hid hqb
  have hna := nr_count rb
  have hme := mr_count
  clear h hcw hcb hq hqb
  go_enter Try.func91, Try.ntmps91
  go_wp2_with fail
  refine wp_region_any (by kernel_rfl) ?_
  try (change wpAny _ _ _ _ _ _ _ (World.drew _))
  refine wpAny_take (i := 0) (v := ir rb) rfl (by kernel_rfl) (by kernel_rfl) (by kernel_rfl) (fun _ _ _ h => h) (Or.inl ⟨by rfl, by intro w; go_simp⟩) ?_
  refine wpAny_take (i := 1) (v := .pointer (some ⟨qb, po, none⟩)) rfl (by kernel_rfl) (by kernel_rfl) (by kernel_rfl) (fun _ _ _ h => h) (Or.inl ⟨by rfl, by intro w; go_simp⟩) ?_
  refine wpAny_take (i := 2) (v := .pointer (some ⟨qb, po, none⟩)) rfl (by kernel_rfl) (by kernel_rfl) (by kernel_rfl) (fun _ _ _ h => h) (Or.inl ⟨by rfl, by intro w; go_simp⟩) ?_
  refine wpAny_take (i := 9) (v := .int .i64 0) rfl (by kernel_rfl) (by kernel_rfl) (by kernel_rfl) (fun _ _ _ h => h) (Or.inl ⟨by rfl, by intro w; go_simp⟩) ?_
  refine wpAny_take (i := 5) (v := .func (.method "larder/codec.count") #[ir rb] #[]) rfl (by kernel_rfl) (by kernel_rfl) (by kernel_rfl) (fun _ _ _ h => h) (Or.inl ⟨by rfl, by intro w; go_simp⟩) ?_
  refine wpAny_take (i := 6) (v := .func (.method "larder/codec.count") #[ir rb] #[]) rfl (by kernel_rfl) (by kernel_rfl) (by kernel_rfl) (fun _ _ _ h => h) (Or.inl ⟨by rfl, by intro w; go_simp⟩) ?_
  refine wpAny_take (i := 7) (v := ir rb) rfl (by kernel_rfl) (by kernel_rfl) (by kernel_rfl) (fun _ _ _ h => h) (Or.inl ⟨by rfl, by intro w; go_simp⟩) ?_
  refine wpAny_ready (rs := [3]) (by kernel_rfl) (by simp) ?_
  refine AllReady.cons rfl (fun K hK => ?_) AllReady.nil
  go_simp
  refine hK _ _ ?_
  clear hK K
  refine wpAny_take (i := 4) (v := .int .i64 0) rfl (by kernel_rfl) (by kernel_rfl) (by kernel_rfl) (fun _ _ _ h => h) (Or.inl ⟨by rfl, by intro w; go_simp⟩) ?_
  refine wpAny_ready (rs := [8]) (by kernel_rfl) (by simp) ?_
  refine AllReady.cons rfl (fun K hK => ?_) AllReady.nil
  go_simp
  go_wp2_with fail
  refine (HC.out _).mono ?_
  rintro e w2 ⟨q, ⟨he, rfl, hw2⟩ | ⟨he, rfl, hw2⟩⟩
  · have HTb2 := hid (show Tb rb qb w w2 from (Tb.drewN rb qb w 1).trans (by rw [hw2]; exact (Tb.drewN rb qb _ q).trans (Tb.set _ ⟨rb, 1, none⟩ _ (.inl rfl))))
    have HR2 := hid (show RD w2 rb b off cap l (i + (ct (l.drop i) most).2.1) most from by
      rw [hw2]
      refine ⟨heap_setCell_same _ rb 1 _ _ _ H.out.top, H.out.room, hle, H.out.ne, fun j hj => ?_⟩
      rw [World.cell?_setCell_other _ _ _ _ (fun e => H.out.ne (by injection e with e; exact e.symm))]
      exact H.out.bytes j hj)
    have HQ2 := hid (show w2.heap[qb]? = some (.cells row T (0, 0)) from by
      rw [hw2, heap_setCell_other _ ⟨rb, 1, none⟩ qb _ HQB.out.1]
      exact HQ.out)
    have HFi := hid (show fVi l most i = fVs l most (i + (ct (l.drop i) most).2.1) (ct (l.drop i) most).1 from if_neg (fun e => e he))
    have hcn : (ct (l.drop i) most).1 ≤ most := by
      have he2 := he
      unfold ct at he2 ⊢
      split at he2
      · cases he2
      · rename_i hc; rw [if_neg hc]; omega
    have HRo := hid hrow
    have HE := hid he
    clear he hw2 HC hp hrow
    obtain ⟨i0, hi0⟩ : ∃ i0, i + (ct (l.drop i) most).2.1 = i0 := ⟨_, rfl⟩
    obtain ⟨n, hn⟩ : ∃ n, (ct (l.drop i) most).1 = n := ⟨_, rfl⟩
    rw [hi0] at HR2 hle
    rw [hi0, hn] at HFi
    rw [hn] at hcn
    rw [hn]
    clear hi0 hn
    go_wp2_with fail
    refine wpAny_done (by kernel_rfl) ?_ _
    go_wp2_with fail
    go_loopw [6, 7, 17] (fun _ _ vi wx => ∃ (j : Nat) (v' : Value), j ≤ n ∧ vi = .int .i64 (j : Int) ∧ (fVs l most i0 j).1 = 0 ∧ RD wx rb b off cap l (fVs l most i0 j).2.1 most ∧ Tb rb qb w wx ∧ wx.heap[qb]? = some (.cells (row.setIfInBounds po v') T (0, 0)) ∧ OLv wx w.heap.size v' (fVs l most i0 j).2.2) (fun _ _ vi _ => n - (intOf vi).toNat)
    case atStart => exact ⟨0, .slice none 0 0, Nat.zero_le _, rfl, rfl, HR2.out, HTb2.out, by rw [set_self HRo.out]; exact HQ2.out, World.ownsRow_nil _ _ _ _⟩
    case round =>
      obtain ⟨j, v', hj, rfl, hz, hR, hTb, hQ, hO⟩ := hrel
      by_cases hlt : j < n
      · have hI : (j : Int) < (n : Int) := by omega
        have hIb : ((j : Int) == (j : Int)) = true := by simp
        have hlen := fVs_len l most i0 j hz
        obtain ⟨aoj, capj, hv'⟩ : ∃ ao c, v' = .slice ao j c := by
          rcases hO.2 with ⟨rfl, h0⟩ | ⟨g, c, cur, rfl, _⟩
          · exact ⟨none, 0, by rw [← hlen, h0]⟩
          · exact ⟨_, c, by rw [hlen]⟩
        subst hv'
        have hpo : po < row.size := (Array.getElem?_eq_some_iff.1 HRo.out).1
        have cq : wr.cell? ⟨qb, po, none⟩ = some (.slice aoj j capj) := by
          rw [cell_of_row wr qb po _ _ _ hQ, Array.getElem?_setIfInBounds, if_pos rfl, if_pos hpo]
        obtain ⟨W1, hW1⟩ : ∃ W1, wr.alloc (.cells #[.string ⟨#[]⟩, .int .i64 0, .int .i64 0] 77) = W1 := ⟨_, rfl⟩
        obtain ⟨WA, hWA⟩ : ∃ WA, W1.drew.alloc (.cells #[.string ⟨#[]⟩, .int .i64 0, .int .i64 0] 77) = WA := ⟨_, rfl⟩
        have z1 : W1.heap.size = wr.heap.size + 1 := by rw [← hW1, World.size_alloc]
        have hb1 : Below wr.heap.size wr W1 := by rw [← hW1]; exact (Below.refl _ _).alloc (Nat.le_refl _) _
        have hbA : Below wr.heap.size wr WA := by
          have : Below W1.drew.heap.size W1.drew WA := by rw [← hWA]; exact (Below.refl _ _).alloc (Nat.le_refl _) _
          exact hb1.drew.trans (this.mono (by show wr.heap.size ≤ W1.heap.size; omega))
        have zA : WA.heap.size = wr.heap.size + 2 := by rw [← hWA, World.size_alloc]; show W1.heap.size + 1 = _; omega
        have hOA : WA.ownsRow w.heap.size 77 3 (.slice aoj j capj) j (vc (fVs l most i0 j).2.2) := by
          have h1 := World.ownsRow.kept hO (show wr.grownBy WA none from ⟨hbA.os, hbA.tape, hbA.output, hbA.size, fun k hk _ => hbA.block k hk⟩) (by cases (Value.slice aoj j capj).ownBlock <;> simp)
          rw [hlen] at h1
          exact h1
        have cq1 : W1.drew.cell? ⟨qb, po, none⟩ = some (.slice aoj j capj) := below_cells hb1 _ _ cq
        have cqW : WA.cell? ⟨qb, po, none⟩ = some (.slice aoj j capj) := below_cells hbA _ _ cq
        have hzl : W1.heap[wr.heap.size]? = some (.cells #[.string ⟨#[]⟩, .int .i64 0, .int .i64 0] 77 (0, 0)) := by rw [← hW1]; exact heap_alloc_new wr _
        have cz0 : W1.drew.cell? ⟨wr.heap.size, 0, none⟩ = some (.string ⟨#[]⟩) := by show W1.cell? _ = _; rw [cell_of_row _ _ _ _ _ _ hzl]; rfl
        have cz1 : W1.drew.cell? ⟨wr.heap.size, 1, none⟩ = some (.int .i64 0) := by show W1.cell? _ = _; rw [cell_of_row _ _ _ _ _ _ hzl]; rfl
        have cz2 : W1.drew.cell? ⟨wr.heap.size, 2, none⟩ = some (.int .i64 0) := by show W1.cell? _ = _; rw [cell_of_row _ _ _ _ _ _ hzl]; rfl
        obtain ⟨ti, hti, hz0, hz1, hz2⟩ := info_parts lvinfo
        have hsz := hTb.size
        obtain ⟨v2, wA, hap, hown2, hgr, _, hloc⟩ := run_append_own_at (P := Try.prog) WA w.heap.size 26 26 77 ti (.agg #[.string ⟨#[]⟩, .int .i64 0, .int .i64 0]) 3 32 Try.underlying26 hti hz0 hz1 hz2 rfl (by decide) _ j _ hOA ⟨W1.heap.size, 0, none⟩ 1 1 [.string ⟨#[]⟩, .int .i64 0, .int .i64 0] rfl (fun k u hk => by
          rw [← hWA]
          have hn : (W1.drew.alloc (.cells #[.string ⟨#[]⟩, .int .i64 0, .int .i64 0] 77)).heap[W1.heap.size]? = some (.cells #[.string ⟨#[]⟩, .int .i64 0, .int .i64 0] 77 (0, 0)) := heap_alloc_new W1.drew _
          rw [Addr.add_lit, Nat.zero_add, cell_of_row _ _ _ _ _ _ hn]
          simpa using hk) (by intro u hu; simp at hu; rcases hu with rfl | rfl | rfl <;> rfl) (by unfold maxLen; omega) (by omega) (by omega)
        rw [z1] at hap
        have HAP := hid hap
        clear hap
        have hqlt : qb < w.heap.size := (Array.getElem?_eq_some_iff.1 HQ.out).1
        have hqA : wA.heap[qb]? = some (.cells (row.setIfInBounds po (.slice aoj j capj)) T (0, 0)) := by
          refine (hgr.block qb (by omega) (fun e => ?_)).trans ((hbA.block qb (by omega)).trans hQ)
          have := (World.ownsRow.lt hO qb e.symm).1
          omega
        have cqA : wA.cell? ⟨qb, po, none⟩ = some (.slice aoj j capj) := by
          rw [cell_of_row wA qb po _ _ _ hqA, Array.getElem?_setIfInBounds, if_pos rfl, if_pos hpo]
        have fqA : wA.frozen? ⟨qb, po, none⟩ = false := by simp [World.frozen?, hqA]
        obtain ⟨g2, cap2, cur2, hv2, hg2, hh2, hc2, hm2, hs2, ht2⟩ : ∃ g cap cur, v2 = .slice (some ⟨g, 0, none⟩) (j + 1) cap ∧ w.heap.size ≤ g ∧ wA.heap[g]? = some (.cells cur 77 (0, 0)) ∧ j + 1 ≤ cap ∧ cap ≤ maxLen ∧ cur.size = cap * 3 ∧ cur.toList.take ((j + 1) * 3) = vc (fVs l most i0 j).2.2 ++ [.string ⟨#[]⟩, .int .i64 0, .int .i64 0] := by
          rcases hown2.2 with ⟨_, h0⟩ | h2
          · omega
          · exact h2
        subst hv2
        obtain ⟨W3, hW3⟩ : ∃ W3, wA.setCell ⟨qb, po, none⟩ (.slice (some ⟨g2, 0, none⟩) (j + 1) cap2) = W3 := ⟨_, rfl⟩
        have hown_ge : ∀ k, (Value.slice aoj j capj).ownBlock = some k → w.heap.size ≤ k := fun k e => (World.ownsRow.lt hO k e).1
        have hrlt : rb < w.heap.size := (Array.getElem?_eq_some_iff.1 H.out.top).1
        have hclt : cb < w.heap.size := World.block_lt_of_cell? _ _ HCB.out
        have h3 : ∀ k, k < w.heap.size → k ≠ qb → W3.heap[k]? = wr.heap[k]? := fun k hk h1 => by
          rw [← hW3, heap_setCell_other wA ⟨qb, po, none⟩ k _ h1]
          refine (hgr.block k (by omega) (fun e => ?_)).trans (hbA.block k (by omega))
          have := hown_ge k e.symm
          omega
        have hT3 : Tb rb qb w W3 := by
          refine ⟨?_, ?_, ?_, ?_, fun k hk h1 h2 => (h3 k hk h2).trans (hTb.block k hk h1 h2)⟩
          · rw [← hW3]; exact hgr.os.trans (hbA.os.trans hTb.os)
          · rw [← hW3]; exact hgr.tape.trans (hbA.tape.trans hTb.tape)
          · rw [← hW3]; exact hgr.output.trans (hbA.output.trans hTb.output)
          · rw [← hW3, World.size_setCell]; have := hgr.size; omega
        have hR3 : RD W3 rb b off cap l (fVs l most i0 j).2.1 most := by
          refine ⟨(h3 rb hrlt (fun e => HQB.out.1 e.symm)).trans hR.top, hR.room, hR.at', hR.ne, fun k hk => ?_⟩
          have hb0 := World.block_lt_of_cell? _ _ (H.out.bytes k hk)
          have := h3 b hb0 (fun e => HQB.out.2 e.symm)
          have hc := hR.bytes k hk
          simp only [World.cell?] at hc ⊢
          rw [this]
          exact hc
        have hcb3 : W3.cell? ⟨cb, 0, none⟩ = some (ir rb) := by
          have e1 := hT3.block cb hclt HCW.out.1 HCW.out.2
          have hc := HCB.out
          simp only [World.cell?] at hc ⊢
          rw [e1]
          exact hc
        have hrw3 : W3.heap[g2]? = some (.cells cur2 77 (0, 0)) := by
          rw [← hW3, heap_setCell_other wA ⟨qb, po, none⟩ g2 _ (by show g2 ≠ qb; omega)]
          exact hh2
        have hq3 : W3.heap[qb]? = some (.cells (row.setIfInBounds po (.slice (some ⟨g2, 0, none⟩) (j + 1) cap2)) T (0, 0)) := by
          rw [← hW3, heap_setCell_same wA qb po _ _ _ hqA]
          simp
        have ll : (vc (fVs l most i0 j).2.2).length = j * 3 := by rw [vc_len, hlen]
        have k0 : cur2[j * 3]? = some (.string ⟨#[]⟩) := by
          have : (cur2.toList.take ((j + 1) * 3))[j * 3]? = some (.string ⟨#[]⟩) := by rw [ht2, List.getElem?_append_right (by omega), ll, Nat.sub_self]; rfl
          rw [List.getElem?_take, if_pos (by omega)] at this
          rw [← Array.getElem?_toList]; exact this
        have k1 : cur2[j * 3 + 1]? = some (.int .i64 0) := by
          have : (cur2.toList.take ((j + 1) * 3))[j * 3 + 1]? = some (.int .i64 0) := by rw [ht2, List.getElem?_append_right (by omega), ll, show j * 3 + 1 - j * 3 = 1 by omega]; rfl
          rw [List.getElem?_take, if_pos (by omega)] at this
          rw [← Array.getElem?_toList]; exact this
        have k2 : cur2[j * 3 + 2]? = some (.int .i64 0) := by
          have : (cur2.toList.take ((j + 1) * 3))[j * 3 + 2]? = some (.int .i64 0) := by rw [ht2, List.getElem?_append_right (by omega), ll, show j * 3 + 2 - j * 3 = 2 by omega]; rfl
          rw [List.getElem?_take, if_pos (by omega)] at this
          rw [← Array.getElem?_toList]; exact this
        have HDl := hid (dlevel_any cb g2 (j * 3) ⟨#[]⟩ 0 0 cur2 77 W3 hR3 hcp hm hcb3 ⟨HCW.out.1, by omega⟩ hrw3 k0 k1 k2 ⟨by omega, by omega⟩)
        have c3 : W3.cell? ⟨qb, po, none⟩ = some (.slice (some ⟨g2, 0, none⟩) (j + 1) cap2) := by
          rw [cell_of_row _ _ _ _ _ _ hq3, Array.getElem?_setIfInBounds, if_pos rfl, if_pos hpo]
        have hIc : (j : Int) < (j : Int) + 1 := by omega
        have HT3 := hid hT3
        have HQ3 := hid hq3
        have HQS := hid (show j + 1 ≤ cap2 ∧ cap2 ≤ maxLen ∧ cur2.size = cap2 * 3 ∧ w.heap.size ≤ g2 ∧ cur2.toList.take ((j + 1) * 3) = vc (fVs l most i0 j).2.2 ++ [.string ⟨#[]⟩, .int .i64 0, .int .i64 0] from ⟨hc2, hm2, hs2, hg2, ht2⟩)
        clear hR hTb hQ hO hT3 hR3 hcb3 hrw3 hq3 k0 k1 k2 ll h3 hown_ge hgr hown2 hh2 hqA hOA hloc ht2
        go_wp2_with fail
        go_region_law (refine step_appV rfl _ _ rfl rfl rfl rfl HAP.out ?_)
        all_goals
          clear HAP
          go_wp2_with fail
          try rw [hW3]
          refine Calls.mono HDl.out ?_
          rintro e w4 ⟨hT4, ⟨hz4, rfl, hR4, hw4⟩ | ⟨hz4, rfl⟩⟩
          · have HFn := hid (dlv_ok HT3.out HQ3.out hT4 hz hz4 hw4 hlen HQS.out ⟨HQB.out.1, hqlt⟩)
            have HR4 := hid hR4
            have HZ4 := hid hz4
            clear hT4 hw4 hR4
            go_wp2_with fail
            go_roundw
            case rel => exact ⟨j + 1, _, by omega, by go_num, HFn.out.1, by rw [HFn.out.2.1]; exact HR4.out, HFn.out.2.2.1, HFn.out.2.2.2.1, HFn.out.2.2.2.2⟩
            case measure => simp [intOf]; omega
          · have HF := hid (show DeV rb b off cap l i most qb po row T w (flt ((fLv l most (fVs l most i0 j).2.1).1 : Int) ((fLv l most (fVs l most i0 j).2.1).2.1 : Int)) w4 by
              unfold DeV
              rw [HFi.out]
              have e1 : fVs l most i0 (j + 1) = ((fLv l most (fVs l most i0 j).2.1).1, (fLv l most (fVs l most i0 j).2.1).2.1, []) := (if_neg (fun e => e hz)).trans (if_pos hz4)
              have e2 := fVs_stuck l most i0 (j + 1) (by rw [e1]; exact hz4) n (by omega)
              rw [e2.1, e2.2, e1]
              exact ⟨tb_two HT3.out hT4 hg2, .inr ⟨hz4, rfl, _, _, _, (hT4.block qb (by have := HT3.out.size; omega) HQB.out.1 (by omega)).trans HQ3.out⟩⟩)
            clear hT4
            go_wp2_with fail
            exact ⟨rfl, HF.out⟩
      · have hI : ¬ (j : Int) < (n : Int) := by omega
        obtain rfl : j = n := by omega
        have HF := hid (show DeV rb b off cap l i most qb po row T w (.returned (.tuple #[])) wr by
          unfold DeV
          rw [HFi.out]
          exact ⟨hTb, .inl ⟨hz, rfl, hR, v', hQ, hO⟩⟩)
        clear hR hTb hQ hO
        go_wp2_with fail
        go_end0
        exact HF.out
  · have HF := hid (show DeV rb b off cap l i most qb po row T w (flt ((ct (l.drop i) most).2.2 : Int) ((i + (ct (l.drop i) most).2.1 : Nat) : Int)) w2 by
      unfold DeV
      rw [show fVi l most i = _ from if_pos he]
      exact ⟨(Tb.drewN rb qb w 1).trans (by rw [hw2]; exact Tb.drewN _ _ _ _), .inr ⟨he, rfl, none, 0, 0, by rw [set_self hrow, hw2]; exact HQ.out⟩⟩)
    clear hw2
    go_wp2_with fail
    exact ⟨rfl, HF.out⟩
theorem DeV.lower {rb b off cap i most qb po : Nat} {l : List UInt8} {row : Array Value} {T : TypeId} {w W w' : World} {e : Ending} (h : DeV rb b off cap l i most qb po row T W e w') (k : Below w.heap.size w W) : DeV rb b off cap l i most qb po row T w e w' := by
  have hs := k.size
  refine ⟨⟨h.1.os.trans k.os, h.1.tape.trans k.tape, h.1.output.trans k.output, Nat.le_trans hs h.1.size, fun j hj h1 h2 => (h.1.block j (by omega) h1 h2).trans (k.block j hj)⟩, h.2.imp ?_ id⟩
  rintro ⟨a, c, d, v', f, g⟩
  refine ⟨a, c, d, v', f, g.1, ?_⟩
  rcases g.2 with g | ⟨x, y, z, g1, g2, g3⟩
  · exact .inl g
  · exact .inr ⟨x, y, z, g1, by omega, g3⟩
set_option maxHeartbeats 1000000 in
theorem dlevels_any (qb po : Nat) (row : Array Value) (T : TypeId) (w : World) {rb b off cap i most : Nat} {l : List UInt8} (h : RD w rb b off cap l i most) (hcp : l.length ≤ 100000000000000) (hm : most ≤ 1000000000)
    (hq : w.heap[qb]? = some (.cells row T (0, 0))) (hrow : row[po]? = some (.slice none 0 0)) (hqb : qb ≠ rb ∧ qb ≠ b) (hbw : b < w.heap.size) :
    Calls Try.prog 73 #[ir rb, .pointer (some ⟨qb, po, none⟩)] w fun e w' => DeV rb b off cap l i most qb po row T w e w' := by
  have hmf : ∀ (fn : Fn) (first cap : Array Value) (w : World), (Instr.makeFunc fn first cap).run Try.prog w = .ok (.func fn first cap) w := fun _ _ _ _ => rfl
  obtain ⟨W, hW⟩ : ∃ W, w.alloc (.cells #[ir rb] 129) = W := ⟨_, rfl⟩
  have hB : Below w.heap.size w W := by rw [← hW]; exact (Below.refl _ _).alloc (Nat.le_refl _) _
  have hcb : W.cell? ⟨w.heap.size, 0, none⟩ = some (ir rb) := by rw [← hW, cell_of_row _ _ _ _ _ _ (heap_alloc_new w _)]; rfl
  have hq1 := (Array.getElem?_eq_some_iff.1 hq).1
  have hr1 := (Array.getElem?_eq_some_iff.1 h.top).1
  have HLi := hid ((dlvlist_any w.heap.size qb po row T W (h.below hB) hcp hm hcb ⟨by omega, by omega⟩ ((hB.block qb hq1).trans hq) hrow hqb (by have := hB.size; omega)).mono fun e w' hh => DeV.lower hh hB)
  clear h hB hq hrow
  go_enter Try.func73, Try.ntmps73
  go_wp2_with fail
  try rw [hW]
  refine Calls.mono HLi.out ?_
  rintro e w2 ⟨ht, ⟨hf, rfl, hr⟩ | ⟨hf, rfl, hq9⟩⟩
  · have HF := hid (show DeV rb b off cap l i most qb po row T w (.returned (.tuple #[])) w2 from ⟨ht, .inl ⟨hf, rfl, hr⟩⟩)
    clear ht hr
    go_wp2_with fail
    go_end0
    exact HF.out
  · have HF := hid (show DeV rb b off cap l i most qb po row T w (flt ((fVi l most i).1 : Int) ((fVi l most i).2.1 : Int)) w2 from ⟨ht, .inr ⟨hf, rfl, hq9⟩⟩)
    clear ht hq9
    go_wp2_with fail
    exact ⟨rfl, HF.out⟩
end Go.Proofs.Ytfhicemfhkhjaab
