/-
  codec: a record with a reader. Laid by mkrc2.py.
-/
import Derived.Test.YtfhicemfhkhjaabCr7
import Derived.Test.YtfhicemfhkhjaabRc1
namespace Go.Proofs.Ytfhicemfhkhjaab
open Go.RowKit
set_option maxRecDepth 100000

/-- a record in memory -/
def rcC (x : Int) (r : Rq) (v : Value) : Array Value := #[.int .i64 x, .string r.id, .int .i64 r.kind, v, .string r.hold, .int .i64 r.ttl, .int .i64 r.now]
/-- some record lies in block qb -/
def AnyR (qb : Nat) (w : World) : Prop := ∃ x s0 n0 ao n c s1 n1 n2, w.heap[qb]? = some (.cells #[.int .i64 x, .string s0, .int .i64 n0, .slice ao n c, .string s1, .int .i64 n1, .int .i64 n2] 54 (0, 0))
/-- behind a record's request that is read into block qb -/
def DfR (x : Int) (rb b off cap : Nat) (l : List UInt8) (i most qb : Nat) (w : World) (e : Ending) (w' : World) : Prop :=
  Tb rb qb w w' ∧ (((fRq l most i).1 = 0 ∧ e = .returned (.tuple #[]) ∧ RD w' rb b off cap l (fRq l most i).2.1 most ∧ ∃ v', w'.heap[qb]? = some (.cells (rcC x (fRq l most i).2.2 v') 54 (0, 0)) ∧ OLn w' w.heap.size v' (fRq l most i).2.2.lines)
  ∨ ((fRq l most i).1 ≠ 0 ∧ e = flt ((fRq l most i).1 : Int) ((fRq l most i).2.1 : Int) ∧ AnyR qb w'))
set_option maxHeartbeats 4000000 in
theorem dfieldsR_any (qb : Nat) (x : Int) (w : World) {rb b off cap i most : Nat} {l : List UInt8} (h : RD w rb b off cap l i most) (hcp : l.length ≤ 100000000000000) (hm : most ≤ 1000000000)
    (hq : w.heap[qb]? = some (.cells (rcC x rq0 (.slice none 0 0)) 54 (0, 0))) (hqb : qb ≠ rb ∧ qb ≠ b) (hbw : b < w.heap.size) :
    Calls Try.prog 72 #[ir rb, .pointer (some ⟨qb, 1, none⟩)] w fun e w' => DfR x rb b off cap l i most qb w e w' := by
  have hmf : ∀ (fn : Fn) (first cap : Array Value) (w : World), (Instr.makeFunc fn first cap).run Try.prog w = .ok (.func fn first cap) w := fun _ _ _ _ => rfl
  have HF0 := hid (fRq_eq l most i)
  have hq1 := (Array.getElem?_eq_some_iff.1 hq).1
  have hr1 := (Array.getElem?_eq_some_iff.1 h.top).1
  have HR0 := hid h
  have HT0 := hid (Tb.drewN rb qb w 0)
  have HQ0 := hid hq
  clear h hq
  go_enter Try.func72, Try.ntmps72
  have hq : w.heap[qb]? = some (.cells #[.int .i64 x, .string ⟨#[]⟩, .int .i64 0, .slice none 0 0, .string ⟨#[]⟩, .int .i64 0, .int .i64 0] 54 (0, 0)) := HQ0.out
  have hsz0 := HT0.out.size
  have HC := hid (fun q => dtext_any ⟨qb, 1, none⟩ ⟨#[]⟩ (w.drewN q) (HR0.out.drewN q) hcp hm (by show w.cell? _ = _; rw [cell_of_row _ _ _ _ _ _ hq]; rfl) (by show w.frozen? _ = _; simp [World.frozen?, hq]) hqb.1)
  have hle := at_le HR0.out.at' (tx_le (l.drop i) most)
  have hna := nr_text rb
  have hme := mr_text
  clear hq
  go_wp2_with fail
  refine wp_region_any (by kernel_rfl) ?_
  try (change wpAny _ _ _ _ _ _ _ (World.drew _))
  refine wpAny_take (i := 0) (v := ir rb) rfl (by kernel_rfl) (by kernel_rfl) (by kernel_rfl) (fun _ _ _ h => h) (Or.inl ⟨by rfl, by intro w; go_simp⟩) ?_
  refine wpAny_take (i := 1) (v := .pointer (some ⟨qb, 1, none⟩)) rfl (by kernel_rfl) (by kernel_rfl) (by kernel_rfl) (fun _ _ _ h => h) (Or.inl ⟨by rfl, by intro w; go_simp⟩) ?_
  refine wpAny_take (i := 2) (v := .pointer (some ⟨qb, 1, none⟩)) rfl (by kernel_rfl) (by kernel_rfl) (by kernel_rfl) (fun _ _ _ h => h) (Or.inl ⟨by rfl, by intro w; go_simp⟩) ?_
  refine wpAny_take (i := 3) (v := .pointer (some ⟨qb, 1, none⟩)) rfl (by kernel_rfl) (by kernel_rfl) (by kernel_rfl) (fun _ _ _ h => h) (Or.inl ⟨by rfl, by intro w; go_simp⟩) ?_
  refine wpAny_ready (rs := [4]) (by kernel_rfl) (by simp) ?_
  refine AllReady.cons rfl (fun K hK => ?_) AllReady.nil
  go_simp
  refine hK _ _ ?_
  clear hK K
  refine wpAny_take (i := 5) (v := .func (.method "larder/codec.text") #[ir rb] #[]) rfl (by kernel_rfl) (by kernel_rfl) (by kernel_rfl) (fun _ _ _ h => h) (Or.inl ⟨by rfl, by intro w; go_simp⟩) ?_
  refine wpAny_take (i := 6) (v := ir rb) rfl (by kernel_rfl) (by kernel_rfl) (by kernel_rfl) (fun _ _ _ h => h) (Or.inl ⟨by rfl, by intro w; go_simp⟩) ?_
  refine wpAny_ready (rs := [7]) (by kernel_rfl) (by simp) ?_
  refine AllReady.cons rfl (fun K hK => ?_) AllReady.nil
  go_simp
  go_wp2_with fail
  refine (HC.out _).mono ?_
  rintro e w1 ⟨q1, ⟨he, rfl, hw⟩ | ⟨he, rfl, hw⟩⟩
  rotate_left
  · have HF := hid (show DfR x rb b off cap l i most qb w (flt ((fTx l most i).1 : Int) ((fTx l most i).2.1 : Int)) w1 by
      unfold DfR
      rw [HF0.out, andR_no (show (fTx l most i).1 ≠ 0 from he)]
      exact ⟨HT0.out.trans ((Tb.drewN rb qb w 1).trans (by rw [hw]; exact Tb.drewN _ _ _ _)), .inr ⟨he, rfl, _, _, _, _, _, _, _, _, _, by rw [hw]; exact (show w.heap[qb]? = some (.cells #[.int .i64 x, .string ⟨#[]⟩, .int .i64 0, .slice none 0 0, .string ⟨#[]⟩, .int .i64 0, .int .i64 0] 54 (0, 0)) from HQ0.out)⟩⟩)
    clear hw
    go_wp2_with fail
    exact ⟨rfl, HF.out⟩
  have HT1 := hid (HT0.out.trans ((Tb.drewN rb qb w 1).trans (show Tb rb qb (w.drewN 1) w1 by rw [hw]; exact Tb.put _ q1 ⟨qb, 1, none⟩ _ _ rfl)))
  have HQ1 := hid (show w1.heap[qb]? = some (.cells ((#[.int .i64 x, .string ⟨#[]⟩, .int .i64 0, .slice none 0 0, .string ⟨#[]⟩, .int .i64 0, .int .i64 0] : Array Value).setIfInBounds 1 (.string (fTx l most i).2.2)) 54 (0, 0)) by rw [hw]; exact q_set (w := w.drewN 1) HQ0.out hqb.1 1 _)
  have HR1 := hid (show RD w1 rb b off cap l (fTx l most i).2.1 most by rw [hw]; exact (HR0.out.drewN 1).put q1 _ ⟨qb, 1, none⟩ _ hle hqb.1 hqb.2)
  have HF1 := hid (HF0.out.trans (andR_ok (show (fTx l most i).1 = 0 from he)))
  obtain ⟨i1, hi⟩ : ∃ x, (fTx l most i).2.1 = x := ⟨_, rfl⟩
  obtain ⟨a1, ha⟩ : ∃ x, (fTx l most i).2.2 = x := ⟨_, rfl⟩
  rw [hi, ha] at HF1
  rw [hi] at HR1
  rw [ha] at HQ1
  clear hi ha hw he HC HT0 HQ0 HR0 HF0 hna hme hle
  go_wp2_with fail
  refine wpAny_done (by kernel_rfl) ?_ _
  have hq : w1.heap[qb]? = some (.cells #[.int .i64 x, .string a1, .int .i64 0, .slice none 0 0, .string ⟨#[]⟩, .int .i64 0, .int .i64 0] 54 (0, 0)) := HQ1.out
  have hsz1 := HT1.out.size
  have HC := hid (fun q => dwhole_any ⟨qb, 2, none⟩ 0 (w1.drewN q) (HR1.out.drewN q) hcp (by show w1.cell? _ = _; rw [cell_of_row _ _ _ _ _ _ hq]; rfl) (by show w1.frozen? _ = _; simp [World.frozen?, hq]) hqb.1)
  have hle := at_le HR1.out.at' ((show (rd (l.drop i1) 0 0).2.1 ≤ _ by have := rd_le (l.drop i1) 0 0; omega))
  have hna := nr_whole rb
  have hme := mr_whole
  clear hq
  go_wp2_with fail
  refine wp_region_any (by kernel_rfl) ?_
  try (change wpAny _ _ _ _ _ _ _ (World.drew _))
  refine wpAny_take (i := 0) (v := ir rb) rfl (by kernel_rfl) (by kernel_rfl) (by kernel_rfl) (fun _ _ _ h => h) (Or.inl ⟨by rfl, by intro w; go_simp⟩) ?_
  refine wpAny_take (i := 1) (v := .pointer (some ⟨qb, 1, none⟩)) rfl (by kernel_rfl) (by kernel_rfl) (by kernel_rfl) (fun _ _ _ h => h) (Or.inl ⟨by rfl, by intro w; go_simp⟩) ?_
  refine wpAny_take (i := 2) (v := .pointer (some ⟨qb, 1, none⟩)) rfl (by kernel_rfl) (by kernel_rfl) (by kernel_rfl) (fun _ _ _ h => h) (Or.inl ⟨by rfl, by intro w; go_simp⟩) ?_
  refine wpAny_take (i := 3) (v := .pointer (some ⟨qb, 2, none⟩)) rfl (by kernel_rfl) (by kernel_rfl) (by kernel_rfl) (fun _ _ _ h => h) (Or.inl ⟨by rfl, by intro w; go_simp⟩) ?_
  refine wpAny_ready (rs := [4]) (by kernel_rfl) (by simp) ?_
  refine AllReady.cons rfl (fun K hK => ?_) AllReady.nil
  go_simp
  refine hK _ _ ?_
  clear hK K
  refine wpAny_take (i := 5) (v := .func (.method "larder/codec.whole") #[ir rb] #[]) rfl (by kernel_rfl) (by kernel_rfl) (by kernel_rfl) (fun _ _ _ h => h) (Or.inl ⟨by rfl, by intro w; go_simp⟩) ?_
  refine wpAny_take (i := 6) (v := ir rb) rfl (by kernel_rfl) (by kernel_rfl) (by kernel_rfl) (fun _ _ _ h => h) (Or.inl ⟨by rfl, by intro w; go_simp⟩) ?_
  refine wpAny_ready (rs := [7]) (by kernel_rfl) (by simp) ?_
  refine AllReady.cons rfl (fun K hK => ?_) AllReady.nil
  go_simp
  go_wp2_with fail
  refine (HC.out _).mono ?_
  rintro e w2 ⟨q2, ⟨he, rfl, hw⟩ | ⟨he, rfl, hw⟩⟩
  rotate_left
  · have HF := hid (show DfR x rb b off cap l i most qb w (flt ((fIn l i1).1 : Int) ((fIn l i1).2.1 : Int)) w2 by
      unfold DfR
      rw [HF1.out, andR_no (show (fIn l i1).1 ≠ 0 from he)]
      exact ⟨HT1.out.trans ((Tb.drewN rb qb w1 1).trans (by rw [hw]; exact Tb.drewN _ _ _ _)), .inr ⟨he, rfl, _, _, _, _, _, _, _, _, _, by rw [hw]; exact (show w1.heap[qb]? = some (.cells #[.int .i64 x, .string a1, .int .i64 0, .slice none 0 0, .string ⟨#[]⟩, .int .i64 0, .int .i64 0] 54 (0, 0)) from HQ1.out)⟩⟩)
    clear hw
    go_wp2_with fail
    exact ⟨rfl, HF.out⟩
  have HT2 := hid (HT1.out.trans ((Tb.drewN rb qb w1 1).trans (show Tb rb qb (w1.drewN 1) w2 by rw [hw]; exact Tb.put _ q2 ⟨qb, 2, none⟩ _ _ rfl)))
  have HQ2 := hid (show w2.heap[qb]? = some (.cells ((#[.int .i64 x, .string a1, .int .i64 0, .slice none 0 0, .string ⟨#[]⟩, .int .i64 0, .int .i64 0] : Array Value).setIfInBounds 2 (.int .i64 (fIn l i1).2.2)) 54 (0, 0)) by rw [hw]; exact q_set (w := w1.drewN 1) HQ1.out hqb.1 2 _)
  have HR2 := hid (show RD w2 rb b off cap l (fIn l i1).2.1 most by rw [hw]; exact (HR1.out.drewN 1).put q2 _ ⟨qb, 2, none⟩ _ hle hqb.1 hqb.2)
  have HF2 := hid (HF1.out.trans (andR_ok (show (fIn l i1).1 = 0 from he)))
  obtain ⟨i2, hi⟩ : ∃ x, (fIn l i1).2.1 = x := ⟨_, rfl⟩
  obtain ⟨a2, ha⟩ : ∃ x, (fIn l i1).2.2 = x := ⟨_, rfl⟩
  rw [hi, ha] at HF2
  rw [hi] at HR2
  rw [ha] at HQ2
  clear hi ha hw he HC HT1 HQ1 HR1 HF1 hna hme hle
  go_wp2_with fail
  refine wpAny_done (by kernel_rfl) ?_ _
  have hq : w2.heap[qb]? = some (.cells #[.int .i64 x, .string a1, .int .i64 a2, .slice none 0 0, .string ⟨#[]⟩, .int .i64 0, .int .i64 0] 54 (0, 0)) := HQ2.out
  have hsz2 := HT2.out.size
  have HC := hid (dlines_any qb 3 #[.int .i64 x, .string a1, .int .i64 a2, .slice none 0 0, .string ⟨#[]⟩, .int .i64 0, .int .i64 0] 54 w2 HR2.out hcp hm hq rfl hqb (by omega))
  clear hq
  go_wp2_with fail
  refine Calls.mono HC.out ?_
  rintro e w3 ⟨ht, ⟨he, rfl, hr, v3, hq3, ho3⟩ | ⟨he, rfl, ao9, n9, c9, hq9⟩⟩
  rotate_left
  · have HF := hid (show DfR x rb b off cap l i most qb w (flt ((fLi l most i2).1 : Int) ((fLi l most i2).2.1 : Int)) w3 by
      unfold DfR
      rw [HF2.out, andR_no he]
      exact ⟨HT2.out.trans ht, .inr ⟨he, rfl, _, _, _, _, _, _, _, _, _, hq9⟩⟩)
    clear ht hq9
    go_wp2_with fail
    exact ⟨rfl, HF.out⟩
  obtain ⟨ao3, n3, c3, rfl⟩ := ho3.form
  have HT3 := hid (HT2.out.trans ht)
  have HQ3 := hid hq3
  have HR3 := hid hr
  have HO3 := hid (show OLn w3 w.heap.size (.slice ao3 n3 c3) (fLi l most i2).2.2 by
    refine ⟨ho3.1, ?_⟩
    rcases ho3.2 with g | ⟨x, y, z, g1, g2, g3⟩
    · exact .inl g
    · exact .inr ⟨x, y, z, g1, by omega, g3⟩)
  have HF3 := hid (HF2.out.trans (andR_ok he))
  obtain ⟨i3, hi⟩ : ∃ x, (fLi l most i2).2.1 = x := ⟨_, rfl⟩
  obtain ⟨a3, ha⟩ : ∃ x, (fLi l most i2).2.2 = x := ⟨_, rfl⟩
  rw [hi, ha] at HF3
  rw [hi] at HR3
  rw [ha] at HO3
  clear hi ha ht hr hq3 ho3 he HC HT2 HQ2 HR2 HF2
  go_wp2_with fail
  have hq : w3.heap[qb]? = some (.cells #[.int .i64 x, .string a1, .int .i64 a2, .slice ao3 n3 c3, .string ⟨#[]⟩, .int .i64 0, .int .i64 0] 54 (0, 0)) := HQ3.out
  have hsz3 := HT3.out.size
  have HC := hid (fun q => dtext_any ⟨qb, 4, none⟩ ⟨#[]⟩ (w3.drewN q) (HR3.out.drewN q) hcp hm (by show w3.cell? _ = _; rw [cell_of_row _ _ _ _ _ _ hq]; rfl) (by show w3.frozen? _ = _; simp [World.frozen?, hq]) hqb.1)
  have hle := at_le HR3.out.at' (tx_le (l.drop i3) most)
  have hna := nr_text rb
  have hme := mr_text
  clear hq
  go_wp2_with fail
  refine wp_region_any (by kernel_rfl) ?_
  try (change wpAny _ _ _ _ _ _ _ (World.drew _))
  refine wpAny_take (i := 0) (v := ir rb) rfl (by kernel_rfl) (by kernel_rfl) (by kernel_rfl) (fun _ _ _ h => h) (Or.inl ⟨by rfl, by intro w; go_simp⟩) ?_
  refine wpAny_take (i := 1) (v := .pointer (some ⟨qb, 1, none⟩)) rfl (by kernel_rfl) (by kernel_rfl) (by kernel_rfl) (fun _ _ _ h => h) (Or.inl ⟨by rfl, by intro w; go_simp⟩) ?_
  refine wpAny_take (i := 2) (v := .pointer (some ⟨qb, 1, none⟩)) rfl (by kernel_rfl) (by kernel_rfl) (by kernel_rfl) (fun _ _ _ h => h) (Or.inl ⟨by rfl, by intro w; go_simp⟩) ?_
  refine wpAny_take (i := 3) (v := .pointer (some ⟨qb, 4, none⟩)) rfl (by kernel_rfl) (by kernel_rfl) (by kernel_rfl) (fun _ _ _ h => h) (Or.inl ⟨by rfl, by intro w; go_simp⟩) ?_
  refine wpAny_ready (rs := [4]) (by kernel_rfl) (by simp) ?_
  refine AllReady.cons rfl (fun K hK => ?_) AllReady.nil
  go_simp
  refine hK _ _ ?_
  clear hK K
  refine wpAny_take (i := 5) (v := .func (.method "larder/codec.text") #[ir rb] #[]) rfl (by kernel_rfl) (by kernel_rfl) (by kernel_rfl) (fun _ _ _ h => h) (Or.inl ⟨by rfl, by intro w; go_simp⟩) ?_
  refine wpAny_take (i := 6) (v := ir rb) rfl (by kernel_rfl) (by kernel_rfl) (by kernel_rfl) (fun _ _ _ h => h) (Or.inl ⟨by rfl, by intro w; go_simp⟩) ?_
  refine wpAny_ready (rs := [7]) (by kernel_rfl) (by simp) ?_
  refine AllReady.cons rfl (fun K hK => ?_) AllReady.nil
  go_simp
  go_wp2_with fail
  refine (HC.out _).mono ?_
  rintro e w4 ⟨q4, ⟨he, rfl, hw⟩ | ⟨he, rfl, hw⟩⟩
  rotate_left
  · have HF := hid (show DfR x rb b off cap l i most qb w (flt ((fTx l most i3).1 : Int) ((fTx l most i3).2.1 : Int)) w4 by
      unfold DfR
      rw [HF3.out, andR_no (show (fTx l most i3).1 ≠ 0 from he)]
      exact ⟨HT3.out.trans ((Tb.drewN rb qb w3 1).trans (by rw [hw]; exact Tb.drewN _ _ _ _)), .inr ⟨he, rfl, _, _, _, _, _, _, _, _, _, by rw [hw]; exact (show w3.heap[qb]? = some (.cells #[.int .i64 x, .string a1, .int .i64 a2, .slice ao3 n3 c3, .string ⟨#[]⟩, .int .i64 0, .int .i64 0] 54 (0, 0)) from HQ3.out)⟩⟩)
    clear hw
    go_wp2_with fail
    exact ⟨rfl, HF.out⟩
  have HT4 := hid (HT3.out.trans ((Tb.drewN rb qb w3 1).trans (show Tb rb qb (w3.drewN 1) w4 by rw [hw]; exact Tb.put _ q4 ⟨qb, 4, none⟩ _ _ rfl)))
  have HQ4 := hid (show w4.heap[qb]? = some (.cells ((#[.int .i64 x, .string a1, .int .i64 a2, .slice ao3 n3 c3, .string ⟨#[]⟩, .int .i64 0, .int .i64 0] : Array Value).setIfInBounds 4 (.string (fTx l most i3).2.2)) 54 (0, 0)) by rw [hw]; exact q_set (w := w3.drewN 1) HQ3.out hqb.1 4 _)
  have HR4 := hid (show RD w4 rb b off cap l (fTx l most i3).2.1 most by rw [hw]; exact (HR3.out.drewN 1).put q4 _ ⟨qb, 4, none⟩ _ hle hqb.1 hqb.2)
  have HO4 := hid (HO3.out.tb ((Tb.drewN rb qb w3 1).trans (show Tb rb qb (w3.drewN 1) w4 by rw [hw]; exact Tb.put _ q4 ⟨qb, 4, none⟩ _ _ rfl)) hr1 hq1)
  have HF4 := hid (HF3.out.trans (andR_ok (show (fTx l most i3).1 = 0 from he)))
  obtain ⟨i4, hi⟩ : ∃ x, (fTx l most i3).2.1 = x := ⟨_, rfl⟩
  obtain ⟨a4, ha⟩ : ∃ x, (fTx l most i3).2.2 = x := ⟨_, rfl⟩
  rw [hi, ha] at HF4
  rw [hi] at HR4
  rw [ha] at HQ4
  clear hi ha hw he HC HT3 HQ3 HR3 HF3 hna hme hle HO3
  go_wp2_with fail
  refine wpAny_done (by kernel_rfl) ?_ _
  have hq : w4.heap[qb]? = some (.cells #[.int .i64 x, .string a1, .int .i64 a2, .slice ao3 n3 c3, .string a4, .int .i64 0, .int .i64 0] 54 (0, 0)) := HQ4.out
  have hsz4 := HT4.out.size
  have HC := hid (fun q => dwhole_any ⟨qb, 5, none⟩ 0 (w4.drewN q) (HR4.out.drewN q) hcp (by show w4.cell? _ = _; rw [cell_of_row _ _ _ _ _ _ hq]; rfl) (by show w4.frozen? _ = _; simp [World.frozen?, hq]) hqb.1)
  have hle := at_le HR4.out.at' ((show (rd (l.drop i4) 0 0).2.1 ≤ _ by have := rd_le (l.drop i4) 0 0; omega))
  have hna := nr_whole rb
  have hme := mr_whole
  clear hq
  go_wp2_with fail
  refine wp_region_any (by kernel_rfl) ?_
  try (change wpAny _ _ _ _ _ _ _ (World.drew _))
  refine wpAny_take (i := 0) (v := ir rb) rfl (by kernel_rfl) (by kernel_rfl) (by kernel_rfl) (fun _ _ _ h => h) (Or.inl ⟨by rfl, by intro w; go_simp⟩) ?_
  refine wpAny_take (i := 1) (v := .pointer (some ⟨qb, 1, none⟩)) rfl (by kernel_rfl) (by kernel_rfl) (by kernel_rfl) (fun _ _ _ h => h) (Or.inl ⟨by rfl, by intro w; go_simp⟩) ?_
  refine wpAny_take (i := 2) (v := .pointer (some ⟨qb, 1, none⟩)) rfl (by kernel_rfl) (by kernel_rfl) (by kernel_rfl) (fun _ _ _ h => h) (Or.inl ⟨by rfl, by intro w; go_simp⟩) ?_
  refine wpAny_take (i := 3) (v := .pointer (some ⟨qb, 5, none⟩)) rfl (by kernel_rfl) (by kernel_rfl) (by kernel_rfl) (fun _ _ _ h => h) (Or.inl ⟨by rfl, by intro w; go_simp⟩) ?_
  refine wpAny_ready (rs := [4]) (by kernel_rfl) (by simp) ?_
  refine AllReady.cons rfl (fun K hK => ?_) AllReady.nil
  go_simp
  refine hK _ _ ?_
  clear hK K
  refine wpAny_take (i := 5) (v := .func (.method "larder/codec.whole") #[ir rb] #[]) rfl (by kernel_rfl) (by kernel_rfl) (by kernel_rfl) (fun _ _ _ h => h) (Or.inl ⟨by rfl, by intro w; go_simp⟩) ?_
  refine wpAny_take (i := 6) (v := ir rb) rfl (by kernel_rfl) (by kernel_rfl) (by kernel_rfl) (fun _ _ _ h => h) (Or.inl ⟨by rfl, by intro w; go_simp⟩) ?_
  refine wpAny_ready (rs := [7]) (by kernel_rfl) (by simp) ?_
  refine AllReady.cons rfl (fun K hK => ?_) AllReady.nil
  go_simp
  go_wp2_with fail
  refine (HC.out _).mono ?_
  rintro e w5 ⟨q5, ⟨he, rfl, hw⟩ | ⟨he, rfl, hw⟩⟩
  rotate_left
  · have HF := hid (show DfR x rb b off cap l i most qb w (flt ((fIn l i4).1 : Int) ((fIn l i4).2.1 : Int)) w5 by
      unfold DfR
      rw [HF4.out, andR_no (show (fIn l i4).1 ≠ 0 from he)]
      exact ⟨HT4.out.trans ((Tb.drewN rb qb w4 1).trans (by rw [hw]; exact Tb.drewN _ _ _ _)), .inr ⟨he, rfl, _, _, _, _, _, _, _, _, _, by rw [hw]; exact (show w4.heap[qb]? = some (.cells #[.int .i64 x, .string a1, .int .i64 a2, .slice ao3 n3 c3, .string a4, .int .i64 0, .int .i64 0] 54 (0, 0)) from HQ4.out)⟩⟩)
    clear hw
    go_wp2_with fail
    exact ⟨rfl, HF.out⟩
  have HT5 := hid (HT4.out.trans ((Tb.drewN rb qb w4 1).trans (show Tb rb qb (w4.drewN 1) w5 by rw [hw]; exact Tb.put _ q5 ⟨qb, 5, none⟩ _ _ rfl)))
  have HQ5 := hid (show w5.heap[qb]? = some (.cells ((#[.int .i64 x, .string a1, .int .i64 a2, .slice ao3 n3 c3, .string a4, .int .i64 0, .int .i64 0] : Array Value).setIfInBounds 5 (.int .i64 (fIn l i4).2.2)) 54 (0, 0)) by rw [hw]; exact q_set (w := w4.drewN 1) HQ4.out hqb.1 5 _)
  have HR5 := hid (show RD w5 rb b off cap l (fIn l i4).2.1 most by rw [hw]; exact (HR4.out.drewN 1).put q5 _ ⟨qb, 5, none⟩ _ hle hqb.1 hqb.2)
  have HO5 := hid (HO4.out.tb ((Tb.drewN rb qb w4 1).trans (show Tb rb qb (w4.drewN 1) w5 by rw [hw]; exact Tb.put _ q5 ⟨qb, 5, none⟩ _ _ rfl)) hr1 hq1)
  have HF5 := hid (HF4.out.trans (andR_ok (show (fIn l i4).1 = 0 from he)))
  obtain ⟨i5, hi⟩ : ∃ x, (fIn l i4).2.1 = x := ⟨_, rfl⟩
  obtain ⟨a5, ha⟩ : ∃ x, (fIn l i4).2.2 = x := ⟨_, rfl⟩
  rw [hi, ha] at HF5
  rw [hi] at HR5
  rw [ha] at HQ5
  clear hi ha hw he HC HT4 HQ4 HR4 HF4 hna hme hle HO4
  go_wp2_with fail
  refine wpAny_done (by kernel_rfl) ?_ _
  have hq : w5.heap[qb]? = some (.cells #[.int .i64 x, .string a1, .int .i64 a2, .slice ao3 n3 c3, .string a4, .int .i64 a5, .int .i64 0] 54 (0, 0)) := HQ5.out
  have hsz5 := HT5.out.size
  have HC := hid (fun q => dwhole_any ⟨qb, 6, none⟩ 0 (w5.drewN q) (HR5.out.drewN q) hcp (by show w5.cell? _ = _; rw [cell_of_row _ _ _ _ _ _ hq]; rfl) (by show w5.frozen? _ = _; simp [World.frozen?, hq]) hqb.1)
  have hle := at_le HR5.out.at' ((show (rd (l.drop i5) 0 0).2.1 ≤ _ by have := rd_le (l.drop i5) 0 0; omega))
  have hna := nr_whole rb
  have hme := mr_whole
  clear hq
  go_wp2_with fail
  refine wp_region_any (by kernel_rfl) ?_
  try (change wpAny _ _ _ _ _ _ _ (World.drew _))
  refine wpAny_take (i := 0) (v := ir rb) rfl (by kernel_rfl) (by kernel_rfl) (by kernel_rfl) (fun _ _ _ h => h) (Or.inl ⟨by rfl, by intro w; go_simp⟩) ?_
  refine wpAny_take (i := 1) (v := .pointer (some ⟨qb, 1, none⟩)) rfl (by kernel_rfl) (by kernel_rfl) (by kernel_rfl) (fun _ _ _ h => h) (Or.inl ⟨by rfl, by intro w; go_simp⟩) ?_
  refine wpAny_take (i := 2) (v := .pointer (some ⟨qb, 1, none⟩)) rfl (by kernel_rfl) (by kernel_rfl) (by kernel_rfl) (fun _ _ _ h => h) (Or.inl ⟨by rfl, by intro w; go_simp⟩) ?_
  refine wpAny_take (i := 3) (v := .pointer (some ⟨qb, 6, none⟩)) rfl (by kernel_rfl) (by kernel_rfl) (by kernel_rfl) (fun _ _ _ h => h) (Or.inl ⟨by rfl, by intro w; go_simp⟩) ?_
  refine wpAny_ready (rs := [4]) (by kernel_rfl) (by simp) ?_
  refine AllReady.cons rfl (fun K hK => ?_) AllReady.nil
  go_simp
  refine hK _ _ ?_
  clear hK K
  refine wpAny_take (i := 5) (v := .func (.method "larder/codec.whole") #[ir rb] #[]) rfl (by kernel_rfl) (by kernel_rfl) (by kernel_rfl) (fun _ _ _ h => h) (Or.inl ⟨by rfl, by intro w; go_simp⟩) ?_
  refine wpAny_take (i := 6) (v := ir rb) rfl (by kernel_rfl) (by kernel_rfl) (by kernel_rfl) (fun _ _ _ h => h) (Or.inl ⟨by rfl, by intro w; go_simp⟩) ?_
  refine wpAny_ready (rs := [7]) (by kernel_rfl) (by simp) ?_
  refine AllReady.cons rfl (fun K hK => ?_) AllReady.nil
  go_simp
  go_wp2_with fail
  refine (HC.out _).mono ?_
  rintro e w6 ⟨q6, ⟨he, rfl, hw⟩ | ⟨he, rfl, hw⟩⟩
  rotate_left
  · have HF := hid (show DfR x rb b off cap l i most qb w (flt ((fIn l i5).1 : Int) ((fIn l i5).2.1 : Int)) w6 by
      unfold DfR
      rw [HF5.out, andR_no (show (fIn l i5).1 ≠ 0 from he)]
      exact ⟨HT5.out.trans ((Tb.drewN rb qb w5 1).trans (by rw [hw]; exact Tb.drewN _ _ _ _)), .inr ⟨he, rfl, _, _, _, _, _, _, _, _, _, by rw [hw]; exact (show w5.heap[qb]? = some (.cells #[.int .i64 x, .string a1, .int .i64 a2, .slice ao3 n3 c3, .string a4, .int .i64 a5, .int .i64 0] 54 (0, 0)) from HQ5.out)⟩⟩)
    clear hw
    go_wp2_with fail
    exact ⟨rfl, HF.out⟩
  have HT6 := hid (HT5.out.trans ((Tb.drewN rb qb w5 1).trans (show Tb rb qb (w5.drewN 1) w6 by rw [hw]; exact Tb.put _ q6 ⟨qb, 6, none⟩ _ _ rfl)))
  have HQ6 := hid (show w6.heap[qb]? = some (.cells ((#[.int .i64 x, .string a1, .int .i64 a2, .slice ao3 n3 c3, .string a4, .int .i64 a5, .int .i64 0] : Array Value).setIfInBounds 6 (.int .i64 (fIn l i5).2.2)) 54 (0, 0)) by rw [hw]; exact q_set (w := w5.drewN 1) HQ5.out hqb.1 6 _)
  have HR6 := hid (show RD w6 rb b off cap l (fIn l i5).2.1 most by rw [hw]; exact (HR5.out.drewN 1).put q6 _ ⟨qb, 6, none⟩ _ hle hqb.1 hqb.2)
  have HO6 := hid (HO5.out.tb ((Tb.drewN rb qb w5 1).trans (show Tb rb qb (w5.drewN 1) w6 by rw [hw]; exact Tb.put _ q6 ⟨qb, 6, none⟩ _ _ rfl)) hr1 hq1)
  have HF6 := hid (HF5.out.trans (andR_ok (show (fIn l i5).1 = 0 from he)))
  obtain ⟨i6, hi⟩ : ∃ x, (fIn l i5).2.1 = x := ⟨_, rfl⟩
  obtain ⟨a6, ha⟩ : ∃ x, (fIn l i5).2.2 = x := ⟨_, rfl⟩
  rw [hi, ha] at HF6
  rw [hi] at HR6
  rw [ha] at HQ6
  clear hi ha hw he HC HT5 HQ5 HR5 HF5 hna hme hle HO5
  go_wp2_with fail
  refine wpAny_done (by kernel_rfl) ?_ _
  have HF := hid (show DfR x rb b off cap l i most qb w (.returned (.tuple #[])) w6 by
    unfold DfR
    rw [HF6.out]
    exact ⟨HT6.out, .inl ⟨rfl, rfl, HR6.out, _, HQ6.out, HO6.out⟩⟩)
  go_wp2_with fail
  go_end0
  exact HF.out
/-- a record's fields from place i on -/
def fRc (l : List UInt8) (most i : Nat) : Nat × Nat × (Int × Rq) := andR (fIn l i) (0, rq0) fun i1 x => andR (fRq l most i1) (0, rq0) fun i2 q => (0, i2, (x, q))
/-- a record's bytes behind its first byte -/
def fKr (l : List UInt8) (most : Nat) : Nat × Nat × (Int × Rq) :=
  match l with
  | [] => (3, 0, (0, rq0))
  | c :: _ => if c ≠ 83 then (90, 0, (0, rq0)) else fRc l most 1
theorem fKr_nil (most : Nat) : fKr [] most = (3, 0, (0, rq0)) := rfl
theorem fKr_no {l : List UInt8} {most : Nat} (h0 : 0 < l.length) (h : l[0] ≠ 83) : fKr l most = (90, 0, (0, rq0)) := by
  match l, h0, h with
  | c :: t, _, h => exact if_pos h
theorem fKr_ok {l : List UInt8} {most : Nat} (h0 : 0 < l.length) (h : l[0] = 83) : fKr l most = fRc l most 1 := by
  match l, h0, h with
  | c :: t, _, h => exact if_neg (fun e => e h)
/-- behind a record that is read into block qb -/
def Dr (rb b off cap : Nat) (l : List UInt8) (most qb : Nat) (w : World) (e : Ending) (w' : World) : Prop :=
  Tb rb qb w w' ∧ (((fKr l most).1 = 0 ∧ e = .returned (.tuple #[]) ∧ RD w' rb b off cap l (fKr l most).2.1 most ∧ ∃ v', w'.heap[qb]? = some (.cells (rcC (fKr l most).2.2.1 (fKr l most).2.2.2 v') 54 (0, 0)) ∧ OLn w' w.heap.size v' (fKr l most).2.2.2.lines)
  ∨ ((fKr l most).1 ≠ 0 ∧ e = flt ((fKr l most).1 : Int) ((fKr l most).2.1 : Int) ∧ AnyR qb w'))
set_option maxHeartbeats 1000000 in
theorem drecord_nil (ao : Option Addr) (cap rb most qb b off : Nat) (w : World) (h : RN w rb (.slice ao 0 cap) most) (hq : w.heap[qb]? = some (.cells (rcC 0 rq0 (.slice none 0 0)) 54 (0, 0))) :
    Calls Try.prog 38 #[ir rb, .pointer (some ⟨qb, 0, none⟩)] w fun e w' => Dr rb b off cap [] most qb w e w' := by
  have hme := mr_key
  have HK := hid (show Calls Try.prog 122 #[.pointer (some ⟨rb, 0, none⟩), .int .u8 83] w fun e w' => e = flt 3 0 ∧ w' = w from dkey_nil 83 ao cap rb most w h)
  have HQ := hid hq
  clear h hq
  go_enter Try.func38, Try.ntmps38
  go_wp2_with fail
  refine Calls.mono HK.out ?_
  rintro e w1 ⟨rfl, rfl⟩
  have HF := hid (show Dr rb b off cap [] most qb w1 (flt 3 0) w1 from ⟨Tb.drewN rb qb w1 0, .inr ⟨by rw [fKr_nil]; decide, by rw [fKr_nil]; rfl, _, _, _, _, _, _, _, _, _, HQ.out⟩⟩)
  go_wp2_with fail
  exact ⟨rfl, HF.out⟩
set_option maxHeartbeats 2000000 in
theorem drecord_any (qb rb b off cap most : Nat) (l : List UInt8) (w : World) (h : RN w rb (.slice (some ⟨b, off, none⟩) l.length cap) most) (hc : l.length ≤ cap) (h0 : 0 < l.length) (hne : b ≠ rb) (hb : ∀ j (hj : j < l.length), w.cell? ⟨b, off + j, none⟩ = some (.int .u8 (l[j].toNat : Int)))
    (hcp : l.length ≤ 100000000000000) (hm : most ≤ 1000000000) (hq : w.heap[qb]? = some (.cells (rcC 0 rq0 (.slice none 0 0)) 54 (0, 0))) (hqb : qb ≠ rb ∧ qb ≠ b) :
    Calls Try.prog 38 #[ir rb, .pointer (some ⟨qb, 0, none⟩)] w fun e w' => Dr rb b off cap l most qb w e w' := by
  have hmf : ∀ (fn : Fn) (first cap : Array Value) (w : World), (Instr.makeFunc fn first cap).run Try.prog w = .ok (.func fn first cap) w := fun _ _ _ _ => rfl
  have hme := mr_key
  have HK := hid (show Calls Try.prog 122 #[.pointer (some ⟨rb, 0, none⟩), .int .u8 83] w fun e w' => (l[0] = 83 ∧ e = .returned (.tuple #[]) ∧ RD w' rb b off cap l 1 most ∧ w' = w.setCell ⟨rb, 1, none⟩ (.int .i64 1)) ∨ (l[0] ≠ 83 ∧ e = flt 90 0 ∧ w' = w) from dkey_any 83 rb b off cap most l w h hc h0 hne hb)
  have hbw : b < w.heap.size := World.block_lt_of_cell? _ _ (hb 0 h0)
  have HQ := hid hq
  clear h hb hq
  go_enter Try.func38, Try.ntmps38
  go_wp2_with fail
  refine Calls.mono HK.out ?_
  rintro e w1 (⟨hk, rfl, hR, hw⟩ | ⟨hk, rfl, rfl⟩)
  rotate_left
  · have HF := hid (show Dr rb b off cap l most qb w1 (flt 90 0) w1 from ⟨Tb.drewN rb qb w1 0, .inr ⟨by rw [fKr_no h0 hk]; decide, by rw [fKr_no h0 hk]; rfl, _, _, _, _, _, _, _, _, _, HQ.out⟩⟩)
    go_wp2_with fail
    exact ⟨rfl, HF.out⟩
  obtain ⟨i1, hi1⟩ : ∃ i1 : Nat, i1 = 1 := ⟨_, rfl⟩
  have hR : RD w1 rb b off cap l i1 most := by rw [hi1]; exact hR
  have hT : Tb rb qb w w1 := by rw [hw]; exact Tb.set _ ⟨rb, 1, none⟩ _ (.inl rfl)
  have hq1 : w1.heap[qb]? = some (.cells (rcC 0 rq0 (.slice none 0 0)) 54 (0, 0)) := by rw [hw, heap_setCell_other w ⟨rb, 1, none⟩ qb _ hqb.1]; exact HQ.out
  have HC := hid (fun q => dwhole_any ⟨qb, 0, none⟩ 0 (w1.drewN q) (hR.drewN q) hcp (by show w1.cell? _ = _; rw [cell_of_row _ _ _ _ _ _ hq1]; rfl) (by show w1.frozen? _ = _; simp [World.frozen?, hq1]) hqb.1)
  have hle := at_le hR.at' (show (rd (l.drop i1) 0 0).2.1 ≤ _ by have := rd_le (l.drop i1) 0 0; omega)
  have HT := hid hT
  have HQ1 := hid hq1
  have HR1 := hid hR
  have HKk := hid (show fKr l most = fRc l most i1 by rw [hi1]; exact fKr_ok (most := most) h0 hk)
  clear hi1
  have hna := nr_whole rb
  have hme := mr_whole
  clear hT hq1 hw hR hk HK
  go_wp2_with fail
  refine wp_region_any (by kernel_rfl) ?_
  try (change wpAny _ _ _ _ _ _ _ (World.drew _))
  refine wpAny_take (i := 0) (v := ir rb) rfl (by kernel_rfl) (by kernel_rfl) (by kernel_rfl) (fun _ _ _ h => h) (Or.inl ⟨by rfl, by intro w; go_simp⟩) ?_
  refine wpAny_take (i := 1) (v := .pointer (some ⟨qb, 0, none⟩)) rfl (by kernel_rfl) (by kernel_rfl) (by kernel_rfl) (fun _ _ _ h => h) (Or.inl ⟨by rfl, by intro w; go_simp⟩) ?_
  refine wpAny_take (i := 2) (v := .pointer (some ⟨qb, 0, none⟩)) rfl (by kernel_rfl) (by kernel_rfl) (by kernel_rfl) (fun _ _ _ h => h) (Or.inl ⟨by rfl, by intro w; go_simp⟩) ?_
  refine wpAny_take (i := 3) (v := .pointer (some ⟨qb, 0, none⟩)) rfl (by kernel_rfl) (by kernel_rfl) (by kernel_rfl) (fun _ _ _ h => h) (Or.inl ⟨by rfl, by intro w; go_simp⟩) ?_
  refine wpAny_ready (rs := [4]) (by kernel_rfl) (by simp) ?_
  refine AllReady.cons rfl (fun K hK => ?_) AllReady.nil
  go_simp
  refine hK _ _ ?_
  clear hK K
  refine wpAny_take (i := 5) (v := .func (.method "larder/codec.whole") #[ir rb] #[]) rfl (by kernel_rfl) (by kernel_rfl) (by kernel_rfl) (fun _ _ _ h => h) (Or.inl ⟨by rfl, by intro w; go_simp⟩) ?_
  refine wpAny_take (i := 6) (v := ir rb) rfl (by kernel_rfl) (by kernel_rfl) (by kernel_rfl) (fun _ _ _ h => h) (Or.inl ⟨by rfl, by intro w; go_simp⟩) ?_
  refine wpAny_ready (rs := [7]) (by kernel_rfl) (by simp) ?_
  refine AllReady.cons rfl (fun K hK => ?_) AllReady.nil
  go_simp
  go_wp2_with fail
  refine (HC.out _).mono ?_
  rintro e w2 ⟨q2, ⟨he, rfl, hw⟩ | ⟨he, rfl, hw⟩⟩
  rotate_left
  · have HF := hid (show Dr rb b off cap l most qb w (flt ((fIn l i1).1 : Int) ((fIn l i1).2.1 : Int)) w2 by
      unfold Dr
      rw [HKk.out]
      unfold fRc
      rw [andR_no (show (fIn l i1).1 ≠ 0 from he)]
      exact ⟨HT.out.trans ((Tb.drewN rb qb w1 1).trans (by rw [hw]; exact Tb.drewN _ _ _ _)), .inr ⟨he, rfl, _, _, _, _, _, _, _, _, _, by rw [hw]; exact (show w1.heap[qb]? = some (.cells (rcC 0 rq0 (.slice none 0 0)) 54 (0, 0)) from HQ1.out)⟩⟩)
    clear hw
    go_wp2_with fail
    exact ⟨rfl, HF.out⟩
  have HT2 := hid (HT.out.trans ((Tb.drewN rb qb w1 1).trans (show Tb rb qb (w1.drewN 1) w2 by rw [hw]; exact Tb.put _ q2 ⟨qb, 0, none⟩ _ _ rfl)))
  have HQ2 := hid (show w2.heap[qb]? = some (.cells (rcC (fIn l i1).2.2 rq0 (.slice none 0 0)) 54 (0, 0)) by rw [hw]; exact q_set (w := w1.drewN 1) HQ1.out hqb.1 0 _)
  have HR2 := hid (show RD w2 rb b off cap l (fIn l i1).2.1 most by rw [hw]; exact (HR1.out.drewN 1).put q2 _ ⟨qb, 0, none⟩ _ hle hqb.1 hqb.2)
  have HKe := hid (show fKr l most = andR (fRq l most (fIn l i1).2.1) (0, rq0) fun i2 q => (0, i2, ((fIn l i1).2.2, q)) by rw [HKk.out]; unfold fRc; rw [andR_ok (show (fIn l i1).1 = 0 from he)])
  obtain ⟨i2, hi⟩ : ∃ x, (fIn l i1).2.1 = x := ⟨_, rfl⟩
  obtain ⟨x2, ha⟩ : ∃ x, (fIn l i1).2.2 = x := ⟨_, rfl⟩
  rw [hi, ha] at HKe
  rw [hi] at HR2
  rw [ha] at HQ2
  have hz2 := HT2.out.size
  have HFi := hid (dfieldsR_any qb x2 w2 HR2.out hcp hm HQ2.out hqb (by omega))
  clear hi ha hw he HC HT HQ1 HR1 hna hme hle HKk
  go_wp2_with fail
  refine wpAny_done (by kernel_rfl) ?_ _
  go_wp2_with fail
  refine Calls.mono HFi.out ?_
  rintro e w3 ⟨ht, ⟨he, rfl, hr, v', hq3, ho⟩ | ⟨he, rfl, hq9⟩⟩
  · have HF := hid (show Dr rb b off cap l most qb w (.returned (.tuple #[])) w3 by
      unfold Dr
      rw [HKe.out, andR_ok he]
      refine ⟨HT2.out.trans ht, .inl ⟨rfl, rfl, hr, v', hq3, ho.1, ?_⟩⟩
      rcases ho.2 with g | ⟨x, y, z, g1, g2, g3⟩
      · exact .inl g
      · exact .inr ⟨x, y, z, g1, by have := HT2.out.size; omega, g3⟩)
    clear ht hr hq3 ho
    go_wp2_with fail
    go_end0
    exact HF.out
  · have HF := hid (show Dr rb b off cap l most qb w (flt ((fRq l most i2).1 : Int) ((fRq l most i2).2.1 : Int)) w3 by
      unfold Dr
      rw [HKe.out, andR_no he]
      exact ⟨HT2.out.trans ht, .inr ⟨he, rfl, hq9⟩⟩)
    clear ht hq9
    go_wp2_with fail
    exact ⟨rfl, HF.out⟩
end Go.Proofs.Ytfhicemfhkhjaab
