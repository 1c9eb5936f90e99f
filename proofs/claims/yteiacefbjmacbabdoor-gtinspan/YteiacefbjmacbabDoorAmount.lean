/-
  Amounts: gtin.Amount.
-/
import Derived.Test.YteiacefbjmacbabDoorNumber
import Derived.Lib.Strings
import Derived.Deep.CutRange
import Derived.Deep.RegionWith
import Derived.Deep.RegionHeld
import Derived.Deep.DrawnRows
namespace Go.Proofs.YteiacefbjmacbabDoor
open Go.RowKit
set_option maxRecDepth 100000
attribute [local go_sem ↓] Go.wp_at_zero Go.wp_at_succ

/-- an element says an amount -/
def AmtOk (a v : List UInt8) : Prop := ∃ k, kfind a = some k ∧ (k = 6 ∧ v.length = 6 ∨ k = 7 ∧ 1 ≤ v.length ∧ v.length ≤ 15) ∧ AllD v

theorem cell_old' {w w' : World} {p : Addr} {v : Value} (h : w.cell? p = some v) (hb : Below w.heap.size w w') : w'.cell? p = some v :=
  (hb.cell (p := p) (World.block_lt_of_cell? _ _ h)).trans h

/-- a world behind another: nothing old has turned -/
def Later (w w' : World) : Prop := Below w.heap.size w w'

/-- the element's two texts, boxed -/
theorem box_cells (w w1 : World) (a v : ByteArray) (hb : Below (w.alloc (.cells #[.string a, .string v] 36)).heap.size (w.alloc (.cells #[.string a, .string v] 36)) w1) :
    w1.cell? ⟨w.heap.size, 0, none⟩ = some (.string a) ∧ w1.cell? ⟨w.heap.size, 1, none⟩ = some (.string v) ∧ Below w.heap.size w w1 ∧ w.heap.size < w1.heap.size := by
  have h0 : (w.alloc (.cells #[.string a, .string v] 36)).heap.size = w.heap.size + 1 := by simp
  have hz := hb.size
  rw [h0] at hb hz
  refine ⟨?_, ?_, ((Below.refl _ _).alloc (Nat.le_refl _) _).trans (hb.mono (by omega)), by omega⟩
  · rw [hb.cell (p := ⟨w.heap.size, 0, none⟩) (by simp)]; simp
  · rw [hb.cell (p := ⟨w.heap.size, 1, none⟩) (by simp)]; simp

theorem later_cell {w1 : World} {b o : Nat} {u : Value} (h : w1.cell? ⟨b, o, none⟩ = some u) : ∀ wx, Later w1 wx → wx.cell? ⟨b, o, none⟩ = some u := fun _ hb => cell_old' h hb

theorem faultDN_since (k : Int) (least most : Nat) (plain : Bool) (v : ByteArray) (hk : frmOf k = frm least most plain 60 59) (hm : most ≤ 1000) (hv : v.size ≤ 9223372036854775807) (w1 w : World) (h : Later w1 w) :
    Calls Tryd.prog 40 #[frmOf k, .string v] w fun e w' => e = .returned (.int .i64 (fltE least most dF 0 v.data.toList)) ∧ Later w1 w' := by
  rw [hk]
  refine (faultDN least most plain v w hv 0 0 hm (fun _ _ _ w => (noFault_any v w).mono ?_)).mono ?_
  · rintro e w' ⟨rfl, rfl⟩
    exact ⟨rfl, Below.refl _ _⟩
  · rintro e w' ⟨rfl, hb⟩
    exact ⟨rfl, h.trans (hb.mono h.size)⟩

theorem formOf_since (k : Int) (h0 : 0 ≤ k) (h1 : k ≤ 12) (w1 w : World) (h : Later w1 w) :
    Calls Tryd.prog 39 #[.int .i64 k] w fun e w' => e = .returned (frmOf k) ∧ Later w1 w' :=
  (formOf_any k w h0 h1).mono (by rintro e w' ⟨rfl, hb⟩; exact ⟨rfl, h.trans (hb.mono h.size)⟩)

theorem kfind_range {l : List UInt8} {k : Int} (h : kfind l = some k) : 0 ≤ k ∧ k ≤ 12 := by
  have hm := kfind_mem h
  have : ∀ x ∈ knl, 0 ≤ x.2 ∧ x.2 ≤ 12 := by decide
  exact this _ hm

set_option maxHeartbeats 4000000 in
theorem amount_bad (a v : ByteArray) (w : World) (hkn : HasKn w) (hv : v.size ≤ 9223372036854775807) (h : ¬ AmtOk a.data.toList v.data.toList) :
    Calls Tryd.prog 20 #[.agg #[.string a, .string v]] w fun e w' => e = .returned (.tuple #[.int .i64 0, .int .i64 0, .bool false]) ∧ Below w.heap.size w w' := by
  have hl := len_list v
  have HK : Hid (∀ w, HasKn w → Calls Tryd.prog 38 #[.string a] w fun e w' => e = .returned (kofV a.data.toList) ∧ Below w.heap.size w w') := fun w h => kindOf_any a w h
  have HK1 : Hid (_) := hkn.below ((Below.refl w.heap.size w).alloc (Nat.le_refl _) (.cells #[.string a, .string v] 36))
  clear hkn
  unfold kofV at HK
  cases hf : kfind a.data.toList with
  | none =>
    rw [hf] at HK
    simp only [Option.getD_none, Option.isSome_none] at HK
    clear h hf hl hv
    go_enter Tryd.func20, Tryd.ntmps20
    go_wp2_with fail
    refine (HK.out _ HK1.out).mono ?_
    rintro e w1 ⟨rfl, hb1⟩
    obtain ⟨_, _, hB, _⟩ := box_cells w w1 a v hb1
    clear hb1
    go_wp2_with fail
    go_quiet (fail)
    go_wp2
    go_ret3
    exact ⟨rfl, below_drewN hB nq⟩
  | some k =>
    rw [hf] at HK
    simp only [Option.getD_some, Option.isSome_some] at HK
    have hr := kfind_range hf
    by_cases h67 : k = 6 ∨ k = 7
    · have HF : Hid (∀ w1 w, Later w1 w → Calls Tryd.prog 40 #[frmOf k, .string v] w fun e w' => (∃ q, e = .returned (.int .i64 q) ∧ (q != 0) = true) ∧ Later w1 w') := fun w1 w hw => by
        rcases h67 with rfl | rfl
        · refine (faultDN_since 6 6 6 true v rfl (by omega) hv w1 w hw).mono ?_
          rintro e w' ⟨rfl, hb⟩
          refine ⟨⟨_, rfl, ?_⟩, hb⟩
          simp only [bne_iff_ne, ne_eq]
          intro h0
          have := fltE_zero.1 h0
          exact h ⟨6, hf, .inl ⟨rfl, by omega⟩, this.2.2⟩
        · refine (faultDN_since 7 1 15 false v rfl (by omega) hv w1 w hw).mono ?_
          rintro e w' ⟨rfl, hb⟩
          refine ⟨⟨_, rfl, ?_⟩, hb⟩
          simp only [bne_iff_ne, ne_eq]
          intro h0
          have := fltE_zero.1 h0
          exact h ⟨7, hf, .inr ⟨rfl, this.1, this.2.1⟩, this.2.2⟩
      have HO : Hid (_) := fun w1 w hw => formOf_since k hr.1 hr.2 w1 w hw
      have g1 : ((k != 6) && (k != 7)) = false := by rcases h67 with rfl | rfl <;> rfl
      generalize hfo : frmOf k = fo at HF HO
      clear hfo h hf hr hl hv
      rcases h67 with rfl | rfl
      all_goals
        go_enter Tryd.func20, Tryd.ntmps20
        go_wp2_with fail
        refine (HK.out _ HK1.out).mono ?_
        rintro e w1 ⟨rfl, hb1⟩
        obtain ⟨_, c1, hB, _⟩ := box_cells w w1 a v hb1
        clear hb1
        have cc := later_cell c1
        have s0 : Later w1 w1.drew := (Below.refl _ _).drew
        have s00 : Later w1 w1 := Below.refl _ _
        clear c1
        go_upto_region 2 with fail
        go_cut [30] from 13 to 30 (fun s wx => s = .bool true ∧ Below w1.heap.size w1 wx)
        case first =>
          first | go_region_held (fun wx => Later w1 wx ∧ wx.cell? ⟨w.heap.size, 1, none⟩ = some (.string v)) (exact ⟨by assumption, cc _ (by assumption)⟩) (first
            | (go_at_call 39; refine (HO.out w1 _ (by assumption)).mono ?_; rintro e w2 ⟨rfl, s2⟩)
            | (go_at_call 40; refine (HF.out w1 _ (by assumption)).mono ?_; rintro e w3 ⟨⟨q, rfl, hq⟩, s3⟩)) | fail
          all_goals (go_wp2_with fail; go_meet; exact ⟨rfl, s3⟩)
        case rest =>
          obtain ⟨rfl, hbc⟩ := hcut
          go_wp2
          go_ret3
          exact ⟨rfl, hB.trans (hbc.mono hB.size)⟩
    · have n6 : (k != 6) = true := by simp; omega
      have n7 : (k != 7) = true := by simp; omega
      clear h hf hl hv h67 hr
      go_enter Tryd.func20, Tryd.ntmps20
      go_wp2_with fail
      refine (HK.out _ HK1.out).mono ?_
      rintro e w1 ⟨rfl, hb1⟩
      obtain ⟨_, _, hB, _⟩ := box_cells w w1 a v hb1
      clear hb1
      go_wp2_with fail
      go_quiet (fail)
      go_wp2
      go_ret3
      exact ⟨rfl, below_drewN hB nq⟩

theorem amt_size {a : List UInt8} {k : Int} (h : kfind a = some k) (hk : k = 6 ∨ k = 7) : a.length = 4 := by
  have hm := kfind_mem h
  have : ∀ x ∈ knl, (x.2 = 6 ∨ x.2 = 7) → x.1.length = 4 := by decide
  exact this _ hm hk

theorem nm_one (s : ByteArray) (h : s.size = 4) : nm (s.extract 3 4).data.toList = dv (s[3]'(by omega)) := by
  have hl := len_list s
  have e : (s.extract 3 4).data.toList = [s[3]'(by omega)] := by
    rw [Lib.extract_data, ← byte_list s 3 (by omega)]
    apply List.ext_getElem
    · simp; omega
    · intro i h1 h2
      have : i = 0 := by simp at h2; omega
      subst this
      simp
  rw [e]
  simp [nm]

set_option maxHeartbeats 4000000 in
theorem amount_ok (a v : ByteArray) (w : World) (hkn : HasKn w) (hv : v.size ≤ 9223372036854775807) (h : AmtOk a.data.toList v.data.toList) (h3 : 3 < a.size) :
    Calls Tryd.prog 20 #[.agg #[.string a, .string v]] w fun e w' => e = .returned (.tuple #[.int .i64 (nm v.data.toList : Nat), .int .i64 (dv (a[3]'h3) : Nat), .bool true]) ∧ Below w.heap.size w w' := by
  have hl := len_list v
  have HK : Hid (∀ w, HasKn w → Calls Tryd.prog 38 #[.string a] w fun e w' => e = .returned (kofV a.data.toList) ∧ Below w.heap.size w w') := fun w h => kindOf_any a w h
  have HK1 : Hid (_) := hkn.below ((Below.refl w.heap.size w).alloc (Nat.le_refl _) (.cells #[.string a, .string v] 36))
  clear hkn
  unfold kofV at HK
  obtain ⟨k, hf, hkv, hall⟩ := h
  have h67 : k = 6 ∨ k = 7 := by rcases hkv with h | h; exact .inl h.1; exact .inr h.1
  have ha4 : a.size = 4 := by rw [← len_list]; exact amt_size hf h67
  have hv15 : v.size ≤ 15 := by omega
  rw [hf] at HK
  simp only [Option.getD_some, Option.isSome_some] at HK
  have hr := kfind_range hf
  have HF : Hid (∀ w1 w, Later w1 w → Calls Tryd.prog 40 #[frmOf k, .string v] w fun e w' => e = .returned (.int .i64 0) ∧ Later w1 w') := fun w1 w hw => by
    rcases hkv with ⟨rfl, h6⟩ | ⟨rfl, h6⟩
    · have := faultDN_since 6 6 6 true v rfl (by omega) hv w1 w hw
      rw [fltE_zero.2 ⟨by omega, by omega, hall⟩] at this
      exact this
    · have := faultDN_since 7 1 15 false v rfl (by omega) hv w1 w hw
      rw [fltE_zero.2 ⟨by omega, by omega, hall⟩] at this
      exact this
  have HO : Hid (_) := fun w1 w hw => formOf_since k hr.1 hr.2 w1 w hw
  have HN1 : Hid (∀ w, Calls Tryd.prog 41 #[.string v] w fun e w' => e = .returned (.int .i64 (nm v.data.toList : Nat)) ∧ w' = w) := fun w => number_any v w hv15
  have hx1 : (a.extract 3 4).size ≤ 15 := by rw [← len_list, Lib.extract_data]; simp; omega
  have HN2 : Hid (∀ w, Calls Tryd.prog 41 #[.string (a.extract 3 4)] w fun e w' => e = .returned (.int .i64 (dv (a[3]'h3) : Nat)) ∧ w' = w) := fun w => by
    have := number_any (a.extract 3 4) w hx1
    rw [nm_one a ha4] at this
    exact this
  generalize frmOf k = fo at HF HO
  generalize nm v.data.toList = nv at HN1
  generalize dv (a[3]'h3) = na at HN2
  clear hf hr hl hv hkv hall hx1 h3
  rcases h67 with rfl | rfl
  all_goals
    go_enter Tryd.func20, Tryd.ntmps20
    go_wp2_with fail
    refine (HK.out _ HK1.out).mono ?_
    rintro e w1 ⟨rfl, hb1⟩
    obtain ⟨c0, c1, hB, _⟩ := box_cells w w1 a v hb1
    clear hb1
    have cc := later_cell c1
    have cc0 := later_cell c0
    have s0 : Later w1 w1.drew := (Below.refl _ _).drew
    have s00 : Later w1 w1 := Below.refl _ _
    clear c1 c0
    go_upto_region 2 with fail
    go_cut [30] from 13 to 30 (fun s wx => s = .bool false ∧ Below w1.heap.size w1 wx)
    case first =>
      first | go_region_held (fun wx => Later w1 wx ∧ wx.cell? ⟨w.heap.size, 1, none⟩ = some (.string v)) (exact ⟨by assumption, cc _ (by assumption)⟩) (first
        | (go_at_call 39; refine (HO.out w1 _ (by assumption)).mono ?_; rintro e w2 ⟨rfl, s2⟩)
        | (go_at_call 40; refine (HF.out w1 _ (by assumption)).mono ?_; rintro e w3 ⟨rfl, s3⟩)) | fail
      all_goals (go_wp2_with fail; go_meet; exact ⟨rfl, s3⟩)
    case rest =>
      obtain ⟨rfl, hbc⟩ := hcut
      have d1 := cc wc hbc
      have d0 := cc0 wc hbc
      have hBc := hB.trans (hbc.mono hB.size)
      clear cc cc0 hbc hB s0 s00
      go_wp2_with fail
      go_quiet (first
        | (go_at_call_of 41 (Value.string v); exact Calls.quiet_of_same (HN1.out _))
        | (go_at_call 41; exact Calls.quiet_of_same (HN2.out _)))
      go_wp2
      go_ret3
      exact ⟨rfl, below_drewN hBc nq⟩
end Go.Proofs.YteiacefbjmacbabDoor
