/-
  SheetFirst, over the ten errors that its row lays, and over whatever text Error makes.
-/
import Derived.Test.YtpgpeafmlijfkaaGreatDoorSof
import Derived.Test.YtpgpeafmlijfkaaGreatDoorSkw
import Derived.Test.YtpgpeafmlijfkaaGreatDoorSpf
import Derived.Test.YtpgpeafmlijfkaaGreatDoorSnt
namespace Go.Proofs.YtpgpeafmlijfkaaGreatDoor
open Go.RowKit
set_option maxRecDepth 100000
set_option linter.unusedVariables false
set_option linter.unusedSimpArgs false

/-- the ten variables of reading hold errors of errors.New's make -/
def Sm (A : Nat → Addr) (w : World) : Prop := ∀ c, Cod c → SE w (gSh c) (A c) (tSh c)
theorem Sm.below {A : Nat → Addr} {w w' : World} (h : Sm A w) (hb : Below w.heap.size w w') : Sm A w' := fun c hc => (h c hc).below hb
theorem Sm.he {A : Nat → Addr} {w : World} (h : Sm A w) : HE A w := he_of h
theorem is_at10 (A : Nat → Addr) (f c d : Nat) (x y : Value) (w : World) (h : w.heap[f]? = some (.cells #[x, y, erV A c] 64 (0, 0))) (hA : Sm A w) (hc : Cod c) (hd : Cod d) :
    Calls Tryz.prog 21 #[.iface 59 (.pointer (some ⟨f, 0, none⟩)), .iface 208 (.pointer (some (A d)))] w fun e w' => e = .returned (.bool (decide (c = d))) ∧ w' = w := by
  have hap := apt_of hA
  rw [erV_pos A hc.pos] at h
  refine is_of _ _ _ w _ ?_
  by_cases hcd : c = d
  · subst hcd
    rw [decide_eq_true rfl]
    exact is0_fault_same f (A c) _ _ w h
  · rw [decide_eq_false hcd]
    obtain ⟨ca, ta, ha⟩ := hap.lie c hc
    obtain ⟨cb, tb, hb⟩ := hap.lie d hd
    exact is0_fault_other f (A c) (A d) _ _ ca cb ta tb w h (fun e => hcd (hap.one c d hc hd e)) ha hb
theorem is_ft10 (A : Nat → Addr) (ev : Value) (c d : Nat) (p : Nat × Nat) (w : World) (h : FT A w ev c p) (hA : Sm A w) (hc : c = 0 ∨ Cod c) (hd : Cod d) :
    Calls Tryz.prog 21 #[ev, .iface 208 (.pointer (some (A d)))] w fun e w' => e = .returned (.bool (decide (c = d))) ∧ w' = w := by
  rcases h with ⟨rfl, rfl⟩ | ⟨hne, f, rfl, hf⟩
  · rw [decide_eq_false (fun e => hd.pos e.symm)]
    exact is_nil (A d) w
  · exact is_at10 A f c d _ _ w hf hA (hc.resolve_left hne) hd
/-- a Fault's text is some text, told by its line, its column and its error -/
def ErrC (A : Nat → Addr) (w : World) : Prop := ∃ tx : Nat → Nat → Nat → ByteArray, ∀ (f c x y : Nat) (wx : World), Below w.heap.size w wx → x ≤ 262200 → y ≤ 262200 → wx.heap[f]? = some (.cells #[.int .i64 (x : Int), .int .i64 (y : Int), erV A c] 64 (0, 0)) → Cod c →
  Calls Tryz.prog 28 #[.pointer (some ⟨f, 0, none⟩)] wx fun e w' => e = .returned (.string (tx x y c)) ∧ Below wx.heap.size wx w'
theorem rd_ab : rdA [97, 44, 98, 13, 10] = ([[[97], [98]]], 1, 0, 0) := by decide +kernel
theorem rd_anb : rdA [97, 10, 98] = ([], 0, 3, 1) := by decide +kernel
theorem rck_a : rck 1 [[[97]]] 0 = (0, 0, 0) := by decide +kernel
theorem prt_a : prt [[[97]]] = [97, 13, 10] := by decide +kernel
theorem Rw.one {w : World} {v : Value} (h : Rw w v [[[97], [98]]]) : ∃ g off cap g2 off2 cap2, v = .slice (some ⟨g, off, none⟩) 1 cap ∧ 1 ≤ cap ∧ 2 ≤ cap2 ∧ w.cell? ⟨g, off, none⟩ = some (.slice (some ⟨g2, off2, none⟩) 2 cap2) ∧ w.cell? ⟨g2, off2, none⟩ = some (.string ⟨#[97]⟩) ∧ w.cell? ⟨g2, off2 + 1, none⟩ = some (.string ⟨#[98]⟩) := by
  obtain ⟨g, off, cap, u, e1, hc, c0, t⟩ := h.at 0 (by simp)
  have t' : Tx w u [[97], [98]] := t
  obtain ⟨g2, off2, cap2, e2, hc2, d0⟩ := t'.at 0 (by simp)
  obtain ⟨g3, off3, cap3, e3, hc3, d1⟩ := t'.at 1 (by simp)
  have e4 := e2.symm.trans e3
  injection e4 with e5 e6 e7
  injection e5 with e8
  injection e8 with e9 e10 e11
  subst e9 e10 e7
  subst e2
  exact ⟨g, off, cap, g2, off2, cap2, e1, hc, hc2, by simpa using c0, by simpa using d0, by simpa using d1⟩
theorem Rw.built (w : World) : Rw ((w.alloc (.cells #[.string ⟨#[97]⟩] 9)).alloc (.cells #[.slice (some ⟨w.heap.size, 0, none⟩) 1 1] 28)) (.slice (some ⟨w.heap.size + 1, 0, none⟩) 1 1) [[[97]]] := by
  have h0 := heap_alloc_new w (.cells #[.string ⟨#[97]⟩] 9)
  have h1 := heap_alloc_new (w.alloc (.cells #[.string ⟨#[97]⟩] 9)) (.cells #[.slice (some ⟨w.heap.size, 0, none⟩) 1 1] 28)
  have hz : (w.alloc (.cells #[.string ⟨#[97]⟩] 9)).heap.size = w.heap.size + 1 := by simp
  rw [hz] at h1
  have h2 := (Lib.alloc_old (w.alloc (.cells #[.string ⟨#[97]⟩] 9)) (.cells #[.slice (some ⟨w.heap.size, 0, none⟩) 1 1] 28) w.heap.size (by rw [hz]; omega)).trans h0
  refine ⟨_, 1, rfl, by simp, by omega, fun i hi => ?_⟩
  have hi0 : i = 0 := by simpa using hi
  subst hi0
  refine ⟨w.heap.size + 1, 0, .slice (some ⟨w.heap.size, 0, none⟩) 1 1, rfl, by rw [Lib.cell_of_heap h1]; rfl, ⟨_, 1, rfl, by simp, by omega, fun j hj => ?_⟩⟩
  have hj0 : j = 0 := by simpa using hj
  subst hj0
  exact ⟨w.heap.size, 0, rfl, by rw [Lib.cell_of_heap h2]; rfl⟩
set_option maxHeartbeats 4000000 in
theorem lives10 (A : Nat → Addr) (w : World) (hA : Sm A w) (hT : ErT w) :
    Calls Tryz.prog 17 #[] w fun e w' => e = .returned (.bool true) ∧ Below w.heap.size w w' := by
  have HP1 := hid (parse_any A ⟨#[97, 44, 98, 13, 10]⟩ w hA.he)
  have HA := hid hA
  have HT := hid hT
  have s1 : ((⟨#[97]⟩ : ByteArray).toList == (⟨#[97]⟩ : ByteArray).toList) = true := by simp
  have s2 : ((⟨#[98]⟩ : ByteArray).toList == (⟨#[98]⟩ : ByteArray).toList) = true := by simp
  have s3 : ((⟨#[97, 13, 10]⟩ : ByteArray).toList == (⟨#[97, 13, 10]⟩ : ByteArray).toList) = true := by simp
  clear hA hT
  go_enter Tryz.func17, Tryz.ntmps17
  go_wp2_with fail
  refine Calls.mono HP1.out ?_
  rintro e w1 ⟨rv, ev, rfl, hp1, hb1⟩
  have hl1 : (⟨#[97, 44, 98, 13, 10]⟩ : ByteArray).data.toList = [97, 44, 98, 13, 10] := rfl
  have hp1' : PaR A w1 [97, 44, 98, 13, 10] rv ev := hp1
  unfold PaR at hp1'
  rw [rd_ab] at hp1'
  rcases hp1' with ⟨_, rfl, V, ht⟩ | ⟨hne, _⟩
  · have hr : Rw w1 rv [[[97], [98]]] := ht.rw
    have HR := hid hr
    have HB1 := hid hb1
    obtain ⟨ra, rc, hrv⟩ := hr.form
    subst hrv
    obtain ⟨w2, hw2⟩ : ∃ w2, w2 = ((w1.alloc (.cells #[.string ⟨#[97]⟩] 9)).alloc (.cells #[.slice (some ⟨w1.heap.size, 0, none⟩) 1 1] 28)) := ⟨_, rfl⟩
    have b2 : Below w1.heap.size w1 ((w1.alloc (.cells #[.string ⟨#[97]⟩] 9)).alloc (.cells #[.slice (some ⟨w1.heap.size, 0, none⟩) 1 1] 28)) := ((Below.refl _ _).alloc (Nat.le_refl _) _).alloc (by simp) _
    have hbu := Rw.built w1
    rw [← hw2] at b2 hbu
    have HP2 := hid (print_any A _ _ w2 ((HA.out.below hb1).below b2).he ((HT.out.below hb1).below b2) hbu)
    have HB2 := hid (hb1.trans (b2.mono hb1.size))
    have HR2 := hid (hr.below b2)
    have HW2 := hid hw2
    clear hr ht hb1 b2 hp1 hl1 hw2 hbu
    go_wp2_with fail
    rw [← HW2.out]
    refine Calls.mono HP2.out ?_
    rintro e w3 ⟨sv, ev, rfl, hp2, hb3⟩
    have hq : sv = .string ⟨#[97, 13, 10]⟩ ∧ ev = .nilIface := by
      rcases hp2 with ⟨h0, _⟩ | ⟨_, h1, _⟩ | ⟨_, _, h2, h3⟩
      · exact absurd (show (rck 1 [[[97]]] 0).1 = 0 by rw [rck_a]) h0
      · rw [prt_a] at h1
        exact absurd h1 (by decide)
      · rw [prt_a] at h2
        exact ⟨h2, h3⟩
    obtain ⟨rfl, rfl⟩ := hq
    have HB3 := hid (HB2.out.trans (hb3.mono HB2.out.size))
    have HR3 := hid (HR2.out.below hb3)
    have HP3 := hid (parse_any A ⟨#[97, 10, 98]⟩ w3 (HA.out.below HB3.out).he)
    clear hp2 hb3
    go_wp2_with fail
    refine Calls.mono HP3.out ?_
    rintro e w4 ⟨rv2, ev2, rfl, hp3, hb4⟩
    have hp3' : PaR A w4 [97, 10, 98] rv2 ev2 := hp3
    unfold PaR at hp3'
    rw [rd_anb] at hp3'
    rcases hp3' with ⟨h0, _⟩ | ⟨_, _, rfl, hf⟩
    · exact absurd h0 (by decide)
    · rcases hf with ⟨h0, _⟩ | ⟨_, f, rfl, hf⟩
      · exact absurd h0 (by decide)
      · have HB4 := hid (HB3.out.trans (hb4.mono HB3.out.size))
        have HR4 := HR3.out.below hb4
        obtain ⟨g, off, cap, g2, off2, cap2, e1, hc, hc2, c0, c1, c2⟩ := HR4.one
        have e1' : Value.slice ra 1 rc = Value.slice (some ⟨g, off, none⟩) 1 cap := e1
        injection e1' with e2 _ e3
        subst e2 e3
        have hi := is_at10 A f 3 3 _ _ w4 hf (HA.out.below HB4.out) (by unfold Cod; omega) (by unfold Cod; omega)
        rw [decide_eq_true rfl] at hi
        have HI := hid hi
        have e3 := (HA.out.below HB4.out).he.e3
        clear HR4 e1 hi hf hp3 hb4
        go_wp2_with fail
        refine Calls.mono HI.out ?_
        rintro e w5 ⟨rfl, hw⟩
        replace hw := hw.symm
        subst hw
        go_wp2
        go_ret
        exact ⟨rfl, HB4.out⟩
  · exact absurd rfl hne
set_option maxHeartbeats 8000000 in
theorem first_law (A : Nat → Addr) (s b : ByteArray) (w : World) (hA : Sm A w) (hT : ErT w) (hP : ErrC A w) (hs : s.size ≤ 140737488355328) (hb : b.size ≤ 140737488355328) :
    Calls Tryz.prog 4 #[.string s, .string b] w fun e w' => e = .returned (.bool true) ∧ Below w.heap.size w w' := by
  have HLv := hid (lives10 A w hA hT)
  have HPa := hid (fun (x : ByteArray) wx (h : Below w.heap.size w wx) => parse_any A x wx (hA.below h).he)
  have HIs := hid (fun ev c d p wx (h : Below w.heap.size w wx) (hf : FT A wx ev c p) hc hd => is_ft10 A ev c d p wx hf (hA.below h) hc hd)
  have HE := hid (fun wx (h : Below w.heap.size w wx) => (hA.below h).he)
  obtain ⟨tx, hE⟩ := hP
  have HFe := hid hE
  have HOf := hid (fun f wx (h : f ≤ s.size) => offset_any s f wx hs h)
  have HT := hid (fun wx (h : Below w.heap.size w wx) => hT.below h)
  have hds : s.data.toList.length = s.size := by rw [Array.length_toList]; rfl
  have HDS := hid hds
  clear hA hT hE hds
  go_enter Tryz.func4, Tryz.ntmps4
  go_wp2_with fail
  refine Calls.mono HLv.out ?_
  rintro e w1 ⟨rfl, hb1⟩
  have HB1 := hid hb1
  have HP1 := hid (HPa.out s w1 hb1)
  clear hb1 HLv
  go_wp2_with fail
  refine Calls.mono HP1.out ?_
  rintro e w2 ⟨rv, ev, rfl, hp, hb2⟩
  obtain ⟨ra, rn, rc, rfl⟩ := par_slice hp
  obtain ⟨hft, hcr⟩ := par_ft hp
  have HB2 := hid (HB1.out.trans (hb2.mono HB1.out.size))
  clear hp hb2 HP1 HB1
  rcases hft with ⟨h0, rfl⟩ | ⟨hne, f0, rfl, hf0⟩
  · clear hcr h0
    go_wp2
    go_ret
    exact ⟨rfl, HB2.out⟩
  · obtain ⟨f, hf1, hf2, hfp, hah, hbe⟩ := first_fault s.data.toList hne
    rw [HDS.out] at hf1 hbe
    rw [hfp] at hf0
    have hf0l : f0 < w2.heap.size := (Array.getElem?_eq_some_iff.1 hf0).1
    obtain ⟨c, hc⟩ : ∃ c, c = (clP (fdP s.data.toList)).er := ⟨_, rfl⟩
    rw [← hc] at hne hcr hf0 hah hbe
    have hple := plc_le s.data.toList f
    have HF0 := hid hf0
    have HAh := hid hah
    have HBe := hid hbe
    have b3 : Below w2.heap.size w2 (w2.alloc (.cells #[.pointer none] 59)) := (Below.refl _ _).alloc (Nat.le_refl _) _
    have HS := hid (as_hit ⟨f0, 0, none⟩ ⟨w2.heap.size, 0, none⟩ (.pointer none) (w2.alloc (.cells #[.pointer none] 59)) (HT.out _ (HB2.out.trans (b3.mono HB2.out.size))) (by simp) (by simp))
    have hfI : (f : Int) ≤ (s.size : Int) := by omega
    have hf0I : ¬ (f : Int) < 0 := by omega
    have hOf := fun wx => HOf.out f wx hf1
    clear hfp hc hf0 hah hbe b3 HOf
    obtain ⟨⟨px, py⟩, hpp⟩ : ∃ p, p = plc s.data.toList f := ⟨_, rfl⟩
    rw [← hpp] at hOf hple HF0 HBe
    simp only [] at hOf hple HF0 HBe
    have HOf := hid hOf
    clear hpp hOf
    go_wp2_with fail
    refine Calls.mono HS.out ?_
    rintro e w3 ⟨rfl, hw3⟩
    have kB : Below w2.heap.size w2 w3 := by
      rw [hw3]
      exact ((((((Below.refl w2.heap.size w2).alloc (Nat.le_refl _) _).alloc (by simp) _).alloc (by simp; omega) _).alloc (by simp; omega) _).alloc (by simp; omega) _).setCell (p := ⟨w2.heap.size, 0, none⟩) (Nat.le_refl _) _
    have c1 : w3.cell? ⟨w2.heap.size, 0, none⟩ = some (.pointer (some ⟨f0, 0, none⟩)) := by
      rw [hw3]
      exact World.cell?_setCell_same _ _ _ (cellA (cellA (cellA (cellA (show (w2.alloc (.cells #[.pointer none] 59)).cell? ⟨w2.heap.size, 0, none⟩ = some (.pointer none) by simp) _) _) _) _)
    have hf3 := (kB.block f0 hf0l).trans HF0.out
    have d0 : w3.cell? ⟨f0, 0, none⟩ = some (.int .i64 (px : Int)) := Lib.cell_of_heap hf3 0
    have d1 : w3.cell? ⟨f0, 1, none⟩ = some (.int .i64 (py : Int)) := Lib.cell_of_heap hf3 1
    have HB3 := hid (HB2.out.trans (kB.mono HB2.out.size))
    have HF3 := hid hf3
    have hf3l : f0 < w3.heap.size := (Array.getElem?_eq_some_iff.1 hf3).1
    clear hw3 kB hf3 HF0 HB2 HS hf0l
    go_wp2_with fail
    go_quiet (first | (go_at_call 20; exact Calls.quiet_of_same (HOf.out _)))
    have BQ := below_drewN HB3.out nq
    have hf4 : (w3.drewN nq).heap[f0]? = some (.cells #[.int .i64 (px : Int), .int .i64 (py : Int), erV A c] 64 (0, 0)) := by rw [drewN_heap]; exact HF3.out
    generalize w3.drewN nq = w4 at *
    have HB4 := hid BQ
    have HF4 := hid hf4
    have hf4l : f0 < w4.heap.size := (Array.getElem?_eq_some_iff.1 hf4).1
    have kS := pslice s f hf1
    obtain ⟨X, hX⟩ : ∃ X, X = s.extract 0 f := ⟨_, rfl⟩
    have hXl : X.data.toList = s.data.toList.take f := by rw [hX]; exact ext0 s f
    rw [← hX] at kS
    have HP5 := hid (HPa.out X w4 BQ)
    have HXl := hid hXl
    clear BQ hf4 hX hXl HB3 HF3 c1 d0 d1 hf3l
    go_wp2_with fail
    refine Calls.mono HP5.out ?_
    rintro e w5 ⟨rv5, ev5, rfl, hp5, hb5⟩
    obtain ⟨ra5, rn5, rc5, rfl⟩ := par_slice hp5
    obtain ⟨hft5, hcr5⟩ := par_ft hp5
    rw [HXl.out] at hft5 hcr5
    obtain ⟨c5, hc5⟩ : ∃ c5, c5 = (clP (fdP (s.data.toList.take f))).er := ⟨_, rfl⟩
    have hah := HAh.out
    rw [← hc5] at hft5 hcr5 hah
    generalize (clP (fdP (s.data.toList.take f))).fp = p5 at hft5
    have HB5 := hid (HB4.out.trans (hb5.mono HB4.out.size))
    have hf5 := (hb5.block f0 hf4l).trans HF4.out
    have hf5l : f0 < w5.heap.size := (Array.getElem?_eq_some_iff.1 hf5).1
    have HF5 := hid hf5
    have hftE : FT A w5 (.iface 59 (.pointer (some ⟨f0, 0, none⟩))) c (px, py) := .inr ⟨hne, f0, rfl, hf5⟩
    have he := HE.out w5 HB5.out
    have e1 := he.e1
    have e3 := he.e3
    have e8 := he.e8
    have e20 := he.e20
    have IE := hid (fun d hd => HIs.out (.iface 59 (.pointer (some ⟨f0, 0, none⟩))) c d (px, py) w5 HB5.out hftE (by unfold Cod; omega) hd)
    have IF := hid (fun d hd => HIs.out ev5 c5 d p5 w5 HB5.out hft5 (by unfold Cod; omega) hd)
    have hev5 : (c5 = 0 ∧ ev5 = .nilIface) ∨ (c5 ≠ 0 ∧ ∃ q, ev5 = .iface 59 (.pointer (some ⟨q, 0, none⟩))) := by
      rcases hft5 with ⟨a, b⟩ | ⟨a, q, b, _⟩
      · exact .inl ⟨a, b⟩
      · exact .inr ⟨a, q, b⟩
    have HEv := hid hev5
    clear hp5 hb5 hc5 hft5 hcr5 HAh HF4 HB4 hftE he hf5 HXl HP5 hf4l hev5
    -- the bytes ahead of the fault
    have key : ∀ (Q : Prop), (∀ b1 b2 : Bool, Q) → Q := fun Q h => h true true
    have hcases : (c5 = 0 ∧ ev5 = .nilIface) ∨ ((c5 = 1 ∨ c5 = 8 ∨ (c = 20 ∧ c5 = 3)) ∧ ∃ q, ev5 = .iface 59 (.pointer (some ⟨q, 0, none⟩))) := by
      rcases HEv.out with h | ⟨h, q, e⟩
      · exact .inl h
      · exact .inr ⟨by omega, q, e⟩
    clear key HEv hah
    go_upto_region 13 with fail
    go_cut [11] from 48 to 55 (fun v wx => v = .bool (decide (c = 20 ∧ c5 = 3)) ∧ wx = w5)
    case first =>
      by_cases h20 : c = 20
      · have I1 := hid (IE.out 20 (by unfold Cod; omega))
        rw [decide_eq_true h20] at I1
        have I2 := hid (IF.out 3 (by unfold Cod; omega))
        rw [show decide (c5 = 3) = decide (c = 20 ∧ c5 = 3) from by simp [h20]] at I2
        generalize decide (c = 20 ∧ c5 = 3) = hv at *
        clear h20 hcases
        go_wp2_with fail
        refine Calls.mono I1.out ?_
        rintro e wa ⟨rfl, hw⟩
        replace hw := hw.symm
        subst hw
        go_wp2_with fail
        refine Calls.mono I2.out ?_
        rintro e wa ⟨rfl, hw⟩
        replace hw := hw.symm
        subst hw
        go_wp2_with fail
        go_meet
        exact ⟨rfl, rfl⟩
      · have I1 := hid (IE.out 20 (by unfold Cod; omega))
        rw [decide_eq_false h20] at I1
        have HV := hid (show decide (c = 20 ∧ c5 = 3) = false from decide_eq_false (fun h => h20 h.1))
        clear h20 hcases
        go_wp2_with fail
        refine Calls.mono I1.out ?_
        rintro e wa ⟨rfl, hw⟩
        replace hw := hw.symm
        subst hw
        go_wp2_with fail
        go_meet
        exact ⟨congrArg _ HV.out.symm, rfl⟩
    case rest =>
    obtain ⟨rfl, hwc⟩ := hcut
    replace hwc := hwc.symm
    subst hwc
    go_upto_region 14 with fail
    go_cut [11, 73] from 56 to 73 (fun u v wx => v = .bool false ∧ wx = w5)
    case first =>
      rcases hcases with ⟨h0, rfl⟩ | ⟨h1 | h8 | ⟨h20, h3⟩, q, rfl⟩
      · generalize decide (c = 20 ∧ c5 = 3) = hv at *
        clear h0
        go_wp2_with fail
        go_meet
        exact ⟨rfl, rfl⟩
      · have I1 := hid (IF.out 1 (by unfold Cod; omega))
        rw [decide_eq_true h1] at I1
        generalize decide (c = 20 ∧ c5 = 3) = hv at *
        clear h1
        go_wp2_with fail
        refine Calls.mono I1.out ?_
        rintro e wa ⟨rfl, hw⟩
        replace hw := hw.symm
        subst hw
        go_wp2_with fail
        go_meet
        exact ⟨rfl, rfl⟩
      · have I1 := hid (IF.out 1 (by unfold Cod; omega))
        rw [decide_eq_false (show ¬ c5 = 1 by omega)] at I1
        have I2 := hid (IF.out 8 (by unfold Cod; omega))
        rw [decide_eq_true h8] at I2
        generalize decide (c = 20 ∧ c5 = 3) = hv at *
        clear h8
        go_wp2_with fail
        refine Calls.mono I1.out ?_
        rintro e wa ⟨rfl, hw⟩
        replace hw := hw.symm
        subst hw
        go_wp2_with fail
        refine Calls.mono I2.out ?_
        rintro e wa ⟨rfl, hw⟩
        replace hw := hw.symm
        subst hw
        go_wp2_with fail
        go_meet
        exact ⟨rfl, rfl⟩
      · have I1 := hid (IF.out 1 (by unfold Cod; omega))
        rw [decide_eq_false (show ¬ c5 = 1 by omega)] at I1
        have I2 := hid (IF.out 8 (by unfold Cod; omega))
        rw [decide_eq_false (show ¬ c5 = 8 by omega)] at I2
        rw [decide_eq_true (show c = 20 ∧ c5 = 3 from ⟨h20, h3⟩)]
        clear h20 h3
        go_wp2_with fail
        refine Calls.mono I1.out ?_
        rintro e wa ⟨rfl, hw⟩
        replace hw := hw.symm
        subst hw
        go_wp2_with fail
        refine Calls.mono I2.out ?_
        rintro e wa ⟨rfl, hw⟩
        replace hw := hw.symm
        subst hw
        go_wp2_with fail
        go_meet
        exact ⟨rfl, rfl⟩
    case rest =>
    obtain ⟨rfl, hwc⟩ := hcut
    replace hwc := hwc.symm
    subst hwc
    clear hcases IF
    generalize decide (c = 20 ∧ c5 = 3) = hv at *
    by_cases h1 : c = 1
    · have I1 := hid (IE.out 1 (by unfold Cod; omega))
      rw [decide_eq_true h1] at I1
      clear h1
      go_wp2_with fail
      refine Calls.mono I1.out ?_
      rintro e wa ⟨rfl, hw⟩
      replace hw := hw.symm
      subst hw
      go_wp2
      go_ret
      exact ⟨rfl, HB5.out⟩
    · have I1 := hid (IE.out 1 (by unfold Cod; omega))
      rw [decide_eq_false h1] at I1
      by_cases h8 : c = 8
      · have I2 := hid (IE.out 8 (by unfold Cod; omega))
        rw [decide_eq_true h8] at I2
        clear h1 h8
        go_wp2_with fail
        refine Calls.mono I1.out ?_
        rintro e wa ⟨rfl, hw⟩
        replace hw := hw.symm
        subst hw
        go_wp2_with fail
        refine Calls.mono I2.out ?_
        rintro e wa ⟨rfl, hw⟩
        replace hw := hw.symm
        subst hw
        go_wp2
        go_ret
        exact ⟨rfl, HB5.out⟩
      · have I2 := hid (IE.out 8 (by unfold Cod; omega))
        rw [decide_eq_false h8] at I2
        by_cases h3 : c = 3
        · have I3 := hid (IE.out 3 (by unfold Cod; omega))
          rw [decide_eq_true h3] at I3
          clear h1 h8 h3
          go_wp2_with fail
          refine Calls.mono I1.out ?_
          rintro e wa ⟨rfl, hw⟩
          replace hw := hw.symm
          subst hw
          go_wp2_with fail
          refine Calls.mono I2.out ?_
          rintro e wa ⟨rfl, hw⟩
          replace hw := hw.symm
          subst hw
          go_wp2_with fail
          refine Calls.mono I3.out ?_
          rintro e wa ⟨rfl, hw⟩
          replace hw := hw.symm
          subst hw
          go_wp2
          go_ret
          exact ⟨rfl, HB5.out⟩
        · have I3 := hid (IE.out 3 (by unfold Cod; omega))
          rw [decide_eq_false h3] at I3
          obtain ⟨hfl, hmore⟩ : f < s.size ∧ ∀ B, (clP (fdP (s.data.toList.take (f + 1) ++ B))).er = c ∧ (clP (fdP (s.data.toList.take (f + 1) ++ B))).fp = (px, py) := by
            rcases HBe.out with h | h | h | ⟨h, _, _, _, h'⟩
            · exact absurd h h1
            · exact absurd h h3
            · exact absurd h h8
            · exact ⟨h, h'⟩
          have hflI : (f : Int) < (s.size : Int) := by omega
          have hflN : ¬ (s.size : Int) ≤ (f : Int) := by omega
          have hfl1 : (f : Int) + 1 ≤ (s.size : Int) := by omega
          have kY := pslice s (f + 1) (by omega)
          rw [show ((f + 1 : Nat) : Int) = (f : Int) + 1 by omega] at kY
          obtain ⟨Y, hY⟩ : ∃ Y, Y = s.extract 0 (f + 1) := ⟨_, rfl⟩
          have hYl : Y.data.toList = s.data.toList.take (f + 1) := by rw [hY]; exact ext0 s (f + 1)
          have hYs : Y.size ≤ s.size := by
            have : Y.data.toList.length ≤ s.data.toList.length := by rw [hYl]; simp; omega
            rw [Array.length_toList, Array.length_toList] at this
            exact this
          rw [← hY] at kY
          have hj : ¬ 9223372036854775807 < Y.size + b.size := by omega
          have hZl : (Y ++ b).data.toList = s.data.toList.take (f + 1) ++ b.data.toList := by rw [ByteArray.data_append, Array.toList_append, hYl]
          obtain ⟨m1, m2⟩ := hmore b.data.toList
          rw [← hZl] at m1 m2
          have HM := hid (And.intro m1 m2)
          have HP6 := hid (HPa.out (Y ++ b) w5 HB5.out)
          have H1 := hid (show Cod c by unfold Cod; omega)
          clear h1 h8 h3 hmore hYl hYs hY hZl m1 m2 HBe
          generalize hq : Y ++ b = Z at *
          have HQ := hid hq
          clear hq
          go_wp2_with fail
          refine Calls.mono I1.out ?_
          rintro e wa ⟨rfl, hw⟩
          replace hw := hw.symm
          subst hw
          go_wp2_with fail
          refine Calls.mono I2.out ?_
          rintro e wa ⟨rfl, hw⟩
          replace hw := hw.symm
          subst hw
          go_wp2_with fail
          refine Calls.mono I3.out ?_
          rintro e wa ⟨rfl, hw⟩
          replace hw := hw.symm
          subst hw
          go_wp2_with fail
          try rw [HQ.out]
          refine Calls.mono HP6.out ?_
          rintro e w6 ⟨rv6, ev6, rfl, hp6, hb6⟩
          obtain ⟨ra6, rn6, rc6, rfl⟩ := par_slice hp6
          obtain ⟨hft6, _⟩ := par_ft hp6
          rw [HM.out.1, HM.out.2] at hft6
          rcases hft6 with ⟨h0, _⟩ | ⟨_, f6, rfl, hf6⟩
          · exact absurd h0 (H1.out.pos)
          · have HB6 := hid (HB5.out.trans (hb6.mono HB5.out.size))
            have HE6 := hid (HFe.out f6 c px py w6 HB6.out (by omega) (by omega) hf6 H1.out)
            have HF6 := hid ((hb6.block f0 hf5l).trans HF5.out)
            have hf6l : f0 < w6.heap.size := Nat.lt_of_lt_of_le hf5l hb6.size
            clear hp6 hf6 hb6
            go_wp2_with fail
            refine Calls.mono HE6.out ?_
            rintro e w7 ⟨rfl, hb7⟩
            have HB7 := hid (HB6.out.trans (hb7.mono HB6.out.size))
            have HE7 := hid (HFe.out f0 c px py w7 HB7.out (by omega) (by omega) ((hb7.block f0 hf6l).trans HF6.out) H1.out)
            clear hb7
            generalize tx px py c = txv at *
            have hsame : (txv.toList == txv.toList) = true := by simp
            go_wp2_with fail
            refine Calls.mono HE7.out ?_
            rintro e w8 ⟨rfl, hb8⟩
            have HB8 := hid (HB7.out.trans (hb8.mono HB7.out.size))
            clear hb8
            go_wp2
            go_ret
            exact ⟨rfl, HB8.out⟩
end Go.Proofs.YtpgpeafmlijfkaaGreatDoor
