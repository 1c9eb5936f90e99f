/-
  An element of a scanned string: element.
-/
import Derived.Test.YtpplkoilpblpkaaDoorSc
import Derived.Test.YtpplkoilpblpkaaDoorClash
import Derived.Deep.RegionHeld3
import Derived.Deep.AppendLies
import Derived.Deep.RegionLaw
import Derived.Deep.CutRange
import Derived.Deep.DrawnRows
namespace Go.Proofs.YtpplkoilpblpkaaDoor
open Go.RowKit
set_option maxRecDepth 100000

theorem ve_err {lo hi : Nat} {P : UInt8 → Int} : ∀ {l : List UInt8} {n m : Nat} {e : Int}, ve lo hi P l n = .inl (e, m) → e ≠ 0 := by
  intro l
  induction l with
  | nil =>
    intro n m e h
    rw [ve] at h
    split at h
    · cases h; decide
    · cases h
  | cons c t ih =>
    intro n m e h
    by_cases hc : c = 29
    · subst hc
      rw [ve, if_pos rfl] at h
      split at h
      · cases h; decide
      · cases h
    · rw [ve_cons _ _ _ _ _ _ hc] at h
      split at h
      · cases h; decide
      · split at h
        · rename_i hp; cases h; exact hp
        · exact ih h
theorem vp_err : ∀ {r : Nat} {l : List UInt8} {n m : Nat} {e : Int}, vp r l n = .inl (e, m) → e ≠ 0 := by
  intro r
  induction r with
  | zero => intro l n m e h; cases h
  | succ r ih =>
    intro l n m e h
    cases l with
    | nil => cases h; decide
    | cons c t =>
      rw [vp] at h
      split at h
      · exact ih h
      · cases h; decide
theorem vend_err {k : Int} {l : List UInt8} {n : Nat} {e : Int} (h : vend k l = .inl (e, n)) : e ≠ 0 := by
  unfold vend at h
  split at h
  · exact vp_err h
  · exact ve_err h
theorem ahE_two (l : List UInt8) : ahE l 39 = 3 ∨ ahE l 39 = 23 := by
  unfold ahE
  split
  · exact .inl rfl
  · exact .inr rfl
theorem own_apart {w : World} {base : Nat} {lv gv : Value} {L : List El} {G : List Nat} (h : OE w base lv L) (h' : OG w base gv G) : ∀ k, lv.ownBlock = some k → gv.ownBlock ≠ some k := by
  intro k hk hk'
  rcases h.2 with ⟨rfl, _⟩ | ⟨g, cap, cur, rfl, _, hg, _⟩
  · simp [Value.ownBlock] at hk
  · rcases h'.2 with ⟨rfl, _⟩ | ⟨g', cap', cur', rfl, _, hg', _⟩
    · simp [Value.ownBlock] at hk'
    · have e1 : g = k := by simpa [Value.ownBlock] using hk
      have e2 : g' = k := by simpa [Value.ownBlock] using hk'
      subst e1
      subst e2
      rw [hg] at hg'
      exact absurd hg' (by simp)
/-- a known in its block -/
def KW (w : World) (b : Nat) (a : ByteArray) (k : Int) : Prop := w.heap[b]? = some (.cells #[.string a, .int .i64 k] 86 (0, 0))
theorem KW.facts {w : World} {b : Nat} {a : ByteArray} {k : Int} (h : KW w b a k) : w.cell? ⟨b, 0, none⟩ = some (.string a) ∧ w.cell? ⟨b, 1, none⟩ = some (.int .i64 k) ∧ b < w.heap.size :=
  ⟨by rw [Lib.cell_of_heap h]; rfl, by rw [Lib.cell_of_heap h]; rfl, (Array.getElem?_eq_some_iff.1 h).1⟩
theorem KW.later {w w' : World} {b : Nat} {a : ByteArray} {k : Int} (h : KW w b a k) (hb : Below w.heap.size w w') : KW w' b a k := (hb.block b h.facts.2.2).trans h
/-- a form in its block -/
def FW (w : World) (b lo hi : Nat) (pl : Bool) (f g : Nat) : Prop := w.heap[b]? = some (.cells #[.int .i64 (lo : Int), .int .i64 (hi : Int), .bool pl, .func (.func f) #[] #[], .func (.func g) #[] #[]] 79 (0, 0))
theorem FW.facts {w : World} {b lo hi f g : Nat} {pl : Bool} (h : FW w b lo hi pl f g) : w.cell? ⟨b, 0, none⟩ = some (.int .i64 (lo : Int)) ∧ w.cell? ⟨b, 1, none⟩ = some (.int .i64 (hi : Int)) ∧ w.cell? ⟨b, 2, none⟩ = some (.bool pl) ∧ w.cell? ⟨b, 3, none⟩ = some (.func (.func f) #[] #[]) ∧ w.cell? ⟨b, 4, none⟩ = some (.func (.func g) #[] #[]) ∧ b < w.heap.size :=
  ⟨by rw [Lib.cell_of_heap h]; rfl, by rw [Lib.cell_of_heap h]; rfl, by rw [Lib.cell_of_heap h]; rfl, by rw [Lib.cell_of_heap h]; rfl, by rw [Lib.cell_of_heap h]; rfl, (Array.getElem?_eq_some_iff.1 h).1⟩
theorem FW.later {w w' : World} {b lo hi f g : Nat} {pl : Bool} (h : FW w b lo hi pl f g) (hb : Below w.heap.size w w') : FW w' b lo hi pl f g := (hb.block b h.facts.2.2.2.2.2).trans h

theorem gb_of {w w' : World} {row : Option Nat} (h : Below w.heap.size w w') : w.grownBy w' row := ⟨h.os, h.tape, h.output, h.size, fun k hk _ => h.block k hk⟩
theorem gb_trans {a c d : World} {row : Option Nat} (h : a.grownBy c row) (h' : c.grownBy d row) : a.grownBy d row := ⟨h'.os.trans h.os, h'.tape.trans h.tape, h'.output.trans h.output, Nat.le_trans h.size h'.size, fun k hk hn => (h'.block k (Nat.lt_of_lt_of_le hk h.size) hn).trans (h.block k hk hn)⟩
theorem gb_alloc (w : World) (o : Obj) (row : Option Nat) : w.grownBy (w.alloc o) row := gb_of ((Below.refl _ _).alloc (Nat.le_refl _) _)
theorem intinfo : (Tryd.prog.info? 3).map (fun i => (i.zero, i.size, i.bytes)) = some (some (.int .i64 0), 1, 8) := by kernel_rfl
theorem FW.set {w : World} {b lo hi f g c j : Nat} {pl : Bool} (h : FW w b lo hi pl f g) (hne : b ≠ c) (u : Value) : FW (w.setCell ⟨c, j, none⟩ u) b lo hi pl f g := (Below.heap_setCell _ _ _ _ hne).trans h

/-- what element answers -/
def ElA (b p : Nat) (s : ByteArray) (L : List El) (G : List Nat) (w : World) (e : Ending) (w' : World) : Prop :=
  (∃ en n, e = .returned (.tuple #[.int .i64 en, .int .i64 n]) ∧ ((en ≠ 0 ∧ psp s.data.toList L p = .inl (en, n)) ∨ (en = 0 ∧ ∃ a x q lv gv, psp s.data.toList L p = .inr (a.data.toList, x.data.toList, q) ∧ SB w' b s q lv gv ∧ OE w' (b + 1) lv (L ++ [(a, x)]) ∧ OG w' (b + 1) gv (G ++ [p])))) ∧ Below b w w'

set_option maxHeartbeats 8000000 in
theorem element_any (b p : Nat) (s : ByteArray) (lv gv : Value) (L : List El) (G : List Nat) (w : World) (hkn : HasKn w) (hs : s.size ≤ 512) (hp : p < s.size) (hL : L.length ≤ 512) (hG : G.length ≤ 512)
    (h : SB w b s p lv gv) (hO : OE w (b + 1) lv L) (hN : OG w (b + 1) gv G) :
    Calls Tryd.prog 21 #[.pointer (some ⟨b, 0, none⟩)] w fun e w' => ElA b p s L G w e w' := by
  have hl := len_list s
  have HA := hid (ahead_any (s.extract p s.size) w hkn)
  rw [ext_end] at HA
  unfold ahV at HA
  have hsub := fun w => run_subN s p (by omega) w
  have S0 := hid h
  have O0 := hid hO
  have N0 := hid hN
  have LV := hid (fun k hk => World.ownsRow.lt hO k hk)
  have GV := hid (fun k hk => World.ownsRow.lt hN k hk)
  obtain ⟨c0, c1, _, _, hbw⟩ := h.facts
  clear h hO hN hkn
  cases hk : ahK (s.data.toList.drop p) with
  | none =>
    rw [hk] at HA
    simp only at HA
    have HPS := hid (psp_none (L := L) hk)
    have h23 := ahE_two (s.data.toList.drop p)
    obtain ⟨ee, hee⟩ : ∃ ee, ahE (s.data.toList.drop p) 39 = ee := ⟨_, rfl⟩
    rw [hee] at HA HPS h23
    clear hk hee
    go_enter Tryd.func21, Tryd.ntmps21
    go_wp2_with fail
    refine HA.out.mono ?_
    rintro e w1 ⟨rfl, b1⟩
    have S1 := hid (S0.out.later b1)
    have bW := (Below.refl w1.heap.size w1).alloc (Nat.le_refl _) (.cells #[.string ⟨#[]⟩, .int .i64 0] 86)
    have B2 := hid ((b1.trans (bW.mono b1.size)).mono (Nat.le_of_lt hbw))
    obtain ⟨d0, _, _, _, hb1⟩ := S1.out.facts
    have e0 := below_cells bW _ _ d0
    clear c0 c1 b1 bW HA
    rcases h23 with rfl | rfl
    · rw [if_pos rfl, hl] at HPS
      go_wp2_with fail
      go_quiet (fail)
      have B3 := hid (B2.out.trans (below_drewN (Below.refl b _) nq))
      go_wp2
      go_ret2
      exact ⟨⟨_, _, rfl, .inl ⟨by decide, HPS.out⟩⟩, B3.out⟩
    · rw [if_neg (by decide)] at HPS
      go_wp2
      go_ret2
      exact ⟨⟨_, _, rfl, .inl ⟨by decide, HPS.out⟩⟩, B2.out⟩
  | some ak =>
    obtain ⟨a, k⟩ := ak
    rw [hk] at HA
    simp only at HA
    obtain ⟨a2, a4, k0, k12, hpa⟩ := ahK_len hk
    have hpa := hpa (by omega)
    rw [hl] at hpa
    have HPC := hid (fun hc => psp_clash (L := L) hk hc)
    have HPE := hid (fun n e hc hv => psp_end (L := L) (n := n) (e := e) hk hc hv)
    have HPW := hid (fun n hc hv hw => psp_whole (L := L) (n := n) hk hc hv hw)
    have HPG := hid (fun n hc hv hw => psp_go (L := L) (n := n) hk hc hv hw)
    clear hk
    obtain ⟨A, hA⟩ : ∃ A : ByteArray, (⟨a.toArray⟩ : ByteArray) = A := ⟨_, rfl⟩
    have hAa : A.data.toList = a := by rw [← hA]
    rw [hA] at HA
    have hAs : A.size = a.length := by rw [← len_list, hAa]
    clear hA
    have HC := hid (fun wx (h : RE wx lv L) => clash_any lv L A wx h (by omega))
    rw [hAa] at HC
    have HAa := hid hAa
    clear hAa
    obtain ⟨cl, hcl⟩ : ∃ cl, clE L a = cl := ⟨_, rfl⟩
    rw [hcl] at HC HPC HPE HPW HPG
    clear hcl
    go_enter Tryd.func21, Tryd.ntmps21
    go_wp2_with fail
    refine HA.out.mono ?_
    rintro e w1 ⟨rfl, b1⟩
    have S1 := hid (S0.out.later b1)
    have O1 := hid (O0.out.later b1)
    have N1 := hid (N0.out.later b1)
    obtain ⟨W, hW⟩ : ∃ W, w1.alloc (.cells #[.string A, .int .i64 k] 86) = W := ⟨_, rfl⟩
    have bW : Below w1.heap.size w1 W := hW ▸ (Below.refl _ _).alloc (Nat.le_refl _) _
    have hB2 := b1.trans (bW.mono b1.size)
    have B2 := hid hB2
    have K2 := hid (show KW W w1.heap.size A k from hW ▸ heap_alloc_new _ _)
    have S2 := hid (S1.out.later bW)
    have O2 := hid (O1.out.later bW)
    have N2 := hid (N1.out.later bW)
    have hkb : w.heap.size ≤ w1.heap.size := b1.size
    obtain ⟨d0, d1, d2, _, _⟩ := S2.out.facts
    obtain ⟨q0, q1, hq⟩ := K2.out.facts
    clear c0 c1 b1 bW HA S1 O1 N1 S0 O0 N0 hB2
    have CC := hid (fun wx (h : LaterB W wx) => And.intro (below_cells h _ _ d2) (below_cells h _ _ q0))
    have sd : LaterB W W.drew := (Below.refl _ _).drew
    have BD := hid (O2.out.later sd).reads
    go_wp2_with fail
    clear hW
    generalize w1.heap.size = kb at *
    first | go_region_held3 (fun wx => wx.cell? ⟨b, 2, none⟩ = some lv ∧ wx.cell? ⟨kb, 0, none⟩ = some (.string A)) (first | exact CC.out _ (by assumption) | go_keep) (first
      | (go_at_call 29; refine (HC.out _ BD.out).mono ?_; rintro e w2 ⟨rfl, hb2⟩; have s2 : LaterB W w2 := Below.trans sd hb2)) | fail
    have S3 := hid (S2.out.later s2)
    have O3 := hid (O2.out.later s2)
    have N3 := hid (N2.out.later s2)
    have K3 := hid (K2.out.later s2)
    have B3 := hid (B2.out.trans (Below.mono s2 B2.out.size))
    clear CC sd BD HC s2 S2 O2 N2 K2 B2 d0 d1 d2 q0 q1 hq
    by_cases h0 : cl = 0
    · subst h0
      have HF := hid (fun w => formOf_any k w k0 k12)
      rw [frmOf_is k k0 k12] at HF
      have hfr : p + a.length ≤ s.size := hpa
      have HV := hid (fun wx c => valueEnd_any b s (p + a.length) k wx k0 k12 (by omega) hfr c)
      rw [frmOf_is k k0 k12] at HV
      have HG := hid (gK_enters k)
      have HWh := hid (fun v w => whole_any k v w)
      obtain ⟨lo, hlo⟩ : ∃ lo, loK k = lo := ⟨_, rfl⟩
      obtain ⟨hi, hhi⟩ : ∃ hi, hiK k = hi := ⟨_, rfl⟩
      obtain ⟨ff, hff⟩ : ∃ ff, fK k = ff := ⟨_, rfl⟩
      obtain ⟨gg, hgg⟩ : ∃ gg, gK k = gg := ⟨_, rfl⟩
      obtain ⟨pl, hpl⟩ : ∃ pl, plK k = pl := ⟨_, rfl⟩
      have hi90 : hi ≤ 90 := by rw [← hhi]; exact hiK_le k
      have HVO := hid (fun m l h => vend_ok (k := k) (m := m) (l := l) h)
      have HVE := hid (fun n l e h => vend_err (k := k) (n := n) (l := l) (e := e) h)
      rw [hlo, hhi, hff, hgg, hpl] at HF HV
      rw [hgg] at HG HWh
      rw [hhi] at HVO
      rw [hpl] at HPG
      unfold frm at HF HV
      obtain ⟨fr, hfre⟩ : ∃ fr, p + a.length = fr := ⟨_, rfl⟩
      rw [hfre] at HV hfr HPE HPW HPG
      have hfi : (p : Int) + (A.size : Int) = (fr : Int) := by omega
      have hpf : p + 2 ≤ fr := by omega
      clear hlo hhi hff hgg hpl hfre HPC hpa hAs
      obtain ⟨q0, q1, hq⟩ := K3.out.facts
      go_wp2_with fail
      refine (HF.out _).mono ?_
      rintro e w3 ⟨rfl, b3⟩
      have S4 := hid (S3.out.later b3)
      have O4 := hid (O3.out.later b3)
      have N4 := hid (N3.out.later b3)
      have K4 := hid (K3.out.later b3)
      have B4 := hid (B3.out.trans (b3.mono B3.out.size))
      obtain ⟨W, hW⟩ : ∃ W, w3.alloc (.cells #[.int .i64 (lo : Int), .int .i64 (hi : Int), .bool pl, .func (.func ff) #[] #[], .func (.func gg) #[] #[]] 79) = W := ⟨_, rfl⟩
      have bW : Below w3.heap.size w3 W := hW ▸ (Below.refl _ _).alloc (Nat.le_refl _) _
      have F5 := hid (show FW W w3.heap.size lo hi pl ff gg from hW ▸ heap_alloc_new _ _)
      have S5 := hid (S4.out.later bW)
      have O5 := hid (O4.out.later bW)
      have N5 := hid (N4.out.later bW)
      have K5 := hid (K4.out.later bW)
      have B5 := hid (B4.out.trans (bW.mono B4.out.size))
      have hfb : w.heap.size ≤ w3.heap.size := B4.out.size
      clear HF b3 bW S3 S4 O3 O4 N3 N4 K3 K4 B3 B4 q0 q1 hq
      obtain ⟨f0, f1, f2, f3, f4, hf⟩ := F5.out.facts
      obtain ⟨q0, q1, hq⟩ := K5.out.facts
      have HV2 := hid (HV.out W S5.out.facts.1)
      clear HV
      go_wp2_with fail
      clear hW
      generalize w3.heap.size = fb at *
      refine HV2.out.mono ?_
      rintro e w4 ⟨rfl, b4⟩
      have S6 := hid (S5.out.later b4)
      have O6 := hid (O5.out.later b4)
      have N6 := hid (N5.out.later b4)
      have K6 := hid (K5.out.later b4)
      have F6 := hid (F5.out.later b4)
      have B6 := hid (B5.out.trans (b4.mono B5.out.size))
      clear HV2 b4 S5 O5 N5 K5 F5 B5 q0 q1 hq f0 f1 f2 f3 f4 hf
      cases hv : vend k (s.data.toList.drop fr) with
      | inl en =>
        obtain ⟨ev, n⟩ := en
        have hne := HVE.out _ _ _ hv
        have HP := hid (HPE.out n ev trivial hv)
        have hnb : (ev != 0) = true := by simp [hne]
        have HNE := hid hne
        clear hv hne
        unfold veV
        go_wp2
        go_ret2
        exact ⟨⟨_, _, rfl, .inl ⟨HNE.out, HP.out⟩⟩, B6.out.mono (Nat.le_of_lt hbw)⟩
      | inr n =>
        obtain ⟨v1, v2, v3⟩ := HVO.out _ _ hv
        rw [List.length_drop, hl] at v1
        have hsubX := fun w => run_subG s fr (fr + n) ((fr + n : Nat) : Int) rfl (by omega) (by omega) w
        have hXd : (s.extract fr (fr + n)).data.toList = (s.data.toList.drop fr).take n := by rw [Lib.extract_data, show fr + n - fr = n by omega]
        have hXs : (s.extract fr (fr + n)).size = n := by rw [← len_list, hXd, List.length_take, List.length_drop]; omega
        have HPW2 := hid (fun h => HPW.out n trivial hv h)
        have HPG2 := hid (fun h => HPG.out n trivial hv h)
        rw [← hXd] at HPW2 HPG2
        obtain ⟨X, hX⟩ : ∃ X, s.extract fr (fr + n) = X := ⟨_, rfl⟩
        rw [hX] at hsubX hXs HPW2 HPG2
        have HW1 := hid (fun w => HWh.out X w (by omega) (fun e => by rw [hXs]; exact v3 e))
        obtain ⟨e1, he1⟩ : ∃ e1, (whK k X.data.toList).1 = e1 := ⟨_, rfl⟩
        obtain ⟨e2, he2⟩ : ∃ e2, (whK k X.data.toList).2 = e2 := ⟨_, rfl⟩
        rw [he1, he2] at HW1 HPW2
        rw [he1] at HPG2
        have he2b : (fr : Int) + e2 ≤ 100000 ∧ 0 ≤ (fr : Int) + e2 := by
          have : -1 ≤ e2 ∧ e2 ≤ 90 := by
            rw [← he2]
            unfold whK cF
            have := len_list X
            repeat' split
            all_goals simp
            all_goals omega
          omega
        clear hX hXd hv HPE HPW HPG HWh HVE HVO he1 he2 v3
        have hgc := HG.out
        obtain ⟨tw, htw⟩ : ∃ tw, fr + n = tw := ⟨_, rfl⟩
        rw [htw] at hsubX HPG2
        have hts : tw ≤ s.size := by omega
        have hft : fr ≤ tw := by omega
        unfold veV
        simp only
        rw [htw]
        clear htw
        obtain ⟨d0, d1, d2, d3, _⟩ := S6.out.facts
        obtain ⟨f0, f1, f2, f3, f4, hf⟩ := F6.out.facts
        go_wp2_with fail
        refine (HW1.out _).mono ?_
        rintro e w5 ⟨rfl, b5⟩
        have S7 := hid (S6.out.later b5)
        have O7 := hid (O6.out.later b5)
        have N7 := hid (N6.out.later b5)
        have K7 := hid (K6.out.later b5)
        have F7 := hid (F6.out.later b5)
        have B7 := hid (B6.out.trans (b5.mono B6.out.size))
        clear HW1 b5 S6 O6 N6 K6 F6 B6 d0 d1 d2 d3 f0 f1 f2 f3 f4 hf
        by_cases h0 : e1 = 0
        · subst h0
          have HP0 := hid (HPG2.out (by first | exact trivial | exact rfl))
          rw [hl] at HP0
          clear HPG2 HPW2
          obtain ⟨c0, c1, c2, c3, hb7⟩ := S7.out.facts
          obtain ⟨q0, q1, hq⟩ := K7.out.facts
          have hf7 := F7.out.facts.2.2.2.2.2
          have fz := S7.out.frozen 2
          obtain ⟨i0, hi0, hz0, hz1, hz2⟩ := info_parts elinfo
          have neb : some b ≠ lv.ownBlock := fun e => by have := (LV.out b e.symm).1; omega
          have nek : some kb ≠ lv.ownBlock := fun e => by have := (LV.out kb e.symm).2; omega
          have nef : some fb ≠ lv.ownBlock := fun e => by have := (LV.out fb e.symm).2; omega
          have neb' : some b ≠ gv.ownBlock := fun e => by have := (GV.out b e.symm).1; omega
          have nef' : some fb ≠ gv.ownBlock := fun e => by have := (GV.out fb e.symm).2; omega
          have nbf : fb ≠ b := by omega
          have CC := hid (fun wx (h : w5.grownBy wx lv.ownBlock) => And.intro ((World.cell?_of_block (a := ⟨b, 2, none⟩) (h.block b hb7 neb)).trans c2) (And.intro ((World.cell?_of_block (a := ⟨kb, 0, none⟩) (h.block kb hq nek)).trans q0) ((World.frozen?_of_block (a := ⟨b, 2, none⟩) (h.block b hb7 neb)).trans fz)))
          have sdB : LaterB w5 w5.drew := (Below.refl _ _).drew
          have sdG : w5.grownBy w5.drew lv.ownBlock := gb_of sdB
          have HCl := hid (fun w => strClone_any X w (by omega))
          clear nek q1 c3
          go_wp2_with fail
          go_cut [92] from 92 to 105 (fun s92 wx => s92 = .pointer (some ⟨b, 0, none⟩) ∧ ∃ lw, SB wx b s p lw gv ∧ OE wx (b + 1) lw (L ++ [(A, X)]) ∧ OG wx (b + 1) gv G ∧ FW wx fb lo hi pl ff gg ∧ Below b w wx)
          case first =>
            obtain ⟨m1, m2, m3⟩ := CC.out _ sdG
            go_region_law (first
              | (go_simp; go_at_call 25; refine (HCl.out _).mono ?_; rintro e w6 ⟨rfl, hb6⟩; have t6 : LaterB w5 w6 := Below.trans sdB hb6; have s6 : w5.grownBy w6 lv.ownBlock := gb_of t6; have z6 : w5.heap.size ≤ w6.heap.size := s6.size; have r1 := (CC.out _ s6).1; have r2 := (CC.out _ s6).2.1; have r3 := fun o => (CC.out _ (gb_trans s6 (gb_alloc w6 o lv.ownBlock))).1)
              | (refine step_append_lies _ (by rfl) _ _ _ (by rfl) (b + 1) 36 i0 _ 2 32 Tryd.underlying23 hi0 hz0 hz1 hz2 rfl (by omega) lv L.length (ec L) (by rfl) ((O7.out.later t6).alloc _) ⟨w6.heap.size, 0, none⟩ 1 1 [.string A, .string X] (by rfl) (by rfl) (World.news_of_block (cs := #[.string A, .string X]) (t := 36) (fr := (0, 0)) (heap_alloc_new w6 _)) (by simp [Value.oneCell']) (by omega) (by unfold maxLen; omega) (by omega) (by simp; omega) (w6.heap.size + 1) (by simp) ?_; intro g cap w8 hown8 hgrow8 hat hlt; have s8 : w5.grownBy w8 lv.ownBlock := gb_trans (gb_trans s6 (gb_alloc _ _ _)) hgrow8; have l1 := (CC.out _ s8).1; have l3 := (CC.out _ s8).2.2))
            all_goals
              have S8 := hid (show SB w8 b s p lv gv from (s8.block b hb7 neb).trans S7.out)
              have F8 := hid (show FW w8 fb lo hi pl ff gg from (s8.block fb hf7 nef).trans F7.out)
              have hap := own_apart O7.out N7.out
              have N8 := hid (show OG w8 (b + 1) gv G from World.ownsRow.kept N7.out s8 (by
                cases hg : gv.ownBlock with
                | none => exact .inl rfl
                | some j => exact .inr (fun e => hap j e.symm hg)))
              have O8 := hid (show OE w8 (b + 1) (.slice (some ⟨g, 0, none⟩) (L.length + 1) cap) (L ++ [(A, X)]) by
                unfold OE
                rw [ec_append, List.length_append]
                exact hown8)
              have B8 := hid ((B7.out.mono (Nat.le_of_lt hbw)).grown s8 (by omega) (fun j hj => by have := (LV.out j hj).1; omega))
              clear hown8 hgrow8 hat hlt s8 s6 t6 z6 hb6 sdB sdG CC HCl S7 F7 N7 O7 B7 c0 c1 c2 q0 hq fz hap
              obtain ⟨lw, hlw⟩ : ∃ lw, Value.slice (some ⟨g, 0, none⟩) (L.length + 1) cap = lw := ⟨_, rfl⟩
              rw [hlw] at O8
              have S9 := hid (S8.out.put2 lw)
              have O9 := hid (owns_set (b := b) (j := 2) O8.out (Nat.lt_succ_self b) lw)
              have N9 := hid (owns_set (b := b) (j := 2) N8.out (Nat.lt_succ_self b) lw)
              have F9 := hid (F8.out.set (j := 2) nbf lw)
              have B9 := hid (B8.out.setCell (p := ⟨b, 2, none⟩) (Nat.le_refl _) lw)
              clear S8 F8 N8 O8 B8
              go_wp2_with fail
              go_meet
              exact ⟨rfl, lw, by rw [hlw]; exact S9.out, by rw [hlw]; exact O9.out, by rw [hlw]; exact N9.out, by rw [hlw]; exact F9.out, by rw [hlw]; exact B9.out⟩
          case rest =>
            obtain ⟨rfl, lw, hS9, hO9, hN9, hF9, hB9⟩ := hcut
            have S9 := hid hS9
            have O9 := hid hO9
            have N9 := hid hN9
            have F9 := hid hF9
            have B9 := hid hB9
            clear hS9 hO9 hN9 hF9 hB9 S7 O7 N7 F7 B7 K7 c0 c1 c2 q0 hq fz CC sdB sdG HCl
            obtain ⟨c0, c1, c2, c3, hb9⟩ := S9.out.facts
            have hf9 := F9.out.facts.2.2.2.2.2
            obtain ⟨j0, hj0, hy0, hy1, hy2⟩ := info_parts intinfo
            go_wp2_with (at_builtin; refine wpList_append_own _ rfl _ _ 58 rfl (b + 1) 3 j0 (.int .i64 0) 1 8 Tryd.underlying58 hj0 hy0 hy1 hy2 rfl (by decide) _ _ _ rfl (World.ownsRow.alloc N9.out _) ⟨wc.heap.size, 0, none⟩ 1 1 [.int .i64 (p : Int)] rfl rfl ?c1 ?c2 ?c3 ?c4 ?c5 ?c6)
            case c1 =>
              intro j u hj
              match j, hj with
              | 0, hj => simp at hj; subst hj; simp [Addr.add]
            case c2 => intro u hu; simp at hu; subst hu; rfl
            case c3 => unfold maxLen; omega
            case c4 => omega
            case c5 => simp; omega
            case c6 =>
              intro v' w11 hown' hgrow _
              have s11 : wc.grownBy w11 gv.ownBlock := gb_trans (gb_alloc _ _ _) hgrow
              have S11 := hid (show SB w11 b s p lw gv from (s11.block b hb9 neb').trans S9.out)
              have F11 := hid (show FW w11 fb lo hi pl ff gg from (s11.block fb hf9 nef').trans F9.out)
              have hap := own_apart O9.out N9.out
              have O11 := hid (show OE w11 (b + 1) lw (L ++ [(A, X)]) from World.ownsRow.kept O9.out s11 (by
                cases hg : lw.ownBlock with
                | none => exact .inl rfl
                | some j => exact .inr (fun e => hap j hg e.symm)))
              have N11 := hid (show OG w11 (b + 1) v' (G ++ [p]) by
                unfold OG
                rw [List.map_append, List.length_append]
                exact hown')
              have B11 := hid (B9.out.grown s11 (by omega) (fun j hj => by have := (GV.out j hj).1; omega))
              obtain ⟨ao, n', cap', rfl⟩ : ∃ ao n' cap, v' = .slice ao n' cap := by
                rcases hown'.2 with ⟨hv, _⟩ | ⟨g, cap, cur, hv, _⟩
                · exact ⟨_, _, _, hv⟩
                · exact ⟨_, _, _, hv⟩
              clear hown' hgrow s11 S9 O9 N9 F9 B9 c0 c1 c2 c3 hap
              obtain ⟨gw, hgw⟩ : ∃ gw, Value.slice ao n' cap' = gw := ⟨_, rfl⟩
              obtain ⟨m0, m1, m2, m3, hb11⟩ := S11.out.facts
              have mz := S11.out.frozen 3
              obtain ⟨WA, hWA⟩ : ∃ WA, w11.setCell ⟨b, 3, none⟩ (.slice ao n' cap') = WA := ⟨_, rfl⟩
              have SA := hid (show SB WA b s p lw (.slice ao n' cap') from hWA ▸ S11.out.put3 _)
              have OA := hid (show OE WA (b + 1) lw (L ++ [(A, X)]) from hWA ▸ owns_set (b := b) (j := 3) O11.out (Nat.lt_succ_self b) _)
              have NA := hid (show OG WA (b + 1) (.slice ao n' cap') (G ++ [p]) from hWA ▸ owns_set (b := b) (j := 3) N11.out (Nat.lt_succ_self b) _)
              have FA := hid (show FW WA fb lo hi pl ff gg from hWA ▸ F11.out.set (j := 3) nbf _)
              have BA := hid (show Below b w WA from hWA ▸ B11.out.setCell (p := ⟨b, 3, none⟩) (Nat.le_refl _) _)
              obtain ⟨x0, x1, x2, x3, hbA⟩ := SA.out.facts
              have xz := SA.out.frozen 1
              obtain ⟨WB, hWB⟩ : ∃ WB, WA.setCell ⟨b, 1, none⟩ (.int .i64 (tw : Int)) = WB := ⟨_, rfl⟩
              have SBx := hid (show SB WB b s tw lw (.slice ao n' cap') from hWB ▸ SA.out.put1 tw _ rfl)
              have OB := hid (show OE WB (b + 1) lw (L ++ [(A, X)]) from hWB ▸ owns_set (b := b) (j := 1) OA.out (Nat.lt_succ_self b) _)
              have NB := hid (show OG WB (b + 1) (.slice ao n' cap') (G ++ [p]) from hWB ▸ owns_set (b := b) (j := 1) NA.out (Nat.lt_succ_self b) _)
              have FB := hid (show FW WB fb lo hi pl ff gg from hWB ▸ FA.out.set (j := 1) nbf _)
              have BB := hid (show Below b w WB from hWB ▸ BA.out.setCell (p := ⟨b, 1, none⟩) (Nat.le_refl _) _)
              have y2 := FB.out.facts.2.2.1
              clear S11 O11 N11 F11 B11 SA OA NA FA BA hgw
              cases pl with
              | true =>
                have HQ := hid (HP0.out.trans (if_pos (.inl rfl)))
                clear HP0
                go_wp2
                go_ret2
                exact ⟨⟨_, _, rfl, .inr ⟨rfl, A, X, tw, lw, _, by rw [HAa.out]; exact HQ.out, SBx.out, OB.out, NB.out⟩⟩, BB.out⟩
              | false =>
                have HPn := hid (passEnder_any b tw s lw (.slice ao n' cap') WB SBx.out (by omega) hts)
                go_wp2_with fail
                refine HPn.out.mono ?_
                rintro e w14 ⟨hcase, wd, hbd, hwd⟩
                have O14 := hid (show OE w14 (b + 1) lw (L ++ [(A, X)]) by
                  rcases hwd with rfl | rfl
                  · exact OB.out.later hbd
                  · exact owns_set (b := b) (j := 1) (OB.out.later hbd) (Nat.lt_succ_self b) _)
                have N14 := hid (show OG w14 (b + 1) (.slice ao n' cap') (G ++ [p]) by
                  rcases hwd with rfl | rfl
                  · exact NB.out.later hbd
                  · exact owns_set (b := b) (j := 1) (NB.out.later hbd) (Nat.lt_succ_self b) _)
                have B14 := hid (show Below b w w14 by
                  have h1 : Below b w wd := BB.out.trans (hbd.mono (by have := BB.out.size; omega))
                  rcases hwd with rfl | rfl
                  · exact h1
                  · exact h1.setCell (p := ⟨b, 1, none⟩) (Nat.le_refl _) _)
                have HQ := HP0
                clear hbd hwd HPn OB NB BB HP0 hWA hWB m0 m1 m2 m3 mz x0 x1 x2 x3 xz y2
                rcases hcase with ⟨h1, rfl, hS⟩ | ⟨h1, rfl⟩ | ⟨h1, rfl, hS⟩
                · have HS := hid hS
                  have HQ2 := hid (HQ.out.trans (if_pos (.inr h1)))
                  clear hS HQ h1
                  go_wp2
                  go_ret2
                  exact ⟨⟨_, _, rfl, .inr ⟨rfl, A, X, tw, lw, _, by rw [HAa.out]; exact HQ2.out, HS.out, O14.out, N14.out⟩⟩, B14.out⟩
                · have HQ2 := hid ((HQ.out.trans (if_neg (fun h => by rcases h with h | h; cases h; omega))).trans (if_pos h1))
                  clear HQ h1
                  go_wp2
                  go_ret2
                  exact ⟨⟨_, _, rfl, .inl ⟨by decide, HQ2.out⟩⟩, B14.out⟩
                · have HS := hid hS
                  have HQ2 := hid ((HQ.out.trans (if_neg (fun h => by rcases h with h | h; cases h; omega))).trans (if_neg (by omega)))
                  clear hS HQ h1
                  go_wp2
                  go_ret2
                  exact ⟨⟨_, _, rfl, .inr ⟨rfl, A, X, tw + 1, lw, _, by rw [HAa.out]; exact HQ2.out, HS.out, O14.out, N14.out⟩⟩, B14.out⟩
        · have hnb : (e1 != 0) = true := by simp [h0]
          have HP := hid (HPW2.out h0)
          have HNE := hid h0
          clear h0
          go_wp2
          go_ret2
          exact ⟨⟨_, _, rfl, .inl ⟨HNE.out, HP.out⟩⟩, B7.out.mono (Nat.le_of_lt hbw)⟩
    · have hnb : (cl != 0) = true := by simp [h0]
      have HP := hid (HPC.out h0)
      clear h0
      go_wp2
      go_ret2
      exact ⟨⟨_, _, rfl, .inl ⟨by simpa using hnb, HP.out⟩⟩, B3.out.mono (Nat.le_of_lt hbw)⟩
end Go.Proofs.YtpplkoilpblpkaaDoor
