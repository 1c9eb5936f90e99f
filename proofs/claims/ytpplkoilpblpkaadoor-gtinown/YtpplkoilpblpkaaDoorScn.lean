/-
  The scanned string of elements that may stand: scanned.
-/
import Derived.Test.YtpplkoilpblpkaaDoorPrM
import Derived.Test.YtpplkoilpblpkaaDoorBuildK
namespace Go.Proofs.YtpplkoilpblpkaaDoor
open Go.RowKit
set_option maxRecDepth 100000

theorem frm_plain (k : Int) : ∃ (a b : Nat) (f g : Nat), frmOf k = frm a b (plK k) f g ∨ ¬ (0 ≤ k ∧ k ≤ 12) := by
  by_cases h : 0 ≤ k ∧ k ≤ 12
  · have hk : k = 0 ∨ k = 1 ∨ k = 2 ∨ k = 3 ∨ k = 4 ∨ k = 5 ∨ k = 6 ∨ k = 7 ∨ k = 8 ∨ k = 9 ∨ k = 10 ∨ k = 11 ∨ k = 12 := by omega
    rcases hk with rfl | rfl | rfl | rfl | rfl | rfl | rfl | rfl | rfl | rfl | rfl | rfl | rfl <;> exact ⟨_, _, _, _, .inl rfl⟩
  · exact ⟨0, 0, 0, 0, .inr h⟩

theorem field_plain (x y f g : Value) (p : Bool) (w : World) : (Instr.field 79 (.agg #[x, y, .bool p, f, g]) 2).run Tryd.prog w = .ok (.bool p) w := by
  kernel_rfl

/-- an element in a block of its own -/
def EB (w : World) (b : Nat) (a x : ByteArray) : Prop := w.heap[b]? = some (.cells #[.string a, .string x] 36 (0, 0))
theorem EB.facts {w : World} {b : Nat} {a x : ByteArray} (h : EB w b a x) : w.cell? ⟨b, 0, none⟩ = some (.string a) ∧ w.cell? ⟨b, 1, none⟩ = some (.string x) ∧ b < w.heap.size :=
  ⟨by rw [Lib.cell_of_heap h]; rfl, by rw [Lib.cell_of_heap h]; rfl, (Array.getElem?_eq_some_iff.1 h).1⟩
theorem EB.new (w : World) (a x : ByteArray) : EB (w.alloc (.cells #[.string a, .string x] 36)) w.heap.size a x := heap_alloc_new _ _
theorem EB.later {w w' : World} {b : Nat} {a x : ByteArray} (h : EB w b a x) (hb : Below w.heap.size w w') : EB w' b a x := (hb.block b h.facts.2.2).trans h
theorem EB.kb {w w' : World} {b : Nat} {a x : ByteArray} (h : EB w b a x) (hk : KB w w') : EB w' b a x := hk b _ _ _ (by decide) (by decide) h

set_option maxHeartbeats 2000000 in
theorem scanned_any (v : Value) (L : List El) (w : World) (hkn : HasKn w) (hr : RE w v L) (hl : L.length ≤ 39) (hk : ∀ j (hj : j < L.length), ∃ k, kfind (L[j]).1.data.toList = some k) (hsz : ∀ i, i ≤ L.length → (scP L i).length ≤ 95 * i) :
    Calls Tryd.prog 16 #[v] w fun e w' => e = .returned (.string ⟨(scP L L.length).toArray⟩) ∧ Below w.heap.size w w' := by
  have HKN := hid hkn
  have HSZ := hid hsz
  have F0 := hid (fresh_isB w)
  have HKf := hid hk
  clear hkn hsz hk
  rcases hr with ⟨rfl, ao, cap, rfl, _⟩ | ⟨b, off, cap, rfl, hcap, hcell⟩
  · have HS := hid (string_any w.heap.size w.heap.size [] _ F0.out (by simp))
    go_enter Tryd.func16, Tryd.ntmps16
    go_wp2_with fail
    refine wp_loop_rounds 1 ?_
    rw [rounds_succ]
    go_wp2_with fail
    refine HS.out.mono ?_
    rintro e w1 ⟨rfl, hb1⟩
    have HB := hid (((Below.refl w.heap.size w).alloc (Nat.le_refl _) (.cells #[.pointer none, .slice none 0 0] 50)).trans hb1)
    clear hb1 HS F0
    go_wp2
    go_ret
    exact ⟨rfl, HB.out⟩
  · have HC := hid hcell
    clear hcell
    go_enter Tryd.func16, Tryd.ntmps16
    go_wp2_with fail
    go_loopw [10] (fun i wr => ∃ k : Nat, k ≤ L.length ∧ i = .int .i64 (k : Int) ∧ IsB w.heap.size w.heap.size (scP L k) wr ∧ Below w.heap.size w wr) (fun i _ => L.length - (intOf i).toNat)
    case atStart => exact ⟨0, by omega, rfl, F0.out, (Below.refl w.heap.size w).alloc (Nat.le_refl _) _⟩
    case round =>
      obtain ⟨k, hk, rfl, hB0, hbl⟩ := hrel
      have H0 := hid hB0
      have HB0 := hid hbl
      clear hB0 hbl F0
      by_cases hlt : k < L.length
      · have hcl := HC.out k hlt
        have c0 := below_cells HB0.out _ _ hcl.1
        have c1 := below_cells HB0.out _ _ hcl.2
        obtain ⟨q, hq⟩ := HKf.out k hlt
        obtain ⟨q0, q1⟩ := kfind_12 hq
        obtain ⟨fa, fb, ff, fg, hfr⟩ := frm_plain q
        have hfr : frmOf q = frm fa fb (plK q) ff fg := hfr.resolve_right (fun h => h ⟨q0, q1⟩)
        have hs1 := HSZ.out k hk
        have hs2 := HSZ.out (k + 1) hlt
        have HSG := hid (sg_at hlt)
        have hpl : plB (L[k]'hlt).1.data.toList = plK q := by unfold plB; rw [hq]; rfl
        rw [hpl] at HSG
        have HK := hid (fun w h => kindOf_any (L[k]'hlt).1 w h)
        unfold kofV at HK
        rw [hq] at HK
        simp only [Option.getD_some, Option.isSome_some] at HK
        have HF := hid (fun w => formOf_since q q0 q1 w w (Below.refl _ _))
        rw [hfr] at HF
        unfold frm at HF
        rw [scP, List.length_append, HSG.out, List.length_append, List.length_append] at hs2
        obtain ⟨a, ha⟩ : ∃ a, a = (L[k]'hlt).1 := ⟨_, rfl⟩
        obtain ⟨x, hx⟩ : ∃ x, x = (L[k]'hlt).2 := ⟨_, rfl⟩
        rw [← ha] at c0 HK HSG hs2
        rw [← hx] at c1 HSG hs2
        have hal := len_list a
        have hxl := len_list x
        have hsa : (scP L k).length + a.size ≤ 140737488355328 := by omega
        have hsx : (scP L k ++ a.data.toList).length + x.size ≤ 140737488355328 := by rw [List.length_append]; omega
        have hsx2 : (scP L k ++ a.data.toList ++ x.data.toList).length + 1 ≤ 140737488355328 := by rw [List.length_append, List.length_append]; omega
        have HSX := hid hsx
        have HSX2 := hid hsx2
        clear hcl hq hfr hs1 hs2 hpl ha hx hsx hsx2 hal hxl
        have HW1 := hid (writeStringK w.heap.size w.heap.size (scP L k) a (wr.alloc (.cells #[.string a, .string x] 36)) (H0.out.later ((Below.refl _ _).alloc (Nat.le_refl _) _)) hsa (by have := HB0.out.size; simp; omega))
        have E1 := hid (EB.new wr a x)
        have B1 := hid (HB0.out.alloc HB0.out.size (.cells #[.string a, .string x] 36))
        clear hsa
        go_wp2_with fail
        refine HW1.out.mono ?_
        rintro e w2 ⟨rfl, hb2, hB2, hk2⟩
        have I2 := hid hb2
        have E2 := hid (E1.out.kb hk2)
        have B2 := hid (B1.out.trans hB2)
        clear hb2 hB2 hk2 E1 B1 HW1 H0 HB0 c0 c1
        obtain ⟨d0, d1, dl⟩ := E2.out.facts
        have HW2 := hid (writeStringK w.heap.size w.heap.size _ x w2 I2.out HSX.out B2.out.size)
        go_wp2_with fail
        refine HW2.out.mono ?_
        rintro e w3 ⟨rfl, hb3, hB3, hk3⟩
        have I3 := hid hb3
        have E3 := hid (E2.out.kb hk3)
        have B3 := hid (B2.out.trans hB3)
        clear hb3 hB3 hk3 E2 B2 HW2 I2 d0 d1 dl
        obtain ⟨d0, d1, dl⟩ := E3.out.facts
        go_wp2_with fail
        refine (HK.out _ (HKN.out.below B3.out)).mono ?_
        rintro e w4 ⟨rfl, hb4⟩
        have I4 := hid (I3.out.later hb4)
        have B4 := hid (B3.out.trans (hb4.mono B3.out.size))
        clear hb4 I3 B3 E3 d0 d1 dl HK
        have hfd := fun (p : Bool) (w : World) => field_plain (.int .i64 (fa : Int)) (.int .i64 (fb : Int)) (.func (.func ff) #[] #[]) (.func (.func fg) #[] #[]) p w
        by_cases hlast : k + 1 < L.length
        · have hlI : (k : Int) < (L.length : Int) - 1 := by omega
          go_wp2_with fail
          refine (HF.out _).mono ?_
          rintro e w5 ⟨rfl, hb5⟩
          have I5 := hid (I4.out.later hb5)
          have B5 := hid (B4.out.trans (Below.mono hb5 B4.out.size))
          clear hb5 I4 B4 HF
          cases hp : plK q with
          | true =>
            have HE := hid (show scP L (k + 1) = scP L k ++ a.data.toList ++ x.data.toList by rw [scP, HSG.out, hp]; simp)
            go_wp2
            go_roundw
            case rel => exact ⟨k + 1, hlt, by go_num, by rw [HE.out]; exact I5.out, B5.out⟩
            case measure => simp [intOf]; omega
          | false =>
            have HE := hid (show scP L (k + 1) = scP L k ++ a.data.toList ++ x.data.toList ++ [29] by rw [scP, HSG.out, hp, if_pos ⟨rfl, hlast⟩]; simp)
            have HW := hid (writeByteK w.heap.size w.heap.size _ 29 29 w5 I5.out rfl HSX2.out B5.out.size)
            go_wp2_with fail
            refine HW.out.mono ?_
            rintro e w6 ⟨rfl, hb6, hB6, _⟩
            have I6 := hid hb6
            have B6 := hid (B5.out.trans hB6)
            clear hb6 hB6 I5 B5 HW
            go_wp2
            go_roundw
            case rel => exact ⟨k + 1, hlt, by go_num, by rw [HE.out]; exact I6.out, B6.out⟩
            case measure => simp [intOf]; omega
        · have hlI : ¬ (k : Int) < (L.length : Int) - 1 := by omega
          have HE := hid (show scP L (k + 1) = scP L k ++ a.data.toList ++ x.data.toList by rw [scP, HSG.out, if_neg (fun h => hlast h.2)]; simp)
          go_wp2
          go_roundw
          case rel => exact ⟨k + 1, hlt, by go_num, by rw [HE.out]; exact I4.out, B4.out⟩
          case measure => simp [intOf]; omega
      · have hkl : k = L.length := by omega
        have HI := hid (show IsB w.heap.size w.heap.size (scP L L.length) wr by rw [← hkl]; exact H0.out)
        have HS := hid (string_any w.heap.size w.heap.size _ wr HI.out HB0.out.size)
        clear hkl
        go_wp2_with fail
        refine HS.out.mono ?_
        rintro e w1 ⟨rfl, hb1⟩
        have HB := hid (HB0.out.trans hb1)
        clear hb1 HS
        go_wp2
        go_ret
        exact ⟨rfl, HB.out⟩
end Go.Proofs.YtpplkoilpblpkaaDoor
