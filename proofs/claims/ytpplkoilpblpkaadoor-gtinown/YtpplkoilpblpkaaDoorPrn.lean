/-
  Print.
-/
import Derived.Test.YtpplkoilpblpkaaDoorScn
namespace Go.Proofs.YtpplkoilpblpkaaDoor
open Go.RowKit
set_option maxRecDepth 100000

theorem RE.take {w : World} {b off cap : Nat} {L : List El} (hc : L.length ≤ cap) (h : ∀ j (hj : j < L.length), w.cell? ⟨b, off + j * 2, none⟩ = some (.string L[j].1) ∧ w.cell? ⟨b, off + j * 2 + 1, none⟩ = some (.string L[j].2)) (k : Nat) (hk : k ≤ L.length) :
    RE w (.slice (some ⟨b, off, none⟩) k cap) (L.take k) := by
  have hl : (L.take k).length = k := by rw [List.length_take]; omega
  refine .inr ⟨b, off, cap, by rw [hl], by omega, fun j hj => ?_⟩
  rw [List.getElem_take]
  exact h j (by omega)
/-- the same since w1 -/
def LaterB (w1 w : World) : Prop := Below w1.heap.size w1 w

set_option maxHeartbeats 2000000 in
theorem print_any (v : Value) (L : List El) (w : World) (hkn : HasKn w) (hr : RE w v L) (hx : ∀ x ∈ L, x.2.size ≤ 281474976710656) (hll : L.length ≤ 9223372036854775000) :
    Calls Tryd.prog 6 #[v] w fun e w' => (∃ t en n, e = .returned (.tuple #[.string t, .int .i64 en, .int .i64 n]) ∧ PrA L t en n) ∧ Below w.heap.size w w' := by
  have HKN := hid hkn
  have HR := hid hr
  have HX := hid hx
  have HLL := hid hll
  clear hkn hx hll
  have tail : Hid (∀ wr, Below w.heap.size w wr → (∀ j, j < L.length → ft L j = 0) → L.length ≤ 39) := fun wr _ h => few_39 L L.length (Nat.le_refl _) h
  rcases hr with ⟨rfl, ao, cap, rfl, _⟩ | ⟨b, off, cap, rfl, hcap, hcell⟩
  · have HL := hid (lone_any (.slice ao 0 cap) [] w HR.out (by simp))
    have HS := hid (fun w1 h => scanned_any (.slice ao 0 cap) [] w1 (HKN.out.below h) (HR.out.below h) (by simp) (fun j hj => by simp at hj) (fun i hi => by
      obtain rfl : i = 0 := by simpa using hi
      simp [scP]))
    clear HR HX HLL tail
    go_enter Tryd.func6, Tryd.ntmps6
    go_wp2_with fail
    refine wp_loop_rounds 1 ?_
    rw [rounds_succ]
    go_wp2_with fail
    refine HL.out.mono ?_
    rintro e w1 ⟨rfl, hb1⟩
    have B1 := hid hb1
    clear hb1
    have hlo : loI [] = -1 := rfl
    rw [hlo]
    go_wp2_with fail
    refine (HS.out _ B1.out).mono ?_
    rintro e w2 ⟨rfl, hb2⟩
    have B2 := hid (B1.out.trans (hb2.mono B1.out.size))
    clear hb2 B1
    go_wp2
    go_ret3
    exact ⟨⟨_, _, _, rfl, .inr ⟨fun j hj => by simp at hj, .inr (.inr ⟨by decide, by simp [scP], by simp [scP], rfl, rfl⟩)⟩⟩, B2.out⟩
  · have HC := hid hcell
    have HT := hid (fun W (h : Below w.heap.size w W) k hk => RE.take (w := W) hcap (fun j hj => ⟨below_cells h _ _ (hcell j hj).1, below_cells h _ _ (hcell j hj).2⟩) k hk)
    clear hcell
    go_enter Tryd.func6, Tryd.ntmps6
    go_wp2_with fail
    go_loopw [12] (fun i wr => ∃ k : Nat, k ≤ L.length ∧ i = .int .i64 (k : Int) ∧ (∀ j, j < k → ft L j = 0) ∧ Below w.heap.size w wr) (fun i _ => L.length - (intOf i).toNat)
    case atStart => exact ⟨0, by omega, rfl, fun j hj => by omega, Below.refl _ _⟩
    case round =>
      obtain ⟨k, hk, rfl, hz, hbl⟩ := hrel
      have HZ := hid hz
      have HB := hid hbl
      clear hz hbl
      by_cases hlt : k < L.length
      · have hcl := HC.out k hlt
        have c0 := below_cells HB.out _ _ hcl.1
        have c1 := below_cells HB.out _ _ hcl.2
        have h39 := few_39 L k hk HZ.out
        have hxs := HX.out (L[k]'hlt) (List.getElem_mem hlt)
        have HFt := hid (ft_at hlt)
        obtain ⟨a, ha⟩ : ∃ a, a = (L[k]'hlt).1 := ⟨_, rfl⟩
        obtain ⟨x, hx⟩ : ∃ x, x = (L[k]'hlt).2 := ⟨_, rfl⟩
        rw [← ha] at c0 HFt
        rw [← hx] at c1 HFt hxs
        have HF := hid (fun W (h : Below w.heap.size w W) => fault_any (.slice (some ⟨b, off, none⟩) k cap) (L.take k) a x W (HKN.out.below h) (HT.out W h k hk) (by rw [List.length_take]; omega) (by omega))
        rw [← HFt.out] at HF
        obtain ⟨f, hf⟩ : ∃ f, ft L k = f := ⟨_, rfl⟩
        rw [hf] at HF
        have HFE := hid hf
        clear hcl ha hx h39 hxs hf HFt
        have E1 := hid (EB.new wr a x)
        have B1 := hid (HB.out.alloc HB.out.size (.cells #[.string a, .string x] 36))
        obtain ⟨W1, hW1⟩ : ∃ W1, wr.alloc (.cells #[.string a, .string x] 36) = W1 := ⟨_, rfl⟩
        rw [hW1] at E1 B1
        obtain ⟨e0, e1, el⟩ := E1.out.facts
        have CC := hid (fun wx (h : LaterB W1 wx) => And.intro (below_cells h _ _ e0) (below_cells h _ _ e1))
        have sd : LaterB W1 W1.drew := (Below.refl _ _).drew
        have BD := hid (B1.out.trans ((Below.refl w.heap.size W1).drew))
        clear E1 el
        go_wp2_with fail
        first | go_region_held (fun wx => wx.cell? ⟨wr.heap.size, 0, none⟩ = some (.string a) ∧ wx.cell? ⟨wr.heap.size, 1, none⟩ = some (.string x)) (first | exact CC.out _ (by assumption) | go_keep) (first
          | (go_at_call 14; refine (HF.out _ BD.out).mono ?_; rintro e w2 ⟨rfl, hb2⟩; have s2 : LaterB W1 w2 := Below.trans sd hb2)) | fail
        have B2 := hid (B1.out.trans (Below.mono s2 B1.out.size))
        clear CC sd BD HF
        have hll := HLL.out
        by_cases h0 : f = 0
        · subst h0
          go_wp2
          go_roundw
          case rel =>
            refine ⟨k + 1, hlt, by go_num, fun j hj => ?_, B2.out⟩
            by_cases e : j = k
            · subst e; exact HFE.out
            · exact HZ.out j (by omega)
          case measure => simp [intOf]; omega
        · have hfb : (f != 0) = true := by simp [h0]
          have HN := hid h0
          clear h0
          go_wp2
          go_ret3
          exact ⟨⟨_, _, _, rfl, .inl ⟨k, hlt, HZ.out, by rw [HFE.out]; exact HN.out, rfl, HFE.out.symm, rfl⟩⟩, B2.out⟩
      · have hkl : k = L.length := by omega
        subst hkl
        have h39 := few_39 L L.length (Nat.le_refl _) HZ.out
        have HL := hid (lone_any _ L wr (HR.out.below HB.out) (by omega))
        have HS := hid (fun w1 h => scanned_any _ L w1 (HKN.out.below h) (HR.out.below h) h39 (fun j hj => by
          have h0 := HZ.out j hj
          rw [ft_at hj] at h0
          obtain ⟨q, hq, _⟩ := ftE_zero h0
          exact ⟨q, hq⟩) (fun i hi => scP_len L i hi (fun j hj => HZ.out j (by omega))))
        have hsl := scP_len L L.length (Nat.le_refl _) HZ.out
        obtain ⟨o, ho⟩ : ∃ o, loI L = o := ⟨_, rfl⟩
        rw [ho] at HL
        have HOE := hid ho
        obtain ⟨T, hT⟩ : ∃ T : List UInt8, scP L L.length = T := ⟨_, rfl⟩
        rw [hT] at HS hsl
        have HTE := hid hT
        have hts : (⟨T.toArray⟩ : ByteArray).size = T.length := by simp [ByteArray.size]
        clear HC HT ho hT
        go_wp2_with fail
        refine HL.out.mono ?_
        rintro e w1 ⟨rfl, hb1⟩
        have B1 := hid (HB.out.trans (hb1.mono HB.out.size))
        clear hb1 HL HB
        by_cases h0 : 0 ≤ o
        · have HH := hid h0
          go_wp2
          go_ret3
          exact ⟨⟨_, _, _, rfl, .inr ⟨HZ.out, .inl ⟨by rw [HOE.out]; exact HH.out, rfl, rfl, HOE.out.symm⟩⟩⟩, B1.out⟩
        · have HH := hid h0
          go_wp2_with fail
          refine (HS.out _ B1.out).mono ?_
          rintro e w2 ⟨rfl, hb2⟩
          have B2 := hid (B1.out.trans (hb2.mono B1.out.size))
          clear hb2 HS B1
          obtain ⟨tt, htt⟩ : ∃ tt : ByteArray, (⟨T.toArray⟩ : ByteArray) = tt := ⟨_, rfl⟩
          rw [htt] at hts ⊢
          have HTT := hid htt
          clear htt
          by_cases h5 : 512 < T.length
          · have h5I : (512 : Int) < (tt.size : Int) := by omega
            go_wp2
            go_ret3
            exact ⟨⟨_, _, _, rfl, .inr ⟨HZ.out, .inr (.inl ⟨by rw [HOE.out]; have := HH.out; omega, by rw [HTE.out]; exact h5, rfl, rfl, rfl⟩)⟩⟩, B2.out⟩
          · have h5I : ¬ (512 : Int) < (tt.size : Int) := by omega
            go_wp2
            go_ret3
            exact ⟨⟨_, _, _, rfl, .inr ⟨HZ.out, .inr (.inr ⟨by rw [HOE.out]; have := HH.out; omega, by rw [HTE.out]; omega, by rw [HTE.out, ← HTT.out], rfl, rfl⟩)⟩⟩, B2.out⟩
end Go.Proofs.YtpplkoilpblpkaaDoor
