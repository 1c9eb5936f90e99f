/-
  The parts of a text asked in turn: refused.
-/
import Derived.Test.YtjpglgemnaknhaaGreatDoorDgs
import Derived.Test.YtjpglgemnaknhaaGreatDoorShelf
import Derived.Shelf.Abstract
import Derived.Laws.EntriesVeiled
import Derived.Lib.SmallJoins
namespace Go.Proofs.YtjpglgemnaknhaaGreatDoor
open Go.RowKit
set_option maxRecDepth 100000

/-- what refused answers, and how many parts were asked -/
def rg (len : Nat) (pos : Nat → Nat) (bo : Nat → Bool) : Nat → Nat → Int × Nat
  | 0, k => (-1, k)
  | r + 1, k => if pos k = len then (-1, k) else if bo k then rg len pos bo r (k + 1) else ((pos k : Int), k + 1)

theorem rg_end {len : Nat} {pos : Nat → Nat} {bo : Nat → Bool} {r k : Nat} (h : pos k = len) : rg len pos bo (r + 1) k = (-1, k) := by
  show (if pos k = len then _ else _) = _; rw [if_pos h]
theorem rg_no {len : Nat} {pos : Nat → Nat} {bo : Nat → Bool} {r k : Nat} (h : pos k ≠ len) (hb : bo k = false) : rg len pos bo (r + 1) k = ((pos k : Int), k + 1) := by
  show (if pos k = len then _ else if bo k then _ else _) = _; rw [if_neg h, hb]; rfl
theorem rg_yes {len : Nat} {pos : Nat → Nat} {bo : Nat → Bool} {r k : Nat} (h : pos k ≠ len) (hb : bo k = true) : rg len pos bo (r + 1) k = rg len pos bo r (k + 1) := by
  show (if pos k = len then _ else if bo k then _ else _) = _; rw [if_neg h, hb]; rfl

/-- a part lies in block b -/
def PBox (w : World) (b : Nat) (d : Nat) (f : Value) : Prop := w.heap[b]? = some (.cells #[.int .i64 (d : Int), f] 66 (0, 0))
theorem PBox.facts {w : World} {b d : Nat} {f : Value} (h : PBox w b d f) : w.cell? ⟨b, 0, none⟩ = some (.int .i64 (d : Int)) ∧ w.cell? ⟨b, 1, none⟩ = some f ∧ b < w.heap.size :=
  ⟨by rw [Lib.cell_of_heap h]; rfl, by rw [Lib.cell_of_heap h]; rfl, (Array.getElem?_eq_some_iff.1 h).1⟩

theorem sub_extract (t : ByteArray) (a k : Nat) : (t.extract a (a + k)).data.toList = sub t.data.toList a k := by
  unfold sub
  rw [ByteArray.data_extract, Array.toList_extract, List.extract_eq_take_drop]
  congr 1
  omega

theorem run_sub (t : ByteArray) (i j : Nat) (z : Int) (hz : z = (j : Int)) (hij : i ≤ j) (hj : j ≤ t.size) (w : World) :
    (Instr.slice 9 (.string t) (some (.int .i64 (i : Int))) (some (.int .i64 z)) none).run Tryz.prog w = .ok (.string (t.extract i j)) w := by
  subst hz
  simp [Instr.slice, Instr.sliceBounds, Instr.sliceBound, asIntOf, run_underlying Tryz.underlying9, go_sem, hij, hj]

set_option maxHeartbeats 1000000 in
theorem refused_any (t : ByteArray) (ht : t.size ≤ 64) (N b : Nat) (dg K pos : Nat → Nat) (cp : Nat → Array Value) (bo : Nat → Bool) (S : Nat → World → Prop) (L : Nat)
    (hN : N ≤ 3) (eg : ∀ k args w, (callFunc (K k) args).run Tryz.prog w = .ok (.enter (K k) args) w)
    (hS : ∀ k w w', S k w → Below w.heap.size w w' → S k w') (hL : ∀ k w, S k w → L ≤ w.heap.size)
    (hP : ∀ k j w, j < N → S k w → w.cell? ⟨b, j * 2, none⟩ = some (.int .i64 (dg j : Int)) ∧ w.cell? ⟨b, j * 2 + 1, none⟩ = some (.func (.func (K j)) #[] (cp j)))
    (h0 : sk t.data.toList 0 = pos 0) (hp : ∀ k, k + 1 < N → pos k ≠ t.size → sk t.data.toList (pos k + dg k) = pos (k + 1))
    (hd : ∀ k, k < N → pos k = t.size ∨ (pos k + dg k ≤ t.size ∧ 1 ≤ dg k ∧ dg k ≤ 9 ∧ ∀ c ∈ sub t.data.toList (pos k) (dg k), isDB c = true))
    (hC : ∀ k w, k < N → pos k ≠ t.size → S k w → Calls Tryz.prog (K k) (#[.int .i64 (nm (sub t.data.toList (pos k) (dg k)) : Int)] ++ cp k) w fun e w' => e = .returned (.bool (bo k)) ∧ S (k + 1) w' ∧ ∀ x, L ≤ x → x < w.heap.size → w'.heap[x]? = w.heap[x]?)
    (w : World) (hw : S 0 w) :
    Calls Tryz.prog 37 #[.string t, .slice (some ⟨b, 0, none⟩) N N] w fun e w' => e = .returned (.int .i64 (rg t.size pos bo N 0).1) ∧ S (rg t.size pos bo N 0).2 w' := by
  have lt : t.data.toList.length = t.size := Array.length_toList
  have HD := hid (fun c w => isDigit_any c w)
  have LT := hid lt
  have HS := hid hS
  have HL := hid hL
  have HP := hid hP
  have H0 := hid h0
  have Hp := hid hp
  have Hd := hid hd
  have HC := hid hC
  have HW := hid hw
  clear lt hS hL hP h0 hp hd hC hw
  go_enter Tryz.func37, Tryz.ntmps37
  go_wp2_with fail
  go_loopw [5, 12] (fun a i wr => ∃ (k x : Nat), i = .int .i64 (k : Int) ∧ a = .int .i64 (x : Int) ∧ k ≤ N ∧ x ≤ t.size ∧ (k < N → sk t.data.toList x = pos k) ∧ rg t.size pos bo (N - k) k = rg t.size pos bo N 0 ∧ S k wr) (fun _ i _ => N - (intOf i).toNat)
  case atStart => exact ⟨0, 0, rfl, rfl, by omega, by omega, fun _ => H0.out, rfl, HW.out⟩
  case round =>
    obtain ⟨k, x, rfl, rfl, hkN, hxt, hsk, hrg, hSk⟩ := hrel
    have HK := hid hSk
    have HSK := hid hsk
    have HR := hid hrg
    clear hSk hsk hrg
    by_cases hk : k < N
    · obtain ⟨c0, c1⟩ := HP.out k k _ hk HK.out
      have HPB := hid (show PBox (wr.alloc (Obj.cells #[Value.int IntKind.i64 ((dg k : Nat) : Int), Value.func (Fn.func (K k)) #[] (cp k)] 66)) wr.heap.size (dg k) (.func (.func (K k)) #[] (cp k)) from heap_alloc_new _ _)
      have HK1 := hid (HS.out k _ _ HK.out ((Below.refl _ _).alloc (Nat.le_refl _) (Obj.cells #[Value.int IntKind.i64 ((dg k : Nat) : Int), Value.func (Fn.func (K k)) #[] (cp k)] 66)))
      have hLb : L ≤ wr.heap.size := HL.out _ _ HK.out
      go_wp2_with fail
      generalize wr.heap.size = pb at *
      go_loopw [5] (fun a wx => ∃ y : Nat, a = .int .i64 (y : Int) ∧ y ≤ t.size ∧ sk t.data.toList y = pos k ∧ PBox wx pb (dg k) (.func (.func (K k)) #[] (cp k)) ∧ S k wx) (fun a _ => t.size - (intOf a).toNat)
      case atStart => exact ⟨x, rfl, hxt, HSK.out hk, HPB.out, HK1.out⟩
      case round =>
        clear HPB HK1 HK c0 c1
        obtain ⟨y, rfl, hy, hsy, hpb, hSx⟩ := hrel
        have HPB := hid hpb
        have HK := hid hSx
        have HSY := hid hsy
        clear hpb hSx hsy
        by_cases h1 : y < t.size
        · have i1 : (y : Int) < (t.size : Int) := by omega
          have bt := byte_at t y h1
          have HG := hid (HD.out t[y])
          by_cases hg : isDB t[y] = true
          · rw [hg] at HG
            have hpos : pos k = y := by rw [← HSY.out]; exact sk_hit _ _ (by rw [LT.out]; exact h1) (by rw [bt]; exact hg)
            have hne : pos k ≠ t.size := by omega
            obtain ⟨d1, d2, d3, d4⟩ := (Hd.out k hk).resolve_left hne
            have HDG := hid d4
            have d1' : y + dg k ≤ t.size := by omega
            clear hg bt d4
            go_wp2_with fail
            refine (HG.out _).mono ?_
            rintro e w' ⟨rfl, rfl⟩
            obtain ⟨p0, p1, p2⟩ := HPB.out.facts
            have hxs : (t.extract y (y + dg k)).size = dg k := by rw [ByteArray.size_extract]; omega
            have HX := hid (show (t.extract y (y + dg k)).data.toList = sub t.data.toList (pos k) (dg k) by rw [hpos]; exact sub_extract t y (dg k))
            have qs := fun w => run_sub t y (y + dg k) ((y : Int) + (dg k : Int)) (by omega) (by omega) d1' w
            have HAT := hid (fun w => Tryz.strconv_Atoi (t.extract y (y + dg k)) (nm (sub t.data.toList (pos k) (dg k)) : Int) (by omega) (by rw [HX.out]; exact atoi_digits _ (fun e => by have := sub_len t.data.toList (pos k) (dg k) (by rw [LT.out]; omega); rw [e] at this; simp at this; omega) HDG.out) w)
            go_wp2_with fail
            refine (HAT.out _).mono ?_
            rintro e wa ⟨rfl, ta, hwa⟩
            have HB := hid (show Below w'.heap.size w' wa by rw [hwa]; exact Go.Joins.below_bytesWorld _ _ _ _ (Nat.le_refl _))
            clear hwa ta HAT
            have HPA := hid (show PBox wa pb (dg k) (.func (.func (K k)) #[] (cp k)) from (HB.out.block pb p2).trans HPB.out)
            have HKA := hid (HS.out _ _ _ HK.out HB.out)
            clear p0 p1
            obtain ⟨p0, p1, p3⟩ := HPA.out.facts
            have HCk := hid (HC.out k wa hk hne HKA.out)
            have egk := eg k
            have hz0 : (((y : Nat) : Int) == ((t.size : Nat) : Int)) = false := by rw [beq_eq_false_iff_ne]; omega
            have HPS := hid hpos
            cases hbo : bo k
            · rw [hbo] at HCk
              have HE := hid (show rg t.size pos bo N 0 = ((y : Int), k + 1) by rw [← HR.out, show N - k = (N - k - 1) + 1 by omega, rg_no hne hbo, hpos])
              clear hbo hpos hne
              go_wp2_with fail
              refine HCk.out.mono ?_
              rintro e wb ⟨rfl, hSb, hkb⟩
              have HSB := hid hSb
              clear hSb hkb
              go_wp2
              go_ret
              rw [HE.out]
              exact ⟨rfl, HSB.out⟩
            · rw [hbo] at HCk
              have HE := hid (show rg t.size pos bo (N - (k + 1)) (k + 1) = rg t.size pos bo N 0 by rw [← HR.out, show N - k = (N - (k + 1)) + 1 by omega, rg_yes hne hbo])
              have HN := hid (fun h => Hp.out k h hne)
              clear hbo hpos hne
              go_wp2_with fail
              refine HCk.out.mono ?_
              rintro e wb ⟨rfl, hSb, hkb⟩
              have HSB := hid hSb
              have HPX := hid (show PBox wb pb (dg k) (.func (.func (K k)) #[] (cp k)) from (hkb pb hLb p3).trans HPA.out)
              clear hSb hkb p0 p1 p3
              obtain ⟨p0, p1, p3⟩ := HPX.out.facts
              go_wp2
              go_roundw
              case rel => exact ⟨k + 1, y + dg k, by go_num, by go_num, by omega, by omega, fun h => by have := HN.out h; rw [HPS.out] at this; exact this, HE.out, HSB.out⟩
              case measure => simp [intOf]; omega
          · have hg' : isDB t[y] = false := by simpa using hg
            rw [hg'] at HG
            have HSN := hid (show sk t.data.toList (y + 1) = pos k by rw [← HSY.out]; exact (sk_miss _ _ (by rw [LT.out]; exact h1) (by rw [bt]; exact hg')).symm)
            clear hg hg' bt
            go_wp2_with fail
            refine (HG.out _).mono ?_
            rintro e w' ⟨rfl, rfl⟩
            go_wp2
            go_roundw
            case rel => exact ⟨y + 1, by go_num, by omega, HSN.out, HPB.out, HK.out⟩
            case measure => simp [intOf]; omega
        · have hye : y = t.size := by omega
          have hpos : pos k = t.size := by rw [← HSY.out, sk_end _ _ (by rw [LT.out]; omega)]; exact hye
          have HE := hid (show rg t.size pos bo N 0 = (-1, k) by rw [← HR.out, show N - k = (N - k - 1) + 1 by omega]; exact rg_end hpos)
          go_wp2
          go_ret
          rw [HE.out]
          exact ⟨rfl, HK.out⟩
    · have HE := hid (show rg t.size pos bo N 0 = (-1, k) by rw [← HR.out, show N - k = 0 by omega]; rfl)
      go_wp2
      go_ret
      rw [HE.out]
      exact ⟨rfl, HK.out⟩
end Go.Proofs.YtjpglgemnaknhaaGreatDoor
