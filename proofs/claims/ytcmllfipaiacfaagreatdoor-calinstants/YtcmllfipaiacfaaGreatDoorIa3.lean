/-
  strings.IndexAny of the signs of a zone, in any text.
-/
import Derived.Test.YtcmllfipaiacfaaGreatDoorIa2
import Derived.Deep.LoopGhost
namespace Go.Proofs.YtcmllfipaiacfaaGreatDoor
open Go.RowKit
set_option maxRecDepth 1000000
set_option linter.unusedSimpArgs false

theorem below_iterAt {B : Nat} {w w' : World} (h : Below B w w') (k : Nat) (hk : B ≤ k) (s : ByteArray) (p : Nat) : Below B w (w'.iterAt k s p) :=
  ⟨h.os, h.tape, h.output, by rw [Lib.iterAt_size]; exact h.size, fun j hj => (Lib.iterAt_other w' k j s p (by omega)).trans (h.block j hj)⟩
/-- a byte of a rune that is no byte -/
def Hi (s : ByteArray) (j : Nat) : Prop := ∃ hj : j < s.size, 128 ≤ (s[j]'hj).toNat
theorem get_hi (s : ByteArray) (j : Nat) (hj : j < s.size) : s.get! j = s[j]'hj := by
  have := get_at s j hj
  simpa using this
theorem cont_hi {s : ByteArray} {j : Nat} (h : (decide (j < s.size) && ((s.get! j).toNat / 64 == 2)) = true) : Hi s j := by
  rw [Bool.and_eq_true] at h
  have hj : j < s.size := of_decide_eq_true h.1
  have h2 : (s.get! j).toNat / 64 = 2 := by simpa using h.2
  rw [get_hi s j hj] at h2
  exact ⟨hj, by omega⟩
theorem decode_cont (s : ByteArray) (i : Nat) (h : i < s.size) (ha : 128 ≤ (s[i]'h).toNat) : ∀ j, i ≤ j → j < i + (Utf8.decode s i).2 → Hi s j := by
  have h0 : Hi s i := ⟨h, ha⟩
  have key : (Utf8.decode s i).2 = 1 ∨ ((Utf8.decode s i).2 = 2 ∧ Hi s (i + 1)) ∨ ((Utf8.decode s i).2 = 3 ∧ Hi s (i + 1) ∧ Hi s (i + 2)) ∨ ((Utf8.decode s i).2 = 4 ∧ Hi s (i + 1) ∧ Hi s (i + 2) ∧ Hi s (i + 3)) := by
    unfold Utf8.decode
    simp only []
    split
    · exact .inl rfl
    · split
      · rename_i hc
        rw [Bool.and_eq_true] at hc
        split
        · exact .inr (.inl ⟨rfl, cont_hi hc.2⟩)
        · exact .inl rfl
      · split
        · rename_i hc
          rw [Bool.and_eq_true, Bool.and_eq_true] at hc
          split
          · exact .inr (.inr (.inl ⟨rfl, cont_hi hc.1.2, cont_hi hc.2⟩))
          · exact .inl rfl
        · split
          · rename_i hc
            rw [Bool.and_eq_true, Bool.and_eq_true, Bool.and_eq_true] at hc
            split
            · exact .inr (.inr (.inr ⟨rfl, cont_hi hc.1.1.2, cont_hi hc.1.2, cont_hi hc.2⟩))
            · exact .inl rfl
          · exact .inl rfl
  intro j h1 h2
  obtain ⟨k, rfl⟩ : ∃ k, j = i + k := ⟨j - i, by omega⟩
  have hk : k < (Utf8.decode s i).2 := by omega
  rcases key with e | ⟨e, a⟩ | ⟨e, a, b⟩ | ⟨e, a, b, c⟩
  · rw [e] at hk
    obtain rfl : k = 0 := by omega
    exact h0
  · rw [e] at hk
    match k, hk with
    | 0, _ => exact h0
    | 1, _ => exact a
  · rw [e] at hk
    match k, hk with
    | 0, _ => exact h0
    | 1, _ => exact a
    | 2, _ => exact b
  · rw [e] at hk
    match k, hk with
    | 0, _ => exact h0
    | 1, _ => exact a
    | 2, _ => exact b
    | 3, _ => exact c
theorem high_not (x : UInt8) (h : 128 ≤ x.toNat) : ([90, 43, 45] : List UInt8).contains x = false := by
  have n1 : ¬ x = 90 := fun e => by rw [e] at h; exact absurd h (by decide)
  have n2 : ¬ x = 43 := fun e => by rw [e] at h; exact absurd h (by decide)
  have n3 : ¬ x = 45 := fun e => by rw [e] at h; exact absurd h (by decide)
  simp [n1, n2, n3]
theorem noAny_on (s : ByteArray) (i n : Nat) (h : Lib.NoAny s.data.toList [90, 43, 45] i) (hc : ∀ j, i ≤ j → j < i + n → Hi s j) : Lib.NoAny s.data.toList [90, 43, 45] (i + n) := by
  intro j b hj hb
  by_cases hji : j < i
  · exact h j b hji hb
  · obtain ⟨hjs, hjb⟩ := hc j (by omega) hj
    have e : s.data.toList[j]? = some (s[j]'hjs) := Lib.data_getElem? s j hjs
    rw [e] at hb
    cases hb
    exact high_not _ hjb
set_option maxHeartbeats 8000000 in
theorem iany_short (s : ByteArray) (h8 : s.size ≤ 8) (w : World) :
    Calls Tryz.prog 18 #[.string s, .string zS] w fun e w' => e = .returned (.int .i64 (Lib.indexAny s.data.toList [90, 43, 45])) ∧ Below w.heap.size w w' := by
  have h8z : decide ((8 : Int) < (s.size : Int)) = false := decide_eq_false (by omega)
  have HU := hid (fun w => Tryz.strings_shouldUseASCIISet (s.size : Int) w)
  rw [h8z] at HU
  clear h8z
  go_enter Tryz.func18, Tryz.ntmps18
  go_wp2_with fail
  refine (HU.out _).mono ?_
  rintro e w1 ⟨rfl, rfl⟩
  go_wp2_with fail
  go_loopg [9, 10] s.size (fun g _ _ wx => ∃ i : Nat, i + g = s.size ∧ wx.heap[w1.heap.size]? = some (.stringIter s i) ∧ Below w1.heap.size w1 wx ∧ Lib.NoAny s.data.toList [90, 43, 45] i)
  case atStart => exact ⟨0, by omega, heap_alloc_new w1 (.stringIter s 0), (Below.refl _ _).alloc (Nat.le_refl _) _, Lib.NoAny.zero _ _⟩
  case round =>
    obtain ⟨i, hig, hit, hbl, hno⟩ := hrel
    have HN := hid hno
    have HB := hid hbl
    have HI := hid hit
    clear hno hbl hit
    cases gk with
    | zero =>
      obtain rfl : i = s.size := by omega
      have hnx := fun ty => Lib.run_next_end_at (P := Tryz.prog) wr w1.heap.size s s.size ty HI.out (by omega)
      go_wp2
      go_ret
      exact ⟨by rw [Lib.indexAny_none (by rw [← Lib.size_eq]; exact HN.out)]; rfl, HB.out⟩
    | succ g =>
      have hi : i < s.size := by omega
      obtain ⟨x, hx⟩ : ∃ x : UInt8, s[i]'hi = x := ⟨_, rfl⟩
      have hxl : s.data.toList[i]? = some x := by rw [← hx]; exact Lib.data_getElem? s i hi
      by_cases hx128 : x.toNat < 128
      · have hnx := fun ty => Lib.run_next_ascii_at (P := Tryz.prog) wr w1.heap.size s i ty HI.out hi (by rw [hx]; exact hx128)
        rw [hx] at hnx
        have HR := hid (fun w => Tryz.strings_IndexRune_ascii zS (x.toNat : Int) w (by omega) (by omega))
        have hback : ((x.toNat : Int)).toNat.toUInt8 = x := by simp
        rw [hback] at HR
        have hcon := Lib.contains_iff_indexByte [90, 43, 45] x
        have HX := hid hxl
        have I2 := hid (Lib.iterAt_heap wr w1.heap.size s i (i + 1) HI.out)
        have B2 := hid (below_iterAt HB.out w1.heap.size (Nat.le_refl _) s (i + 1))
        generalize wr.iterAt w1.heap.size s (i + 1) = w2 at *
        have ezs : zS.data.toList = [90, 43, 45] := rfl
        rw [ezs] at HR
        clear hxl hx hback HI HB ezs
        cases hin : ([90, 43, 45] : List UInt8).contains x
        · rw [hin] at hcon
          have hlt : ¬ ((0 : Int) ≤ Lib.indexByte [90, 43, 45] x) := of_decide_eq_false hcon.symm
          clear hcon
          generalize Lib.indexByte [90, 43, 45] x = v at *
          go_wp2_with fail
          refine (HR.out _).mono ?_
          rintro e w3 ⟨rfl, rfl⟩
          go_wp2
          go_roundg g
          case measure => omega
          case rel => exact ⟨i + 1, by omega, I2.out, B2.out, HN.out.succ HX.out hin⟩
        · rw [hin] at hcon
          have hge : (0 : Int) ≤ Lib.indexByte [90, 43, 45] x := of_decide_eq_true hcon.symm
          clear hcon
          generalize Lib.indexByte [90, 43, 45] x = v at *
          go_wp2_with fail
          refine (HR.out _).mono ?_
          rintro e w3 ⟨rfl, rfl⟩
          go_wp2
          go_ret
          exact ⟨by rw [Lib.indexAny_hit HN.out HX.out hin]; rfl, B2.out⟩
      · have ha : 128 ≤ (s[i]'hi).toNat := by rw [hx]; omega
        have hnx := fun ty => Lib.run_next_any_at (P := Tryz.prog) wr w1.heap.size s i ty HI.out hi
        obtain ⟨d1, d2⟩ := decode_high s i hi ha
        have hcn := decode_cont s i hi ha
        obtain ⟨hls, _⟩ := hcn (i + (Utf8.decode s i).2 - 1) (by omega) (by omega)
        have N2 := hid (noAny_on s i _ HN.out hcn)
        have I2 := hid (Lib.iterAt_heap wr w1.heap.size s i (i + (Utf8.decode s i).2) HI.out)
        have B2 := hid (below_iterAt HB.out w1.heap.size (Nat.le_refl _) s (i + (Utf8.decode s i).2))
        have HR := hid (fun w => irune_any (Utf8.decode s i).1 d1 w)
        generalize wr.iterAt w1.heap.size s (i + (Utf8.decode s i).2) = w2 at *
        generalize (Utf8.decode s i).1 = rn at *
        generalize (Utf8.decode s i).2 = wd at *
        clear hxl hx HI HB ha hcn HN
        go_wp2_with fail
        refine (HR.out _).mono ?_
        rintro e w3 ⟨rfl, hb3⟩
        have I3 := hid ((hb3.block w1.heap.size (Array.getElem?_eq_some_iff.1 I2.out).1).trans I2.out)
        have B3 := hid (B2.out.trans (hb3.mono B2.out.size))
        clear hb3 HR I2 B2
        go_wp2
        go_roundg (s.size - (i + wd))
        case measure => omega
        case rel => exact ⟨i + wd, by omega, I3.out, B3.out, N2.out⟩
theorem iany (s : ByteArray) (hs : s.size ≤ 64) (w : World) :
    Calls Tryz.prog 18 #[.string s, .string zS] w fun e w' => e = .returned (.int .i64 (Lib.indexAny s.data.toList [90, 43, 45])) ∧ Below w.heap.size w w' := by
  by_cases h8 : s.size ≤ 8
  · exact iany_short s h8 w
  · refine (Tryz.strings_IndexAny_long (fun w => by kernel_rfl) s zS w (by decide) (by omega) (by omega) (by decide) (fun j b hb => by
      match j, hb with
      | 0, hb => cases hb; decide
      | 1, hb => cases hb; decide
      | 2, hb => cases hb; decide)).mono ?_
    rintro e w' ⟨rfl, rfl⟩
    exact ⟨rfl, ((Below.refl _ _).alloc (Nat.le_refl _) _).alloc (by simp) _⟩
end Go.Proofs.YtcmllfipaiacfaaGreatDoor
