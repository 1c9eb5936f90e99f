/-
  strings.ContainsAny of the bytes that need quotes, in any text. Laid by mksia.py.
-/
import Derived.Test.YtpgpeafmlijfkaaGreatDoorShelf
import Derived.Test.YtpgpeafmlijfkaaGreatDoorSpt
import Derived.Test.YtpgpeafmlijfkaaGreatDoorSq1
import Derived.Laws.RangeAny
import Derived.Laws.Runes
import Derived.Lib.OthersKept
import Derived.BigQuiet
import Derived.WalkMore
import Derived.Deep.LoopGhost
namespace Go.Proofs.YtpgpeafmlijfkaaGreatDoor
open Go.RowKit
set_option maxRecDepth 1000000
set_option linter.unusedSimpArgs false
set_option linter.unusedVariables false

/-- the bytes that need quotes -/
abbrev nS : ByteArray := ⟨#[44, 34, 13, 10, 9]⟩
theorem ib_none {c : UInt8} : ∀ {A : List UInt8}, c ∉ A → Lib.indexByte A c = -1
  | [], _ => rfl
  | a :: A, h => by
    have h1 : ¬ a = c := fun e => h (by simp [e])
    have ih := ib_none (A := A) (fun e => h (List.mem_cons_of_mem _ e))
    show (if a == c then 0 else if Lib.indexByte A c == -1 then -1 else Lib.indexByte A c + 1) = _
    rw [ih, if_neg (by simpa using h1)]
    rfl
theorem run_fromI (t : ByteArray) (i : Nat) (z : Int) (hz : z = (i : Int)) (hi : i ≤ t.size) (w : World) :
    (Instr.slice 9 (.string t) (some (.int .i64 z)) none none).run Tryz.prog w = .ok (.string (t.extract i t.size)) w := by
  subst hz
  simp [Instr.slice, Instr.sliceBounds, Instr.sliceBound, asIntOf, run_underlying Tryz.underlying9, go_sem, hi]
theorem ofNat_high (n : Nat) (h : n < 64) : 128 ≤ (UInt8.ofNat (0x80 + n)).toNat := by
  rw [UInt8.toNat_ofNat']
  omega
theorem enc_cases (r : Nat) (h : 128 ≤ r) : (∃ x y : UInt8, Utf8.encode (r : Int) = ⟨#[x, y]⟩ ∧ 128 ≤ y.toNat) ∨ (∃ x y z : UInt8, Utf8.encode (r : Int) = ⟨#[x, y, z]⟩ ∧ 128 ≤ z.toNat) ∨ ∃ x y z v : UInt8, Utf8.encode (r : Int) = ⟨#[x, y, z, v]⟩ ∧ 128 ≤ v.toNat := by
  unfold Utf8.encode
  obtain ⟨c, hc⟩ : ∃ c, (if Utf8.valid (r : Int) = true then (r : Int).toNat else Utf8.runeError) = c := ⟨_, rfl⟩
  have hb : 128 ≤ c := by
    rw [← hc]
    split
    · simpa using h
    · decide
  simp only [hc]
  rw [if_neg (by omega)]
  split
  · exact .inl ⟨_, _, rfl, ofNat_high _ (Nat.mod_lt _ (by decide))⟩
  · split
    · exact .inr (.inl ⟨_, _, _, rfl, ofNat_high _ (Nat.mod_lt _ (by decide))⟩)
    · exact .inr (.inr ⟨_, _, _, _, rfl, ofNat_high _ (Nat.mod_lt _ (by decide))⟩)
set_option maxHeartbeats 4000000 in
theorem irune_err (w : World) :
    Calls Tryz.prog 106 #[.string nS, .int .i32 65533] w fun e w' => e = .returned (.int .i64 (-1)) ∧ Below w.heap.size w w' := by
  go_enter Tryz.func106, Tryz.ntmps106
  go_wp2_with fail
  go_loopg [5, 6] 5 (fun g _ _ wx => ∃ i : Nat, i + g = 5 ∧ wx = w.iter nS i)
  case atStart => exact ⟨0, by omega, rfl⟩
  case round =>
    obtain ⟨i, hig, rfl⟩ := hrel
    cases gk with
    | zero =>
      obtain rfl : i = 5 := by omega
      have hnx := fun ty => run_next_end (P := Tryz.prog) w nS 5 ty (by decide)
      go_wp2
      go_ret
      exact ⟨rfl, (Below.refl _ _).alloc (Nat.le_refl _) _⟩
    | succ g =>
      have hi : i < 5 := by omega
      match i, hi with
      | 0, _ =>
        have hnx := fun ty => run_next_ascii (P := Tryz.prog) w nS 0 ty (by decide) (by decide)
        go_wp2
        go_roundg g
        case measure => omega
        case rel => exact ⟨1, by omega, rfl⟩
      | 1, _ =>
        have hnx := fun ty => run_next_ascii (P := Tryz.prog) w nS 1 ty (by decide) (by decide)
        go_wp2
        go_roundg g
        case measure => omega
        case rel => exact ⟨2, by omega, rfl⟩
      | 2, _ =>
        have hnx := fun ty => run_next_ascii (P := Tryz.prog) w nS 2 ty (by decide) (by decide)
        go_wp2
        go_roundg g
        case measure => omega
        case rel => exact ⟨3, by omega, rfl⟩
      | 3, _ =>
        have hnx := fun ty => run_next_ascii (P := Tryz.prog) w nS 3 ty (by decide) (by decide)
        go_wp2
        go_roundg g
        case measure => omega
        case rel => exact ⟨4, by omega, rfl⟩
      | 4, _ =>
        have hnx := fun ty => run_next_ascii (P := Tryz.prog) w nS 4 ty (by decide) (by decide)
        go_wp2
        go_roundg g
        case measure => omega
        case rel => exact ⟨5, by omega, rfl⟩
set_option maxHeartbeats 4000000 in
theorem irune_bad (r : Nat) (h : 128 ≤ r) (he : r ≠ 65533) (hv : Lib.validRune (r : Int) = false) (w : World) :
    Calls Tryz.prog 106 #[.string nS, .int .i32 (r : Int)] w fun e w' => e = .returned (.int .i64 (-1)) ∧ Below w.heap.size w w' := by
  have n1 : ¬ (r : Int) < 128 := by omega
  have n2 : ¬ (r : Int) = 65533 := by omega
  have n3 : 0 ≤ (r : Int) := by omega
  have HV := hid (fun w => Tryz.utf8_ValidRune (r : Int) w)
  rw [hv] at HV
  clear hv
  go_enter Tryz.func106, Tryz.ntmps106
  go_wp2_with fail
  refine (HV.out _).mono ?_
  rintro e w1 ⟨rfl, rfl⟩
  go_wp2
  go_ret
  exact ⟨rfl, Below.refl _ _⟩
theorem ib_2 (y : UInt8) (h : 128 ≤ y.toNat) : Lib.indexByte [13, 10, 9] y = -1 := ib_none (by intro e; simp at e; rcases e with e | e | e <;> (rw [e] at h; exact absurd h (by decide)))
theorem run_r2 (w : World) : (Instr.slice 9 (.string nS) (some (.int .i64 2)) none none).run Tryz.prog w = .ok (.string ⟨#[13, 10, 9]⟩) w := by
  have h := run_fromI nS 2 2 rfl (by decide) w
  exact h
set_option maxHeartbeats 4000000 in
theorem irune_2 (r : Nat) (h : 128 ≤ r) (he : r ≠ 65533) (hv : Lib.validRune (r : Int) = true) (x y : UInt8) (hE : Utf8.encode (r : Int) = ⟨#[x, y]⟩) (hy : 128 ≤ y.toNat) (w : World) :
    Calls Tryz.prog 106 #[.string nS, .int .i32 (r : Int)] w fun e w' => e = .returned (.int .i64 (-1)) ∧ Below w.heap.size w w' := by
  have n1 : ¬ (r : Int) < 128 := by omega
  have n2 : ¬ (r : Int) = 65533 := by omega
  have n3 : 0 ≤ (r : Int) := by omega
  have HV := hid (fun w => Tryz.utf8_ValidRune (r : Int) w)
  rw [hv] at HV
  clear hv
  have HI := hid (fun w => Tryz.strings_IndexByte ⟨#[13, 10, 9]⟩ (y.toNat : Int) w)
  have e1 : ((y.toNat : Int)).toNat.toUInt8 = y := by simp
  rw [e1] at HI
  have e2 : Lib.indexByte (⟨#[13, 10, 9]⟩ : ByteArray).data.toList y = -1 := ib_2 y hy
  rw [e2] at HI
  have hn : ¬ (34 : Int) = (y.toNat : Int) := by omega
  have hn2 : ¬ (y.toNat : Int) = 34 := by omega
  have hb : ((34 : Int) == (y.toNat : Int)) = false := by rw [beq_eq_false_iff_ne]; exact hn
  have hne : (34 : UInt8) ≠ y := fun e => by rw [← e] at hy; exact absurd hy (by decide)
  have hnb : (((nS[1]'(by decide)).toNat : Int) != (((⟨#[x, y]⟩ : ByteArray)[1]'(by show 1 < 2; decide)).toNat : Int)) = true := by show ((34 : Int) != (y.toNat : Int)) = true; simp [hn]
  have q := run_r2
  clear e1 e2
  have hcv : ∀ w, (convert 21 9 (.int .i32 (r : Int))).run Tryz.prog w = .ok (.string ⟨#[x, y]⟩) w := fun w => by rw [← hE]; exact run_convert_int_string w _ _ _ _ (by kernel_rfl) Tryz.underlying9
  clear hE
  go_enter Tryz.func106, Tryz.ntmps106
  go_wp2_with fail
  refine (HV.out _).mono ?_
  rintro e w1 ⟨rfl, rfl⟩
  go_wp2_with fail
  go_step3
  go_wp2_with fail
  go_loopw [9] (fun i wr => i = .int .i64 1 ∧ wr = w1) (fun _ _ => 0)
  case atStart => exact ⟨rfl, rfl⟩
  case round =>
    obtain ⟨rfl, rfl⟩ := hrel
    go_wp2_with fail
    go_step3
    go_wp2_with fail
    go_quiet (fail)
    obtain ⟨wq, hwq⟩ : ∃ wq, wr.drewN nq = wq := ⟨_, rfl⟩
    have BQ := hid (show Below wr.heap.size wr wq by rw [← hwq]; exact below_drewN (Below.refl _ _) nq)
    rw [hwq]
    clear hwq nq
    go_wp2_with fail
    go_quiet ((go_at_call 117; exact Calls.quiet_of_same (HI.out _)))
    have BR := hid (BQ.out.trans ((below_drewN (Below.refl wq.heap.size wq) nq).mono BQ.out.size))
    go_wp2
    rw [Exit.noGoto_ret]
    go_wp2
    rw [Exit.noGoto_ret]
    go_wp2
    go_ret
    exact ⟨rfl, BR.out⟩
theorem ib_3 (y : UInt8) (h : 128 ≤ y.toNat) : Lib.indexByte [10, 9] y = -1 := ib_none (by intro e; simp at e; rcases e with e | e <;> (rw [e] at h; exact absurd h (by decide)))
theorem run_r3 (w : World) : (Instr.slice 9 (.string nS) (some (.int .i64 3)) none none).run Tryz.prog w = .ok (.string ⟨#[10, 9]⟩) w := by
  have h := run_fromI nS 3 3 rfl (by decide) w
  exact h
set_option maxHeartbeats 4000000 in
theorem irune_3 (r : Nat) (h : 128 ≤ r) (he : r ≠ 65533) (hv : Lib.validRune (r : Int) = true) (x y z : UInt8) (hE : Utf8.encode (r : Int) = ⟨#[x, y, z]⟩) (hy : 128 ≤ z.toNat) (w : World) :
    Calls Tryz.prog 106 #[.string nS, .int .i32 (r : Int)] w fun e w' => e = .returned (.int .i64 (-1)) ∧ Below w.heap.size w w' := by
  have n1 : ¬ (r : Int) < 128 := by omega
  have n2 : ¬ (r : Int) = 65533 := by omega
  have n3 : 0 ≤ (r : Int) := by omega
  have HV := hid (fun w => Tryz.utf8_ValidRune (r : Int) w)
  rw [hv] at HV
  clear hv
  have HI := hid (fun w => Tryz.strings_IndexByte ⟨#[10, 9]⟩ (z.toNat : Int) w)
  have e1 : ((z.toNat : Int)).toNat.toUInt8 = z := by simp
  rw [e1] at HI
  have e2 : Lib.indexByte (⟨#[10, 9]⟩ : ByteArray).data.toList z = -1 := ib_3 z hy
  rw [e2] at HI
  have hn : ¬ (13 : Int) = (z.toNat : Int) := by omega
  have hn2 : ¬ (z.toNat : Int) = 13 := by omega
  have hb : ((13 : Int) == (z.toNat : Int)) = false := by rw [beq_eq_false_iff_ne]; exact hn
  have hne : (13 : UInt8) ≠ z := fun e => by rw [← e] at hy; exact absurd hy (by decide)
  have hnb : (((nS[2]'(by decide)).toNat : Int) != (((⟨#[x, y, z]⟩ : ByteArray)[2]'(by show 2 < 3; decide)).toNat : Int)) = true := by show ((13 : Int) != (z.toNat : Int)) = true; simp [hn]
  have q := run_r3
  clear e1 e2
  have hcv : ∀ w, (convert 21 9 (.int .i32 (r : Int))).run Tryz.prog w = .ok (.string ⟨#[x, y, z]⟩) w := fun w => by rw [← hE]; exact run_convert_int_string w _ _ _ _ (by kernel_rfl) Tryz.underlying9
  clear hE
  go_enter Tryz.func106, Tryz.ntmps106
  go_wp2_with fail
  refine (HV.out _).mono ?_
  rintro e w1 ⟨rfl, rfl⟩
  go_wp2_with fail
  go_step3
  go_wp2_with fail
  go_loopw [9] (fun i wr => i = .int .i64 2 ∧ wr = w1) (fun _ _ => 0)
  case atStart => exact ⟨rfl, rfl⟩
  case round =>
    obtain ⟨rfl, rfl⟩ := hrel
    go_wp2_with fail
    go_step3
    go_wp2_with fail
    go_quiet (fail)
    obtain ⟨wq, hwq⟩ : ∃ wq, wr.drewN nq = wq := ⟨_, rfl⟩
    have BQ := hid (show Below wr.heap.size wr wq by rw [← hwq]; exact below_drewN (Below.refl _ _) nq)
    rw [hwq]
    clear hwq nq
    go_wp2_with fail
    go_quiet ((go_at_call 117; exact Calls.quiet_of_same (HI.out _)))
    have BR := hid (BQ.out.trans ((below_drewN (Below.refl wq.heap.size wq) nq).mono BQ.out.size))
    go_wp2
    rw [Exit.noGoto_ret]
    go_wp2
    rw [Exit.noGoto_ret]
    go_wp2
    go_ret
    exact ⟨rfl, BR.out⟩
theorem ib_4 (y : UInt8) (h : 128 ≤ y.toNat) : Lib.indexByte [9] y = -1 := ib_none (by intro e; simp at e; rcases e with e <;> (rw [e] at h; exact absurd h (by decide)))
theorem run_r4 (w : World) : (Instr.slice 9 (.string nS) (some (.int .i64 4)) none none).run Tryz.prog w = .ok (.string ⟨#[9]⟩) w := by
  have h := run_fromI nS 4 4 rfl (by decide) w
  exact h
set_option maxHeartbeats 4000000 in
theorem irune_4 (r : Nat) (h : 128 ≤ r) (he : r ≠ 65533) (hv : Lib.validRune (r : Int) = true) (x y z v : UInt8) (hE : Utf8.encode (r : Int) = ⟨#[x, y, z, v]⟩) (hy : 128 ≤ v.toNat) (w : World) :
    Calls Tryz.prog 106 #[.string nS, .int .i32 (r : Int)] w fun e w' => e = .returned (.int .i64 (-1)) ∧ Below w.heap.size w w' := by
  have n1 : ¬ (r : Int) < 128 := by omega
  have n2 : ¬ (r : Int) = 65533 := by omega
  have n3 : 0 ≤ (r : Int) := by omega
  have HV := hid (fun w => Tryz.utf8_ValidRune (r : Int) w)
  rw [hv] at HV
  clear hv
  have HI := hid (fun w => Tryz.strings_IndexByte ⟨#[9]⟩ (v.toNat : Int) w)
  have e1 : ((v.toNat : Int)).toNat.toUInt8 = v := by simp
  rw [e1] at HI
  have e2 : Lib.indexByte (⟨#[9]⟩ : ByteArray).data.toList v = -1 := ib_4 v hy
  rw [e2] at HI
  have hn : ¬ (10 : Int) = (v.toNat : Int) := by omega
  have hn2 : ¬ (v.toNat : Int) = 10 := by omega
  have hb : ((10 : Int) == (v.toNat : Int)) = false := by rw [beq_eq_false_iff_ne]; exact hn
  have hne : (10 : UInt8) ≠ v := fun e => by rw [← e] at hy; exact absurd hy (by decide)
  have hnb : (((nS[3]'(by decide)).toNat : Int) != (((⟨#[x, y, z, v]⟩ : ByteArray)[3]'(by show 3 < 4; decide)).toNat : Int)) = true := by show ((10 : Int) != (v.toNat : Int)) = true; simp [hn]
  have q := run_r4
  clear e1 e2
  have hcv : ∀ w, (convert 21 9 (.int .i32 (r : Int))).run Tryz.prog w = .ok (.string ⟨#[x, y, z, v]⟩) w := fun w => by rw [← hE]; exact run_convert_int_string w _ _ _ _ (by kernel_rfl) Tryz.underlying9
  clear hE
  go_enter Tryz.func106, Tryz.ntmps106
  go_wp2_with fail
  refine (HV.out _).mono ?_
  rintro e w1 ⟨rfl, rfl⟩
  go_wp2_with fail
  go_step3
  go_wp2_with fail
  go_loopw [9] (fun i wr => i = .int .i64 3 ∧ wr = w1) (fun _ _ => 0)
  case atStart => exact ⟨rfl, rfl⟩
  case round =>
    obtain ⟨rfl, rfl⟩ := hrel
    go_wp2_with fail
    go_step3
    go_wp2_with fail
    go_quiet (fail)
    obtain ⟨wq, hwq⟩ : ∃ wq, wr.drewN nq = wq := ⟨_, rfl⟩
    have BQ := hid (show Below wr.heap.size wr wq by rw [← hwq]; exact below_drewN (Below.refl _ _) nq)
    rw [hwq]
    clear hwq nq
    go_wp2_with fail
    go_quiet ((go_at_call 117; exact Calls.quiet_of_same (HI.out _)))
    have BR := hid (BQ.out.trans ((below_drewN (Below.refl wq.heap.size wq) nq).mono BQ.out.size))
    go_wp2
    rw [Exit.noGoto_ret]
    go_wp2
    rw [Exit.noGoto_ret]
    go_wp2
    go_ret
    exact ⟨rfl, BR.out⟩
theorem irune_any (r : Nat) (h : 128 ≤ r) (w : World) :
    Calls Tryz.prog 106 #[.string nS, .int .i32 (r : Int)] w fun e w' => e = .returned (.int .i64 (-1)) ∧ Below w.heap.size w w' := by
  by_cases he : r = 65533
  · subst he
    exact irune_err w
  cases hv : Lib.validRune (r : Int)
  · exact irune_bad r h he hv w
  · rcases enc_cases r h with ⟨x, y, hE, hy⟩ | ⟨x, y, z, hE, hz⟩ | ⟨x, y, z, v, hE, hv4⟩
    · exact irune_2 r h he hv x y hE hy w
    · exact irune_3 r h he hv x y z hE hz w
    · exact irune_4 r h he hv x y z v hE hv4 w
theorem below_iterAt {B : Nat} {w w' : World} (h : Below B w w') (k : Nat) (hk : B ≤ k) (s : ByteArray) (p : Nat) : Below B w (w'.iterAt k s p) :=
  ⟨h.os, h.tape, h.output, by rw [Lib.iterAt_size]; exact h.size, fun j hj => (Lib.iterAt_other w' k j s p (by omega)).trans (h.block j hj)⟩
/-- a byte of a rune that is no byte -/
def Hi (s : ByteArray) (j : Nat) : Prop := ∃ hj : j < s.size, 128 ≤ (s[j]'hj).toNat
theorem get_hi (s : ByteArray) (j : Nat) (hj : j < s.size) : s.get! j = s[j]'hj := by
  have := get_at s j hj
  simpa using this
theorem cont_hi {s : ByteArray} {j : Nat} (h : (decide (j < s.size) && ((s.get! j).toNat / 64 == 2)) = true) : Hi s j := by
  rw [Bool.and_eq_true] at h
  have hj : j < s.size := of_decide_eq_true h.1
  have h2 : (s.get! j).toNat / 64 = 2 := by simpa using h.2
  rw [get_hi s j hj] at h2
  exact ⟨hj, by omega⟩
theorem decode_cont (s : ByteArray) (i : Nat) (h : i < s.size) (ha : 128 ≤ (s[i]'h).toNat) : ∀ j, i ≤ j → j < i + (Utf8.decode s i).2 → Hi s j := by
  have h0 : Hi s i := ⟨h, ha⟩
  have key : (Utf8.decode s i).2 = 1 ∨ ((Utf8.decode s i).2 = 2 ∧ Hi s (i + 1)) ∨ ((Utf8.decode s i).2 = 3 ∧ Hi s (i + 1) ∧ Hi s (i + 2)) ∨ ((Utf8.decode s i).2 = 4 ∧ Hi s (i + 1) ∧ Hi s (i + 2) ∧ Hi s (i + 3)) := by
    unfold Utf8.decode
    simp only []
    split
    · exact .inl rfl
    · split
      · rename_i hc
        rw [Bool.and_eq_true] at hc
        split
        · exact .inr (.inl ⟨rfl, cont_hi hc.2⟩)
        · exact .inl rfl
      · split
        · rename_i hc
          rw [Bool.and_eq_true, Bool.and_eq_true] at hc
          split
          · exact .inr (.inr (.inl ⟨rfl, cont_hi hc.1.2, cont_hi hc.2⟩))
          · exact .inl rfl
        · split
          · rename_i hc
            rw [Bool.and_eq_true, Bool.and_eq_true, Bool.and_eq_true] at hc
            split
            · exact .inr (.inr (.inr ⟨rfl, cont_hi hc.1.1.2, cont_hi hc.1.2, cont_hi hc.2⟩))
            · exact .inl rfl
          · exact .inl rfl
  intro j h1 h2
  obtain ⟨k, rfl⟩ : ∃ k, j = i + k := ⟨j - i, by omega⟩
  have hk : k < (Utf8.decode s i).2 := by omega
  rcases key with e | ⟨e, a⟩ | ⟨e, a, b⟩ | ⟨e, a, b, c⟩
  · rw [e] at hk
    obtain rfl : k = 0 := by omega
    exact h0
  · rw [e] at hk
    match k, hk with
    | 0, _ => exact h0
    | 1, _ => exact a
  · rw [e] at hk
    match k, hk with
    | 0, _ => exact h0
    | 1, _ => exact a
    | 2, _ => exact b
  · rw [e] at hk
    match k, hk with
    | 0, _ => exact h0
    | 1, _ => exact a
    | 2, _ => exact b
    | 3, _ => exact c
theorem high_not (x : UInt8) (h : 128 ≤ x.toNat) : ([44, 34, 13, 10, 9] : List UInt8).contains x = false := by
  have n0 : ¬ x = 44 := fun e => by rw [e] at h; exact absurd h (by decide)
  have n1 : ¬ x = 34 := fun e => by rw [e] at h; exact absurd h (by decide)
  have n2 : ¬ x = 13 := fun e => by rw [e] at h; exact absurd h (by decide)
  have n3 : ¬ x = 10 := fun e => by rw [e] at h; exact absurd h (by decide)
  have n4 : ¬ x = 9 := fun e => by rw [e] at h; exact absurd h (by decide)
  simp [n0, n1, n2, n3, n4]
theorem noAny_on (s : ByteArray) (i n : Nat) (h : Lib.NoAny s.data.toList [44, 34, 13, 10, 9] i) (hc : ∀ j, i ≤ j → j < i + n → Hi s j) : Lib.NoAny s.data.toList [44, 34, 13, 10, 9] (i + n) := by
  intro j b hj hb
  by_cases hji : j < i
  · exact h j b hji hb
  · obtain ⟨hjs, hjb⟩ := hc j (by omega) hj
    have e : s.data.toList[j]? = some (s[j]'hjs) := Lib.data_getElem? s j hjs
    rw [e] at hb
    cases hb
    exact high_not _ hjb
set_option maxHeartbeats 8000000 in
theorem iany_short (s : ByteArray) (h8 : s.size ≤ 8) (w : World) :
    Calls Tryz.prog 96 #[.string s, .string nS] w fun e w' => e = .returned (.int .i64 (Lib.indexAny s.data.toList [44, 34, 13, 10, 9])) ∧ Below w.heap.size w w' := by
  have h8z : decide ((8 : Int) < (s.size : Int)) = false := decide_eq_false (by omega)
  have HU := hid (fun w => Tryz.strings_shouldUseASCIISet (s.size : Int) w)
  rw [h8z] at HU
  clear h8z
  go_enter Tryz.func96, Tryz.ntmps96
  go_wp2_with fail
  refine (HU.out _).mono ?_
  rintro e w1 ⟨rfl, rfl⟩
  go_wp2_with fail
  go_loopg [9, 10] s.size (fun g _ _ wx => ∃ i : Nat, i + g = s.size ∧ wx.heap[w1.heap.size]? = some (.stringIter s i) ∧ Below w1.heap.size w1 wx ∧ Lib.NoAny s.data.toList [44, 34, 13, 10, 9] i)
  case atStart => exact ⟨0, by omega, heap_alloc_new w1 (.stringIter s 0), (Below.refl _ _).alloc (Nat.le_refl _) _, Lib.NoAny.zero _ _⟩
  case round =>
    obtain ⟨i, hig, hit, hbl, hno⟩ := hrel
    have HN := hid hno
    have HB := hid hbl
    have HI := hid hit
    clear hno hbl hit
    cases gk with
    | zero =>
      obtain rfl : i = s.size := by omega
      have hnx := fun ty => Lib.run_next_end_at (P := Tryz.prog) wr w1.heap.size s s.size ty HI.out (by omega)
      go_wp2
      go_ret
      exact ⟨by rw [Lib.indexAny_none (by rw [← Lib.size_eq]; exact HN.out)]; rfl, HB.out⟩
    | succ g =>
      have hi : i < s.size := by omega
      obtain ⟨x, hx⟩ : ∃ x : UInt8, s[i]'hi = x := ⟨_, rfl⟩
      have hxl : s.data.toList[i]? = some x := by rw [← hx]; exact Lib.data_getElem? s i hi
      by_cases hx128 : x.toNat < 128
      · have hnx := fun ty => Lib.run_next_ascii_at (P := Tryz.prog) wr w1.heap.size s i ty HI.out hi (by rw [hx]; exact hx128)
        rw [hx] at hnx
        have HR := hid (fun w => Tryz.strings_IndexRune_ascii nS (x.toNat : Int) w (by omega) (by omega))
        have hback : ((x.toNat : Int)).toNat.toUInt8 = x := by simp
        rw [hback] at HR
        have hcon := Lib.contains_iff_indexByte [44, 34, 13, 10, 9] x
        have HX := hid hxl
        have I2 := hid (Lib.iterAt_heap wr w1.heap.size s i (i + 1) HI.out)
        have B2 := hid (below_iterAt HB.out w1.heap.size (Nat.le_refl _) s (i + 1))
        generalize wr.iterAt w1.heap.size s (i + 1) = w2 at *
        have ezs : nS.data.toList = [44, 34, 13, 10, 9] := rfl
        rw [ezs] at HR
        clear hxl hx hback HI HB ezs
        cases hin : ([44, 34, 13, 10, 9] : List UInt8).contains x
        · rw [hin] at hcon
          have hlt : ¬ ((0 : Int) ≤ Lib.indexByte [44, 34, 13, 10, 9] x) := of_decide_eq_false hcon.symm
          clear hcon
          generalize Lib.indexByte [44, 34, 13, 10, 9] x = v at *
          go_wp2_with fail
          refine (HR.out _).mono ?_
          rintro e w3 ⟨rfl, rfl⟩
          go_wp2
          go_roundg g
          case measure => omega
          case rel => exact ⟨i + 1, by omega, I2.out, B2.out, HN.out.succ HX.out hin⟩
        · rw [hin] at hcon
          have hge : (0 : Int) ≤ Lib.indexByte [44, 34, 13, 10, 9] x := of_decide_eq_true hcon.symm
          clear hcon
          generalize Lib.indexByte [44, 34, 13, 10, 9] x = v at *
          go_wp2_with fail
          refine (HR.out _).mono ?_
          rintro e w3 ⟨rfl, rfl⟩
          go_wp2
          go_ret
          exact ⟨by rw [Lib.indexAny_hit HN.out HX.out hin]; rfl, B2.out⟩
      · have ha : 128 ≤ (s[i]'hi).toNat := by rw [hx]; omega
        have hnx := fun ty => Lib.run_next_any_at (P := Tryz.prog) wr w1.heap.size s i ty HI.out hi
        obtain ⟨d1, d2⟩ := decode_high s i hi ha
        have hcn := decode_cont s i hi ha
        obtain ⟨hls, _⟩ := hcn (i + (Utf8.decode s i).2 - 1) (by omega) (by omega)
        have N2 := hid (noAny_on s i _ HN.out hcn)
        have I2 := hid (Lib.iterAt_heap wr w1.heap.size s i (i + (Utf8.decode s i).2) HI.out)
        have B2 := hid (below_iterAt HB.out w1.heap.size (Nat.le_refl _) s (i + (Utf8.decode s i).2))
        have HR := hid (fun w => irune_any (Utf8.decode s i).1 d1 w)
        generalize wr.iterAt w1.heap.size s (i + (Utf8.decode s i).2) = w2 at *
        generalize (Utf8.decode s i).1 = rn at *
        generalize (Utf8.decode s i).2 = wd at *
        clear hxl hx HI HB ha hcn HN
        go_wp2_with fail
        refine (HR.out _).mono ?_
        rintro e w3 ⟨rfl, hb3⟩
        have I3 := hid ((hb3.block w1.heap.size (Array.getElem?_eq_some_iff.1 I2.out).1).trans I2.out)
        have B3 := hid (B2.out.trans (hb3.mono B2.out.size))
        clear hb3 HR I2 B2
        go_wp2
        go_roundg (s.size - (i + wd))
        case measure => omega
        case rel => exact ⟨i + wd, by omega, I3.out, B3.out, N2.out⟩
theorem iany (s : ByteArray) (hs : s.size ≤ 4096) (w : World) :
    Calls Tryz.prog 96 #[.string s, .string nS] w fun e w' => e = .returned (.int .i64 (Lib.indexAny s.data.toList [44, 34, 13, 10, 9])) ∧ Below w.heap.size w w' := by
  by_cases h8 : s.size ≤ 8
  · exact iany_short s h8 w
  · refine (Tryz.strings_IndexAny_long (fun w => by kernel_rfl) s nS w (by decide) (by omega) (by omega) (by decide) (fun j b hb => by
      match j, hb with
      | 0, hb => cases hb; decide
      | 1, hb => cases hb; decide
      | 2, hb => cases hb; decide
      | 3, hb => cases hb; decide
      | 4, hb => cases hb; decide)).mono ?_
    rintro e w' ⟨rfl, rfl⟩
    exact ⟨rfl, ((Below.refl _ _).alloc (Nat.le_refl _) _).alloc (by simp) _⟩
theorem nq_in (c : UInt8) : ([44, 34, 13, 10, 9] : List UInt8).contains c = nqB c.toNat := by
  have key : ∀ n : Fin 256, ([44, 34, 13, 10, 9] : List UInt8).contains (UInt8.ofNat n.1) = nqB (UInt8.ofNat n.1).toNat := by decide +kernel
  have := key ⟨c.toNat, c.toNat_lt⟩
  simpa using this
theorem any_nq (l : List UInt8) : decide (0 ≤ Lib.indexAny l [44, 34, 13, 10, 9]) = l.any (fun c => nqB c.toNat) := by
  induction l with
  | nil => rfl
  | cons b l ih =>
    have hg := Lib.indexAny_ge [44, 34, 13, 10, 9] l
    rw [Lib.indexAny, List.any_cons, nq_in, ← ih]
    cases hb : nqB b.toNat
    · rw [if_neg (by decide), Bool.false_or]
      by_cases h1 : Lib.indexAny l [44, 34, 13, 10, 9] = -1
      · rw [h1]; rfl
      · rw [if_neg (by simpa using h1)]
        by_cases h0 : 0 ≤ Lib.indexAny l [44, 34, 13, 10, 9]
        · rw [decide_eq_true h0, decide_eq_true (by omega)]
        · omega
    · rw [if_pos rfl]; rfl
set_option maxHeartbeats 1000000 in
theorem cany (s : ByteArray) (hs : s.size ≤ 4096) (w : World) :
    Calls Tryz.prog 83 #[.string s, .string nS] w fun e w' => e = .returned (.bool (s.data.toList.any (fun c => nqB c.toNat))) ∧ Below w.heap.size w w' := by
  have HI := hid (iany s hs w)
  have hx := any_nq s.data.toList
  generalize s.data.toList.any (fun c => nqB c.toNat) = X at *
  generalize Lib.indexAny s.data.toList [44, 34, 13, 10, 9] = v at *
  go_enter Tryz.func83, Tryz.ntmps83
  go_wp2_with fail
  refine Calls.mono HI.out ?_
  rintro e w1 ⟨rfl, hb⟩
  cases X
  · have h0 : ¬ (0 : Int) ≤ v := of_decide_eq_false hx
    go_wp2
    go_ret
    exact ⟨rfl, hb⟩
  · have h0 : (0 : Int) ≤ v := of_decide_eq_true hx
    go_wp2
    go_ret
    exact ⟨rfl, hb⟩
end Go.Proofs.YtpgpeafmlijfkaaGreatDoor
