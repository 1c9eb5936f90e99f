/-
  Sheets: offset; errors.Is of an error or of none; what Parse tells, by the Reader's states.
-/
import Derived.Test.YtpgpeafmlijfkaaGreatDoorSdg
import Derived.Test.YtpgpeafmlijfkaaGreatDoorSpi
import Derived.Test.YtpgpeafmlijfkaaGreatDoorSqe
import Derived.Test.YtpgpeafmlijfkaaGreatDoorDsp
namespace Go.Proofs.YtpgpeafmlijfkaaGreatDoor
open Go.RowKit
set_option maxRecDepth 100000
set_option linter.unusedVariables false
set_option linter.unusedSimpArgs false

theorem plc_up (L : List UInt8) (i : Nat) : ∀ d, (plc L i).1 ≤ (plc L (i + d)).1 ∧ ((plc L (i + d)).1 = (plc L i).1 → (plc L (i + d)).2 = (plc L i).2 + d) := by
  intro d
  induction d with
  | zero => exact ⟨Nat.le_refl _, fun _ => rfl⟩
  | succ d ih =>
    have e : plc L (i + (d + 1)) = adv (plc L (i + d)) (bt L (i + d)).toNat := plc_succ L (i + d)
    rw [e]
    unfold adv
    split
    · exact ⟨by simp only []; omega, fun h => by simp only [] at h; omega⟩
    · exact ⟨by simp only []; omega, fun h => by simp only [] at h ⊢; have := ih.2 h; omega⟩
theorem plc_one (L : List UInt8) (i : Nat) : 1 ≤ (plc L i).1 := by
  have := (plc_up L 0 i).1
  rw [Nat.zero_add] at this
  exact this
set_option maxHeartbeats 2000000 in
theorem offset_any (s : ByteArray) (f : Nat) (w : World) (hs : s.size ≤ 140737488355328) (hf : f ≤ s.size) :
    Calls Tryz.prog 20 #[.string s, .int .i64 ((plc s.data.toList f).1 : Int), .int .i64 ((plc s.data.toList f).2 : Int)] w fun e w' => e = .returned (.int .i64 (f : Int)) ∧ w' = w := by
  have h1 := plc_one s.data.toList f
  have hle := plc_le s.data.toList f
  have HU := hid (plc_up s.data.toList)
  obtain ⟨⟨x, y⟩, hp⟩ : ∃ p, p = plc s.data.toList f := ⟨_, rfl⟩
  rw [← hp] at h1 hle ⊢
  simp only [] at h1 hle ⊢
  have HP := hid hp
  clear hp
  have HO := hid (plc_one s.data.toList)
  go_enter Tryz.func20, Tryz.ntmps20
  go_wp2_with fail
  go_loopw [1, 7] (fun l a wr => ∃ (i : Nat), i ≤ f ∧ a = .int .i64 (i : Int) ∧ (plc s.data.toList i).1 ≤ x ∧ l = .int .i64 ((x : Int) + 1 - ((plc s.data.toList i).1 : Int)) ∧ ((plc s.data.toList i).1 = x → (plc s.data.toList i).2 = 0) ∧ wr = w) (fun _ a _ => s.size - (intOf a).toNat)
  case atStart => exact ⟨0, Nat.zero_le _, rfl, h1, by simp [plc], fun _ => rfl, rfl⟩
  case round =>
    obtain ⟨i, hi, rfl, hlx, rfl, hc0, rfl⟩ := hrel
    have hi1 := HO.out i
    have hup := HU.out i (f - i)
    rw [show i + (f - i) = f by omega, ← HP.out] at hup
    simp only [] at hup
    by_cases hlt : (plc s.data.toList i).1 < x
    · have hif : i < f := by
        rcases Nat.lt_or_ge i f with h | h
        · exact h
        · exfalso
          have : i = f := by omega
          subst this
          rw [← HP.out] at hlt
          exact absurd hlt (Nat.lt_irrefl _)
      have hI : (i : Int) < (s.size : Int) := by omega
      have hil : i < s.size := by omega
      have hG : (1 : Int) < (x : Int) + 1 - ((plc s.data.toList i).1 : Int) := by omega
      have hn := plc_succ s.data.toList i
      rw [bt_at s i hil] at hn
      unfold adv at hn
      by_cases h10 : s[i].toNat = 10
      · have p10 : (s[i].toNat : Int) = 10 := by omega
        have e10 : ((s[i].toNat : Int) == 10) = true := by rw [beq_iff_eq]; exact p10
        rw [if_pos h10] at hn
        have HN := hid hn
        clear hn h10 hc0
        generalize plc s.data.toList i = P at *
        go_wp2
        go_roundw
        case rel => exact ⟨i + 1, by omega, by go_num, by rw [HN.out]; simp only []; omega, by rw [HN.out]; simp only []; go_num, fun _ => by rw [HN.out], trivial⟩
        case measure => simp [intOf]; omega
      · have p10 : ¬ (s[i].toNat : Int) = 10 := by omega
        have e10 : ((s[i].toNat : Int) == 10) = false := by rw [beq_eq_false_iff_ne]; exact p10
        rw [if_neg h10] at hn
        have HN := hid hn
        clear hn h10 hc0
        generalize plc s.data.toList i = P at *
        go_wp2
        go_roundw
        case rel => exact ⟨i + 1, by omega, by go_num, by rw [HN.out]; simp only []; omega, by rw [HN.out], fun h => by rw [HN.out] at h; simp only [] at h; omega, trivial⟩
        case measure => simp [intOf]; omega
    · have hx : (plc s.data.toList i).1 = x := by omega
      have h0 := hc0 hx
      have hy := hup.2 hx.symm
      rw [h0] at hy
      have hG : ¬ (1 : Int) < (x : Int) + 1 - ((plc s.data.toList i).1 : Int) := by omega
      have hE : (x : Int) + 1 - ((plc s.data.toList i).1 : Int) = 1 := by omega
      have hN : ((x : Int) + 1 - ((plc s.data.toList i).1 : Int) != 1) = false := by simp; omega
      have hY0 : ¬ (y : Int) < 0 := by omega
      have dY0 : decide ((y : Int) < 0) = false := decide_eq_false hY0
      have hY1 : ¬ (s.size : Int) - (i : Int) < (y : Int) := by omega
      have dY1 : decide ((s.size : Int) - (i : Int) < (y : Int)) = false := decide_eq_false hY1
      have HY := hid (show (i : Int) + (y : Int) = (f : Int) by omega)
      rw [hE] at hG hN ⊢
      clear hE hx h0 hc0 hup hlt
      go_wp2
      go_ret
      exact ⟨congrArg (fun z => Ending.returned (.int .i64 z)) (by first | exact HY.out | omega), rfl⟩
/-! errors.Is, of an error that may be none -/
theorem eql_nil (a : Addr) (w : World) : (binOp .eql 41 .nilIface (.iface 208 (.pointer (some a)))).run Tryz.prog w = .ok (.bool false) w := by kernel_rfl
theorem is_nil (a : Addr) (w : World) : Calls Tryz.prog 21 #[.nilIface, .iface 208 (.pointer (some a))] w fun e w' => e = .returned (.bool false) ∧ w' = w := by
  have qn := eql_nil a
  go_enter Tryz.func21, Tryz.ntmps21
  go_wp2
  go_ret
  exact ⟨rfl, rfl⟩
theorem is_ft (A : Nat → Addr) (ev : Value) (c d : Nat) (p : Nat × Nat) (w : World) (h : FT A w ev c p) (hA : Sn A w) (hc : c ≤ 20) (hd : 1 ≤ d ∧ d ≤ 20) :
    Calls Tryz.prog 21 #[ev, .iface 208 (.pointer (some (A d)))] w fun e w' => e = .returned (.bool (decide (c = d))) ∧ w' = w := by
  rcases h with ⟨rfl, rfl⟩ | ⟨hne, f, rfl, hf⟩
  · rw [decide_eq_false (by omega)]
    exact is_nil (A d) w
  · exact is_at A f c d _ _ w hf hA (by omega) hd
theorem FT.below {A : Nat → Addr} {w w' : World} {ev : Value} {c : Nat} {p : Nat × Nat} (h : FT A w ev c p) (hb : Below w.heap.size w w') : FT A w' ev c p := by
  rcases h with h | ⟨h1, f, h2, h3⟩
  · exact .inl h
  · exact .inr ⟨h1, f, h2, (hb.block f (Array.getElem?_eq_some_iff.1 h3).1).trans h3⟩
/-- what Parse tells, by the Reader's states -/
theorem par_ft {A : Nat → Addr} {w : World} {L : List UInt8} {rv ev : Value} (h : PaR A w L rv ev) : FT A w ev (clP (fdP L)).er (clP (fdP L)).fp ∧ ((clP (fdP L)).er ≤ 8 ∨ (clP (fdP L)).er = 20) := by
  rcases h with ⟨h0, rfl, _⟩ | ⟨hne, hc, _, hf⟩
  · rcases parse_one L with ⟨_, _, e, _⟩ | ⟨h1, _⟩
    · exact ⟨.inl ⟨e, rfl⟩, .inl (by omega)⟩
    · exact absurd h0 h1
  · rcases parse_one L with ⟨h1, _⟩ | ⟨_, h2, h3, h4, _⟩
    · exact absurd h1 hne
    · rw [h3, h4]
      exact ⟨hf, h2⟩
theorem par_slice {A : Nat → Addr} {w : World} {L : List UInt8} {rv ev : Value} (h : PaR A w L rv ev) : ∃ a n c, rv = .slice a n c := by
  rcases h with ⟨_, _, V, ht⟩ | ⟨_, _, rfl, _⟩
  · obtain ⟨a, c, e⟩ := own_slice ht.own
    exact ⟨a, _, c, e⟩
  · exact ⟨none, 0, 0, rfl⟩
theorem ext0 (s : ByteArray) (n : Nat) : (s.extract 0 n).data.toList = s.data.toList.take n := by
  rw [ByteArray.data_extract, Array.toList_extract]
  simp [List.extract]
theorem pslice (s : ByteArray) (j : Nat) (h : j ≤ s.size) (w : World) : (Instr.slice 9 (.string s) none (some (.int .i64 (j : Int))) none).run Tryz.prog w = .ok (.string (s.extract 0 j)) w := by
  have := run_slice_string (P := Tryz.prog) w 9 s .i64 .i64 0 (j : Int) Tryz.underlying9 (by omega) (by omega) (by omega)
  exact this
end Go.Proofs.YtpgpeafmlijfkaaGreatDoor
