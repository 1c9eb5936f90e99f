/-
  SheetQuoted: the law's own walk, out of the contracts. Laid by mklawsqu.py.
-/
import Derived.Test.YtedgdgaobgkffaaDoorSqe
import Derived.Test.YtedgdgaobgkffaaDoorSf1
import Derived.Test.YtedgdgaobgkffaaDoorSg1
import Derived.Laws.Strings2
namespace Go.Proofs.YtedgdgaobgkffaaDoor
open Go.RowKit
set_option maxRecDepth 100000
set_option linter.unusedVariables false
set_option linter.unusedSimpArgs false

/-- the first byte that no cell has, among the first j -/
def Bd (T : List UInt8) (j : Nat) (z : Int) : Prop :=
  (z = -1 ∧ ∀ i (hi : i < T.length), i < j → mayB (T[i]).toNat = true) ∨ ∃ (b : Nat) (hb : b < T.length), z = (b : Int) ∧ b < j ∧ (∀ i (hi : i < T.length), i < b → mayB (T[i]).toNat = true) ∧ mayB (T[b]).toNat = false

theorem list_at (s : ByteArray) (m : Nat) (h : m < s.size) : s.data.toList[m]'(by rw [Array.length_toList]; exact h) = s[m] := by
  rw [Array.getElem_toList]
  rfl
theorem ext_one (s : ByteArray) (m : Nat) (h : m < s.size) : (s.extract m (m + 1)).data.toList = [s[m]] := by
  have hl : m < s.data.toList.length := by rw [Array.length_toList]; exact h
  rw [ByteArray.data_extract, Array.toList_extract, List.extract_eq_take_drop, List.drop_eq_getElem_cons hl, list_at s m h]
  rw [show m + 1 - m = 1 by omega]
  simp
theorem slice_one (s : ByteArray) (m : Nat) (h : m < s.size) (w : World) : (Instr.slice 9 (.string s) (some (.int .i64 (m : Int))) (some (.int .i64 ((m : Int) + 1))) none).run Tryd.prog w = .ok (.string (s.extract m (m + 1))) w := by
  have h1 : (m : Int) ≤ (m : Int) + 1 := by omega
  have h2 : (m : Int) + 1 ≤ (s.size : Int) := by omega
  have := run_slice_string (P := Tryd.prog) w 9 s .i64 .i64 (m : Int) ((m : Int) + 1) Tryd.underlying9 (by omega) h1 h2
  rw [this]
  congr 3
theorem may_cases {c : Nat} (h : mayB c = true) : c = 9 ∨ c = 10 ∨ c = 13 ∨ (32 ≤ c ∧ c ≠ 127) := by
  unfold mayB at h
  simp at h
  omega
theorem may_not {c : Nat} (h : mayB c = false) (h7 : c ≠ 127) : c < 32 ∧ c ≠ 9 ∧ c ≠ 10 ∧ c ≠ 13 := by
  unfold mayB at h
  simp at h
  omega
theorem bd_next {s : ByteArray} {m : Nat} {z : Int} (h : Bd s.data.toList m z) (hm : m < s.size) (hc : mayB s[m].toNat = true) : Bd s.data.toList (m + 1) z := by
  rcases h with ⟨h1, h2⟩ | ⟨b, hb, h1, h2, h3, h4⟩
  · refine .inl ⟨h1, fun i hi hlt => ?_⟩
    by_cases he : i = m
    · subst he
      rw [list_at s i hm]
      exact hc
    · exact h2 i hi (by omega)
  · exact .inr ⟨b, hb, h1, by omega, h3, h4⟩
theorem bd_bad {s : ByteArray} {m : Nat} (h : ∀ i (hi : i < s.data.toList.length), i < m → mayB (s.data.toList[i]).toNat = true) (hm : m < s.size) (hc : mayB s[m].toNat = false) : Bd s.data.toList (m + 1) (m : Int) :=
  .inr ⟨m, by rw [Array.length_toList]; exact hm, rfl, by omega, h, by rw [list_at s m hm]; exact hc⟩
theorem dbl_one {s S : ByteArray} {m : Nat} (hS : S.data.toList = 34 :: dbl (s.data.toList.take m)) (hm : m < s.size) (hX : (s.extract m (m + 1)).data.toList = [s[m]]) (hq : ¬ s[m].toNat = 34) : (S ++ s.extract m (m + 1)).data.toList = 34 :: dbl (s.data.toList.take (m + 1)) := by
  have hl : m < s.data.toList.length := by rw [Array.length_toList]; exact hm
  rw [ByteArray.data_append, Array.toList_append, hS, hX, List.take_succ_eq_append_getElem hl, dbl_app, list_at s m hm]
  simp [dbl, hq]
theorem dbl_two {s S : ByteArray} {m : Nat} (hS : S.data.toList = 34 :: dbl (s.data.toList.take m)) (hm : m < s.size) (hX : (s.extract m (m + 1)).data.toList = [s[m]]) (hq : s[m].toNat = 34) : (S ++ s.extract m (m + 1) ++ ⟨#[34]⟩).data.toList = 34 :: dbl (s.data.toList.take (m + 1)) := by
  have hl : m < s.data.toList.length := by rw [Array.length_toList]; exact hm
  have h34 : s[m] = 34 := UInt8.toNat_inj.1 (by rw [hq]; rfl)
  rw [ByteArray.data_append, Array.toList_append, ByteArray.data_append, Array.toList_append, hS, hX, List.take_succ_eq_append_getElem hl, dbl_app, list_at s m hm]
  simp [dbl, h34]
theorem sheet_is {C S : ByteArray} {T : List UInt8} {j k : Nat} (hC : C.data.toList = List.replicate j 44) (hj : j = k) (hS : S.data.toList = 34 :: dbl T) : (C ++ S ++ ⟨#[34, 44, 122, 13, 10]⟩).data.toList = Qs k T := by
  subst hj
  rw [ByteArray.data_append, Array.toList_append, ByteArray.data_append, Array.toList_append, hC, hS]
  rfl
theorem bd_all {T : List UInt8} {m : Nat} {z : Int} (h : Bd T m z) (hm : T.length ≤ m) : Bd T T.length z := by
  rcases h with ⟨h1, h2⟩ | ⟨b, hb, h1, h2, h3, h4⟩
  · exact .inl ⟨h1, fun i hi _ => h2 i hi (by omega)⟩
  · exact .inr ⟨b, hb, h1, hb, h3, h4⟩
theorem bd_fine {T : List UInt8} {z : Int} (h : Bd T T.length z) (hq : qo T 0 = 0) : z = -1 ∧ T.length ≤ 4096 := by
  have hl : T.length ≤ 4096 := by
    rcases Nat.lt_or_ge 4096 T.length with h' | h'
    · exact absurd hq (qo_long T 0 (by omega) (by omega))
    · exact h'
  rcases h with ⟨h1, _⟩ | ⟨b, hb, h1, h2, h3, h4⟩
  · exact ⟨h1, hl⟩
  · have := qo_bad T 0 b hb (fun i hi => h3 i (by omega) hi) h4 (by omega)
    omega
theorem bd_bad_cases {T : List UInt8} {z : Int} (h : Bd T T.length z) (hq : qo T 0 ≠ 0) : (∃ b : Nat, z = (b : Int) ∧ b < 4096 ∧ qo T 0 = 4) ∨ (4096 < T.length ∧ (z = -1 ∨ (0 ≤ z ∧ 4096 ≤ z))) := by
  rcases h with ⟨h1, h2⟩ | ⟨b, hb, h1, h2, h3, h4⟩
  · right
    refine ⟨?_, .inl h1⟩
    rcases Nat.lt_or_ge 4096 T.length with h' | h'
    · exact h'
    · exact absurd (qo_fine T 0 (fun i hi => h2 i hi hi) (by omega)) hq
  · rcases Nat.lt_or_ge b 4096 with h' | h'
    · exact .inl ⟨b, h1, h', qo_bad T 0 b hb (fun i hi => h3 i (by omega) hi) h4 (by omega)⟩
    · exact .inr ⟨by omega, .inr ⟨by omega, by omega⟩⟩
theorem HE.below {A : Nat → Addr} {w w' : World} (h : HE A w) (hb : Below w.heap.size w w') : HE A w' := by
  have k : ∀ {p : Addr} {u : Value}, w.cell? p = some u → w'.cell? p = some u := fun {p u} hc => (hb.cell (p := p) (World.block_lt_of_cell? _ _ hc)).trans hc
  exact ⟨k h.e1, k h.e2, k h.e3, k h.e4, k h.e5, k h.e6, k h.e7, k h.e8, k h.e9, k h.e20⟩
theorem Apt.below {A : Nat → Addr} {w w' : World} (h : Apt A w) (hb : Below w.heap.size w w') : Apt A w' :=
  ⟨h.one, fun c hc => by obtain ⟨ca, ta, hl⟩ := h.lie c hc; exact ⟨ca, ta, (hb.block _ (Array.getElem?_eq_some_iff.1 hl).1).trans hl⟩⟩
theorem row_cells {w : World} {rv : Value} {V : List Value} {k : Nat} {T : List UInt8} (h : TR w rv V [List.replicate k [] ++ [T] ++ [[122]]]) :
    ∃ g cap g2 cap2, rv = .slice (some ⟨g, 0, none⟩) 1 cap ∧ 1 ≤ cap ∧ w.cell? ⟨g, 0, none⟩ = some (.slice (some ⟨g2, 0, none⟩) (k + 2) cap2) ∧ k + 2 ≤ cap2 ∧ w.cell? ⟨g2, k, none⟩ = some (.string ⟨T.toArray⟩) ∧ w.cell? ⟨g2, k + 1, none⟩ = some (.string ⟨#[122]⟩) := by
  have hl : V.length = 1 := h.rws.len
  obtain ⟨v, rfl⟩ : ∃ v, V = [v] := by
    match V, hl with
    | [v], _ => exact ⟨v, rfl⟩
  have hr := h.rws.row 0 (by simp) (by simp)
  have hr' : w.ownsRow 0 9 1 v (k + 2) (tl (List.replicate k [] ++ [T] ++ [[122]])) := by simpa using hr
  have hc1 := fun g hg => World.ownsRow.cells h.own (g := g) hg
  have hc2 := fun g hg => World.ownsRow.cells hr' (g := g) hg
  rcases h.own.2 with ⟨_, h0⟩ | ⟨g, cap, cur, rfl, _, _, hcap, _⟩
  · simp at h0
  rcases hr'.2 with ⟨_, h0⟩ | ⟨g2, cap2, cur2, rfl, _, _, hcap2, _⟩
  · omega
  have e0 := hc1 g rfl 0 (.slice (some ⟨g2, 0, none⟩) (k + 2) cap2) (by simp)
  have e1 := hc2 g2 rfl k (.string ⟨T.toArray⟩) (by simp [tl])
  have e2 := hc2 g2 rfl (k + 1) (.string ⟨#[122]⟩) (by simp [tl])
  rw [Addr.add_lit, Nat.zero_add] at e0 e1 e2
  exact ⟨g, cap, g2, cap2, rfl, hcap, e0, hcap2, e1, e2⟩
set_option maxHeartbeats 4000000 in
theorem quoted_law (A : Nat → Addr) (s : ByteArray) (x : Int) (w : World) (hE : HE A w) (hA : Apt A w) (hs : s.size ≤ 140737488355328) (hx : -9223372036854775808 ≤ x ∧ x ≤ 9223372036854775807) :
    Calls Tryd.prog 3 #[.string s, .int .i64 x] w fun e w' => e = .returned (.bool true) ∧ Below w.heap.size w w' := by
  have HE := hid hE
  have HA := hid hA
  have HP := hid (fun t => parse_any A t w hE)
  have hm1 := Int.tmod_lt_of_pos x (b := 60) (by decide)
  have hm2 := Int.lt_tmod_of_pos x (b := 60) (by decide)
  have hds : s.data.toList.length = s.size := by rw [Array.length_toList]; rfl
  clear hE hA
  by_cases hz : x.tmod 60 < 0
  · obtain ⟨k, hk, hkz⟩ : ∃ k : Nat, k ≤ 59 ∧ x.tmod 60 = -(k : Int) := ⟨(-x.tmod 60).toNat, by omega, by omega⟩
    have hk0 : -(k : Int) < 0 := by omega
    have hk1 : (0 : Int) < (k : Int) := by omega
    have hk2 : wrap64 (k : Int) = (k : Int) := by unfold wrap64; omega
    clear hx hz hm1 hm2
    go_enter Tryd.func3, Tryd.ntmps3
    go_wp2_with fail
    clear hkz hk0
    go_loopw [7, 8] (fun c i wr => ∃ (j : Nat) (C : ByteArray), j ≤ k ∧ i = .int .i64 (j : Int) ∧ c = .string C ∧ C.data.toList = List.replicate j 44 ∧ w = wr) (fun _ i _ => k - (intOf i).toNat)
    case atStart => exact ⟨0, ⟨#[]⟩, Nat.zero_le _, rfl, rfl, rfl, rfl⟩
    case round =>
      obtain ⟨j, C, hj, rfl, rfl, hC, hwr⟩ := hrel
      subst hwr
      by_cases hlt : j < k
      · have hI : (j : Int) < (k : Int) := by omega
        have HC := hid hC
        have hCs : C.size = j := by have := congrArg List.length hC; simpa using this
        clear hC
        go_wp2
        go_roundw
        case rel => exact ⟨j + 1, _, by omega, by go_num, rfl, by rw [ByteArray.data_append, Array.toList_append, HC.out, List.replicate_succ'], trivial⟩
        case measure => simp [intOf]; omega
      · have hI : ¬ (j : Int) < (k : Int) := by omega
        have hjk : j = k := by omega
        have HC := hid hC
        have HJ := hid hjk
        clear hC hj hlt hjk
        go_wp2_with fail
        go_loopw [6, 9, 10] (fun t b i wr => ∃ (m : Nat) (S : ByteArray) (z : Int), m ≤ s.data.toList.length ∧ i = .int .i64 (m : Int) ∧ t = .string S ∧ S.data.toList = 34 :: dbl (s.data.toList.take m) ∧ b = .int .i64 z ∧ Bd s.data.toList m z ∧ w = wr) (fun _ _ i _ => s.size - (intOf i).toNat)
        case atStart => exact ⟨0, ⟨#[34]⟩, -1, Nat.zero_le _, rfl, rfl, rfl, rfl, .inl ⟨rfl, fun i hi h0 => absurd h0 (Nat.not_lt_zero _)⟩, rfl⟩
        case round =>
          obtain ⟨m, S, z, hm, rfl, rfl, hS, rfl, hB, hwr⟩ := hrel
          subst hwr
          by_cases hlt : m < s.size
          · have hI : (m : Int) < (s.size : Int) := by omega
            have hI2 : (m : Int) + 1 ≤ (s.size : Int) := by omega
            have hT : m < s.data.toList.length := by omega
            have hex := ext_one s m hlt
            have hexs : (s.extract m (m + 1)).size = 1 := by simp; omega
            have qs := slice_one s m hlt
            have hSs : S.size ≤ 300000000000000 := by
              have h1 := congrArg List.length hS
              have h2 := dbl_len (s.data.toList.take m)
              simp at h1 h2
              omega
            have HS := hid hS
            have HX := hid hex
            have HBd := hid hB
            have HDS := hid hds
            clear hS hex hB hds
            by_cases q34 : s[m].toNat = 34
            · have p34 : (s[m].toNat : Int) = 34 := by omega
              have b34 : ((s[m].toNat : Int) == 34) = true := by rw [beq_iff_eq]; exact p34
              have hmay : mayB s[m].toNat = true := by rw [q34]; rfl
              have HR := hid (bd_next HBd.out hlt hmay)
              have HN := hid (dbl_two HS.out hlt HX.out q34)
              rcases HBd.out with ⟨rfl, _⟩ | ⟨b0, hb0, rfl, _⟩
              · have p127 : ¬ (s[m].toNat : Int) = 127 := by omega
                have p32 : ¬ (s[m].toNat : Int) < 32 := by omega
                have d32 : decide ((s[m].toNat : Int) < 32) = false := by simp; omega
                have b127 : ((s[m].toNat : Int) == 127) = false := by rw [beq_eq_false_iff_ne]; omega
                clear q34 hmay
                go_wp2
                go_roundw
                case rel => exact ⟨m + 1, _, -1, by omega, by go_num, rfl, HN.out, rfl, HR.out, trivial⟩
                case measure => simp [intOf]; omega
              · have z0 : ¬ (b0 : Int) < 0 := by omega
                have dz : decide ((b0 : Int) < 0) = false := by simp
                clear q34 hmay
                go_wp2
                go_roundw
                case rel => exact ⟨m + 1, _, (b0 : Int), by omega, by go_num, rfl, HN.out, rfl, HR.out, trivial⟩
                case measure => simp [intOf]; omega
            · have p34 : ¬ (s[m].toNat : Int) = 34 := by omega
              have b34 : ((s[m].toNat : Int) == 34) = false := by rw [beq_eq_false_iff_ne]; exact p34
              have HN := hid (dbl_one HS.out hlt HX.out q34)
              by_cases hmay : mayB s[m].toNat = true
              · have HR := hid (bd_next HBd.out hlt hmay)
                rcases HBd.out with ⟨rfl, _⟩ | ⟨b0, hb0, rfl, _⟩
                · have hcs : s[m].toNat = 9 ∨ s[m].toNat = 10 ∨ s[m].toNat = 13 ∨ (32 ≤ s[m].toNat ∧ s[m].toNat ≠ 127) := may_cases hmay
                  rcases hcs with h9 | h9 | h9 | h9
                  · have p127 : ¬ (s[m].toNat : Int) = 127 := by omega
                    have p32 : (s[m].toNat : Int) < 32 := by omega
                    have pk : (s[m].toNat : Int) = 9 := by omega
                    clear h9 hmay q34
                    go_wp2
                    go_roundw
                    case rel => exact ⟨m + 1, _, -1, by omega, by go_num, rfl, HN.out, rfl, HR.out, trivial⟩
                    case measure => simp [intOf]; omega
                  · have p127 : ¬ (s[m].toNat : Int) = 127 := by omega
                    have p32 : (s[m].toNat : Int) < 32 := by omega
                    have pk : (s[m].toNat : Int) = 10 := by omega
                    clear h9 hmay q34
                    go_wp2
                    go_roundw
                    case rel => exact ⟨m + 1, _, -1, by omega, by go_num, rfl, HN.out, rfl, HR.out, trivial⟩
                    case measure => simp [intOf]; omega
                  · have p127 : ¬ (s[m].toNat : Int) = 127 := by omega
                    have p32 : (s[m].toNat : Int) < 32 := by omega
                    have pk : (s[m].toNat : Int) = 13 := by omega
                    clear h9 hmay q34
                    go_wp2
                    go_roundw
                    case rel => exact ⟨m + 1, _, -1, by omega, by go_num, rfl, HN.out, rfl, HR.out, trivial⟩
                    case measure => simp [intOf]; omega
                  · have p127 : ¬ (s[m].toNat : Int) = 127 := by omega
                    have p32 : ¬ (s[m].toNat : Int) < 32 := by omega
                    clear h9 hmay q34
                    go_wp2
                    go_roundw
                    case rel => exact ⟨m + 1, _, -1, by omega, by go_num, rfl, HN.out, rfl, HR.out, trivial⟩
                    case measure => simp [intOf]; omega
                · have z0 : ¬ (b0 : Int) < 0 := by omega
                  have dz : decide ((b0 : Int) < 0) = false := by simp
                  clear hmay q34
                  go_wp2
                  go_roundw
                  case rel => exact ⟨m + 1, _, (b0 : Int), by omega, by go_num, rfl, HN.out, rfl, HR.out, trivial⟩
                  case measure => simp [intOf]; omega
              · rw [Bool.not_eq_true] at hmay
                rcases HBd.out with ⟨rfl, hall⟩ | ⟨b0, hb0, rfl, hb1, hb2, hb3⟩
                · have HR := hid (bd_bad hall hlt hmay)
                  clear hall
                  by_cases h127 : s[m].toNat = 127
                  · have p127 : (s[m].toNat : Int) = 127 := by omega
                    clear hmay q34 h127
                    go_wp2
                    go_roundw
                    case rel => exact ⟨m + 1, _, (m : Int), by omega, by go_num, rfl, HN.out, rfl, HR.out, trivial⟩
                    case measure => simp [intOf]; omega
                  · have hc5 := may_not hmay h127
                    have p127 : ¬ (s[m].toNat : Int) = 127 := by omega
                    have p32 : (s[m].toNat : Int) < 32 := by omega
                    have p9 : ¬ (s[m].toNat : Int) = 9 := by omega
                    have p10 : ¬ (s[m].toNat : Int) = 10 := by omega
                    have p13 : ¬ (s[m].toNat : Int) = 13 := by omega
                    have b127 : ((s[m].toNat : Int) == 127) = false := by rw [beq_eq_false_iff_ne]; exact p127
                    have n9 : ((s[m].toNat : Int) != 9) = true := by simp; omega
                    have n10 : ((s[m].toNat : Int) != 10) = true := by simp; omega
                    have n13 : ((s[m].toNat : Int) != 13) = true := by simp; omega
                    clear hmay q34 h127 hc5
                    go_wp2
                    go_roundw
                    case rel => exact ⟨m + 1, _, (m : Int), by omega, by go_num, rfl, HN.out, rfl, HR.out, trivial⟩
                    case measure => simp [intOf]; omega
                · have HR := hid (show Bd s.data.toList (m + 1) (b0 : Int) from .inr ⟨b0, hb0, rfl, by omega, hb2, hb3⟩)
                  have z0 : ¬ (b0 : Int) < 0 := by omega
                  have dz : decide ((b0 : Int) < 0) = false := by simp
                  clear hmay q34 hb2 hb3
                  go_wp2
                  go_roundw
                  case rel => exact ⟨m + 1, _, (b0 : Int), by omega, by go_num, rfl, HN.out, rfl, HR.out, trivial⟩
                  case measure => simp [intOf]; omega
          · have hI : ¬ (m : Int) < (s.size : Int) := by omega
            have hmt : s.data.toList.take m = s.data.toList := List.take_of_length_le (by omega)
            rw [hmt] at hS
            have htl := sheet_is (T := s.data.toList) HC.out HJ.out hS
            have hCs : C.size ≤ 60 := by have := congrArg List.length HC.out; have h2 := HJ.out; simp at this; omega
            have hSs : S.size ≤ 300000000000000 := by
              have h1 := congrArg List.length hS
              have h2 := dbl_len s.data.toList
              simp at h1 h2
              omega
            have hCS : (C ++ S).size = C.size + S.size := by simp
            have HL := hid htl
            have hB2 : Bd s.data.toList s.data.toList.length z := bd_all hB (by omega)
            have HBd := hid hB2
            have HDS := hid hds
            clear hS hmt hB hB2 hds htl
            go_wp2_with fail
            refine Calls.mono (HP.out _) ?_
            rintro e w2 ⟨rv, ev, rfl, hpa, hbl⟩
            rw [HL.out] at hpa
            have hE2 := HE.out.below hbl
            have hA2 := HA.out.below hbl
            have g4 := hE2.e4
            have g5 := hE2.e5
            have HB := hid hbl
            clear hbl
            rcases quoted_is k s.data.toList (by omega) with ⟨q0, q1, q2⟩ | ⟨q0, q1⟩
            · obtain ⟨hz1, hl4⟩ := bd_fine HBd.out q0
              subst hz1
              rcases hpa with ⟨_, rfl, V, htr⟩ | ⟨h0, _⟩
              · rw [q2] at htr
                obtain ⟨g, cap, g2, cap2, rfl, hc1, r0, hc2, r1, r2⟩ := row_cells htr
                have hl5 : ¬ (4096 : Int) < (s.size : Int) := by have := HDS.out; omega
                have hd5 : decide ((4096 : Int) < (s.size : Int)) = false := by simp; have := HDS.out; omega
                have hkc : (k : Int) < ((k + 2 : Nat) : Int) := by omega
                have hkd : (k : Int) + 1 < ((k + 2 : Nat) : Int) := by omega
                have hbs : ((⟨s.data.toList.toArray⟩ : ByteArray)) = s := by apply ByteArray.ext; simp
                rw [hbs] at r1
                have hke : (((k + 2 : Nat) : Int) == (k : Int) + 2) = true := by simp
                clear htr q0 q1 q2 hl4 hE2 hA2
                go_wp2
                go_ret
                exact ⟨rfl, HB.out⟩
              · exact absurd q1 h0
            · rcases hpa with ⟨h0, _⟩ | ⟨_, _, rfl, hft⟩
              · exact absurd (q1.symm.trans h0) q0
              · rcases hft with ⟨h0, _⟩ | ⟨_, f, rfl, hf⟩
                · exact absurd (q1.symm.trans h0) q0
                · rw [q1] at hf
                  have hcod : Cod (qo s.data.toList 0) := by rcases qo_vals s.data.toList 0 with h | h | h; (· exact absurd h q0); (· rw [h]; exact .inl ⟨by decide, by decide⟩); (· rw [h]; exact .inl ⟨by decide, by decide⟩)
                  have i4 := is_fault A f _ 4 _ w2 hf hA2 hcod (.inl ⟨by decide, by decide⟩)
                  have i5 := is_fault A f _ 5 _ w2 hf hA2 hcod (.inl ⟨by decide, by decide⟩)
                  rcases bd_bad_cases HBd.out q0 with ⟨b0, hb0, hb4, hq⟩ | ⟨hbig, hz2⟩
                  · subst hb0
                    rw [hq] at i4
                    have HI4 := hid i4
                    have z1 : (0 : Int) ≤ (b0 : Int) := by omega
                    have z2 : (b0 : Int) < 4096 := by omega
                    clear i4 i5 hf hcod q0 q1 hE2 hA2
                    go_wp2_with (go_at_call 8; refine Calls.mono HI4.out ?_; rintro e w' ⟨rfl, hw'⟩; replace hw' := hw'.symm; subst hw')
                    go_ret
                    exact ⟨rfl, HB.out⟩
                  · have hl5 : (4096 : Int) < (s.size : Int) := by have := HDS.out; omega
                    have hl6 : 4096 < s.size := by have := HDS.out; omega
                    have hd5 : decide ((4096 : Int) < (s.size : Int)) = true := by simp; omega
                    have hv : qo s.data.toList 0 = 4 ∨ qo s.data.toList 0 = 5 := by rcases qo_vals s.data.toList 0 with h | h | h; (· exact absurd h q0); (· exact .inl h); (· exact .inr h)
                    rcases hz2 with hz2 | ⟨hz2, hz3⟩
                    · subst hz2
                      rcases hv with hv | hv
                      · rw [hv] at i4 i5
                        have HI4 := hid i4
                        have HI5 := hid i5
                        clear i4 i5 hf hcod q0 q1 hE2 hA2 hbig hv
                        go_wp2_with fail
                        refine Calls.mono HI5.out ?_
                        rintro e w' ⟨rfl, hw'⟩
                        replace hw' := hw'.symm
                        subst hw'
                        go_wp2_with fail
                        refine Calls.mono HI4.out ?_
                        rintro e w' ⟨rfl, hw'⟩
                        replace hw' := hw'.symm
                        subst hw'
                        go_wp2
                        go_ret
                        exact ⟨rfl, HB.out⟩
                      · rw [hv] at i4 i5
                        have HI4 := hid i4
                        have HI5 := hid i5
                        clear i4 i5 hf hcod q0 q1 hE2 hA2 hbig hv
                        go_wp2_with fail
                        refine Calls.mono HI5.out ?_
                        rintro e w' ⟨rfl, hw'⟩
                        replace hw' := hw'.symm
                        subst hw'
                        go_wp2
                        go_ret
                        exact ⟨rfl, HB.out⟩
                    · have hz4 : ¬ z < 4096 := by omega
                      have hz5 : decide (z < 4096) = false := by simp; omega
                      have hz6 : decide ((0 : Int) ≤ z) = true := by simp; omega
                      rcases hv with hv | hv
                      · rw [hv] at i4 i5
                        have HI4 := hid i4
                        have HI5 := hid i5
                        clear i4 i5 hf hcod q0 q1 hE2 hA2 hbig hv
                        go_wp2_with fail
                        refine Calls.mono HI5.out ?_
                        rintro e w' ⟨rfl, hw'⟩
                        replace hw' := hw'.symm
                        subst hw'
                        go_wp2_with fail
                        refine Calls.mono HI4.out ?_
                        rintro e w' ⟨rfl, hw'⟩
                        replace hw' := hw'.symm
                        subst hw'
                        go_wp2
                        go_ret
                        exact ⟨rfl, HB.out⟩
                      · rw [hv] at i4 i5
                        have HI4 := hid i4
                        have HI5 := hid i5
                        clear i4 i5 hf hcod q0 q1 hE2 hA2 hbig hv
                        go_wp2_with fail
                        refine Calls.mono HI5.out ?_
                        rintro e w' ⟨rfl, hw'⟩
                        replace hw' := hw'.symm
                        subst hw'
                        go_wp2
                        go_ret
                        exact ⟨rfl, HB.out⟩
  · obtain ⟨k, hk, hkz⟩ : ∃ k : Nat, k ≤ 59 ∧ x.tmod 60 = (k : Int) := ⟨(x.tmod 60).toNat, by omega, by omega⟩
    have hk0 : ¬ (k : Int) < 0 := by omega
    clear hx hz hm1 hm2
    go_enter Tryd.func3, Tryd.ntmps3
    go_wp2_with fail
    clear hkz hk0
    go_loopw [7, 8] (fun c i wr => ∃ (j : Nat) (C : ByteArray), j ≤ k ∧ i = .int .i64 (j : Int) ∧ c = .string C ∧ C.data.toList = List.replicate j 44 ∧ w = wr) (fun _ i _ => k - (intOf i).toNat)
    case atStart => exact ⟨0, ⟨#[]⟩, Nat.zero_le _, rfl, rfl, rfl, rfl⟩
    case round =>
      obtain ⟨j, C, hj, rfl, rfl, hC, hwr⟩ := hrel
      subst hwr
      by_cases hlt : j < k
      · have hI : (j : Int) < (k : Int) := by omega
        have HC := hid hC
        have hCs : C.size = j := by have := congrArg List.length hC; simpa using this
        clear hC
        go_wp2
        go_roundw
        case rel => exact ⟨j + 1, _, by omega, by go_num, rfl, by rw [ByteArray.data_append, Array.toList_append, HC.out, List.replicate_succ'], trivial⟩
        case measure => simp [intOf]; omega
      · have hI : ¬ (j : Int) < (k : Int) := by omega
        have hjk : j = k := by omega
        have HC := hid hC
        have HJ := hid hjk
        clear hC hj hlt hjk
        go_wp2_with fail
        go_loopw [6, 9, 10] (fun t b i wr => ∃ (m : Nat) (S : ByteArray) (z : Int), m ≤ s.data.toList.length ∧ i = .int .i64 (m : Int) ∧ t = .string S ∧ S.data.toList = 34 :: dbl (s.data.toList.take m) ∧ b = .int .i64 z ∧ Bd s.data.toList m z ∧ w = wr) (fun _ _ i _ => s.size - (intOf i).toNat)
        case atStart => exact ⟨0, ⟨#[34]⟩, -1, Nat.zero_le _, rfl, rfl, rfl, rfl, .inl ⟨rfl, fun i hi h0 => absurd h0 (Nat.not_lt_zero _)⟩, rfl⟩
        case round =>
          obtain ⟨m, S, z, hm, rfl, rfl, hS, rfl, hB, hwr⟩ := hrel
          subst hwr
          by_cases hlt : m < s.size
          · have hI : (m : Int) < (s.size : Int) := by omega
            have hI2 : (m : Int) + 1 ≤ (s.size : Int) := by omega
            have hT : m < s.data.toList.length := by omega
            have hex := ext_one s m hlt
            have hexs : (s.extract m (m + 1)).size = 1 := by simp; omega
            have qs := slice_one s m hlt
            have hSs : S.size ≤ 300000000000000 := by
              have h1 := congrArg List.length hS
              have h2 := dbl_len (s.data.toList.take m)
              simp at h1 h2
              omega
            have HS := hid hS
            have HX := hid hex
            have HBd := hid hB
            have HDS := hid hds
            clear hS hex hB hds
            by_cases q34 : s[m].toNat = 34
            · have p34 : (s[m].toNat : Int) = 34 := by omega
              have b34 : ((s[m].toNat : Int) == 34) = true := by rw [beq_iff_eq]; exact p34
              have hmay : mayB s[m].toNat = true := by rw [q34]; rfl
              have HR := hid (bd_next HBd.out hlt hmay)
              have HN := hid (dbl_two HS.out hlt HX.out q34)
              rcases HBd.out with ⟨rfl, _⟩ | ⟨b0, hb0, rfl, _⟩
              · have p127 : ¬ (s[m].toNat : Int) = 127 := by omega
                have p32 : ¬ (s[m].toNat : Int) < 32 := by omega
                have d32 : decide ((s[m].toNat : Int) < 32) = false := by simp; omega
                have b127 : ((s[m].toNat : Int) == 127) = false := by rw [beq_eq_false_iff_ne]; omega
                clear q34 hmay
                go_wp2
                go_roundw
                case rel => exact ⟨m + 1, _, -1, by omega, by go_num, rfl, HN.out, rfl, HR.out, trivial⟩
                case measure => simp [intOf]; omega
              · have z0 : ¬ (b0 : Int) < 0 := by omega
                have dz : decide ((b0 : Int) < 0) = false := by simp
                clear q34 hmay
                go_wp2
                go_roundw
                case rel => exact ⟨m + 1, _, (b0 : Int), by omega, by go_num, rfl, HN.out, rfl, HR.out, trivial⟩
                case measure => simp [intOf]; omega
            · have p34 : ¬ (s[m].toNat : Int) = 34 := by omega
              have b34 : ((s[m].toNat : Int) == 34) = false := by rw [beq_eq_false_iff_ne]; exact p34
              have HN := hid (dbl_one HS.out hlt HX.out q34)
              by_cases hmay : mayB s[m].toNat = true
              · have HR := hid (bd_next HBd.out hlt hmay)
                rcases HBd.out with ⟨rfl, _⟩ | ⟨b0, hb0, rfl, _⟩
                · have hcs : s[m].toNat = 9 ∨ s[m].toNat = 10 ∨ s[m].toNat = 13 ∨ (32 ≤ s[m].toNat ∧ s[m].toNat ≠ 127) := may_cases hmay
                  rcases hcs with h9 | h9 | h9 | h9
                  · have p127 : ¬ (s[m].toNat : Int) = 127 := by omega
                    have p32 : (s[m].toNat : Int) < 32 := by omega
                    have pk : (s[m].toNat : Int) = 9 := by omega
                    clear h9 hmay q34
                    go_wp2
                    go_roundw
                    case rel => exact ⟨m + 1, _, -1, by omega, by go_num, rfl, HN.out, rfl, HR.out, trivial⟩
                    case measure => simp [intOf]; omega
                  · have p127 : ¬ (s[m].toNat : Int) = 127 := by omega
                    have p32 : (s[m].toNat : Int) < 32 := by omega
                    have pk : (s[m].toNat : Int) = 10 := by omega
                    clear h9 hmay q34
                    go_wp2
                    go_roundw
                    case rel => exact ⟨m + 1, _, -1, by omega, by go_num, rfl, HN.out, rfl, HR.out, trivial⟩
                    case measure => simp [intOf]; omega
                  · have p127 : ¬ (s[m].toNat : Int) = 127 := by omega
                    have p32 : (s[m].toNat : Int) < 32 := by omega
                    have pk : (s[m].toNat : Int) = 13 := by omega
                    clear h9 hmay q34
                    go_wp2
                    go_roundw
                    case rel => exact ⟨m + 1, _, -1, by omega, by go_num, rfl, HN.out, rfl, HR.out, trivial⟩
                    case measure => simp [intOf]; omega
                  · have p127 : ¬ (s[m].toNat : Int) = 127 := by omega
                    have p32 : ¬ (s[m].toNat : Int) < 32 := by omega
                    clear h9 hmay q34
                    go_wp2
                    go_roundw
                    case rel => exact ⟨m + 1, _, -1, by omega, by go_num, rfl, HN.out, rfl, HR.out, trivial⟩
                    case measure => simp [intOf]; omega
                · have z0 : ¬ (b0 : Int) < 0 := by omega
                  have dz : decide ((b0 : Int) < 0) = false := by simp
                  clear hmay q34
                  go_wp2
                  go_roundw
                  case rel => exact ⟨m + 1, _, (b0 : Int), by omega, by go_num, rfl, HN.out, rfl, HR.out, trivial⟩
                  case measure => simp [intOf]; omega
              · rw [Bool.not_eq_true] at hmay
                rcases HBd.out with ⟨rfl, hall⟩ | ⟨b0, hb0, rfl, hb1, hb2, hb3⟩
                · have HR := hid (bd_bad hall hlt hmay)
                  clear hall
                  by_cases h127 : s[m].toNat = 127
                  · have p127 : (s[m].toNat : Int) = 127 := by omega
                    clear hmay q34 h127
                    go_wp2
                    go_roundw
                    case rel => exact ⟨m + 1, _, (m : Int), by omega, by go_num, rfl, HN.out, rfl, HR.out, trivial⟩
                    case measure => simp [intOf]; omega
                  · have hc5 := may_not hmay h127
                    have p127 : ¬ (s[m].toNat : Int) = 127 := by omega
                    have p32 : (s[m].toNat : Int) < 32 := by omega
                    have p9 : ¬ (s[m].toNat : Int) = 9 := by omega
                    have p10 : ¬ (s[m].toNat : Int) = 10 := by omega
                    have p13 : ¬ (s[m].toNat : Int) = 13 := by omega
                    have b127 : ((s[m].toNat : Int) == 127) = false := by rw [beq_eq_false_iff_ne]; exact p127
                    have n9 : ((s[m].toNat : Int) != 9) = true := by simp; omega
                    have n10 : ((s[m].toNat : Int) != 10) = true := by simp; omega
                    have n13 : ((s[m].toNat : Int) != 13) = true := by simp; omega
                    clear hmay q34 h127 hc5
                    go_wp2
                    go_roundw
                    case rel => exact ⟨m + 1, _, (m : Int), by omega, by go_num, rfl, HN.out, rfl, HR.out, trivial⟩
                    case measure => simp [intOf]; omega
                · have HR := hid (show Bd s.data.toList (m + 1) (b0 : Int) from .inr ⟨b0, hb0, rfl, by omega, hb2, hb3⟩)
                  have z0 : ¬ (b0 : Int) < 0 := by omega
                  have dz : decide ((b0 : Int) < 0) = false := by simp
                  clear hmay q34 hb2 hb3
                  go_wp2
                  go_roundw
                  case rel => exact ⟨m + 1, _, (b0 : Int), by omega, by go_num, rfl, HN.out, rfl, HR.out, trivial⟩
                  case measure => simp [intOf]; omega
          · have hI : ¬ (m : Int) < (s.size : Int) := by omega
            have hmt : s.data.toList.take m = s.data.toList := List.take_of_length_le (by omega)
            rw [hmt] at hS
            have htl := sheet_is (T := s.data.toList) HC.out HJ.out hS
            have hCs : C.size ≤ 60 := by have := congrArg List.length HC.out; have h2 := HJ.out; simp at this; omega
            have hSs : S.size ≤ 300000000000000 := by
              have h1 := congrArg List.length hS
              have h2 := dbl_len s.data.toList
              simp at h1 h2
              omega
            have hCS : (C ++ S).size = C.size + S.size := by simp
            have HL := hid htl
            have hB2 : Bd s.data.toList s.data.toList.length z := bd_all hB (by omega)
            have HBd := hid hB2
            have HDS := hid hds
            clear hS hmt hB hB2 hds htl
            go_wp2_with fail
            refine Calls.mono (HP.out _) ?_
            rintro e w2 ⟨rv, ev, rfl, hpa, hbl⟩
            rw [HL.out] at hpa
            have hE2 := HE.out.below hbl
            have hA2 := HA.out.below hbl
            have g4 := hE2.e4
            have g5 := hE2.e5
            have HB := hid hbl
            clear hbl
            rcases quoted_is k s.data.toList (by omega) with ⟨q0, q1, q2⟩ | ⟨q0, q1⟩
            · obtain ⟨hz1, hl4⟩ := bd_fine HBd.out q0
              subst hz1
              rcases hpa with ⟨_, rfl, V, htr⟩ | ⟨h0, _⟩
              · rw [q2] at htr
                obtain ⟨g, cap, g2, cap2, rfl, hc1, r0, hc2, r1, r2⟩ := row_cells htr
                have hl5 : ¬ (4096 : Int) < (s.size : Int) := by have := HDS.out; omega
                have hd5 : decide ((4096 : Int) < (s.size : Int)) = false := by simp; have := HDS.out; omega
                have hkc : (k : Int) < ((k + 2 : Nat) : Int) := by omega
                have hkd : (k : Int) + 1 < ((k + 2 : Nat) : Int) := by omega
                have hbs : ((⟨s.data.toList.toArray⟩ : ByteArray)) = s := by apply ByteArray.ext; simp
                rw [hbs] at r1
                have hke : (((k + 2 : Nat) : Int) == (k : Int) + 2) = true := by simp
                clear htr q0 q1 q2 hl4 hE2 hA2
                go_wp2
                go_ret
                exact ⟨rfl, HB.out⟩
              · exact absurd q1 h0
            · rcases hpa with ⟨h0, _⟩ | ⟨_, _, rfl, hft⟩
              · exact absurd (q1.symm.trans h0) q0
              · rcases hft with ⟨h0, _⟩ | ⟨_, f, rfl, hf⟩
                · exact absurd (q1.symm.trans h0) q0
                · rw [q1] at hf
                  have hcod : Cod (qo s.data.toList 0) := by rcases qo_vals s.data.toList 0 with h | h | h; (· exact absurd h q0); (· rw [h]; exact .inl ⟨by decide, by decide⟩); (· rw [h]; exact .inl ⟨by decide, by decide⟩)
                  have i4 := is_fault A f _ 4 _ w2 hf hA2 hcod (.inl ⟨by decide, by decide⟩)
                  have i5 := is_fault A f _ 5 _ w2 hf hA2 hcod (.inl ⟨by decide, by decide⟩)
                  rcases bd_bad_cases HBd.out q0 with ⟨b0, hb0, hb4, hq⟩ | ⟨hbig, hz2⟩
                  · subst hb0
                    rw [hq] at i4
                    have HI4 := hid i4
                    have z1 : (0 : Int) ≤ (b0 : Int) := by omega
                    have z2 : (b0 : Int) < 4096 := by omega
                    clear i4 i5 hf hcod q0 q1 hE2 hA2
                    go_wp2_with (go_at_call 8; refine Calls.mono HI4.out ?_; rintro e w' ⟨rfl, hw'⟩; replace hw' := hw'.symm; subst hw')
                    go_ret
                    exact ⟨rfl, HB.out⟩
                  · have hl5 : (4096 : Int) < (s.size : Int) := by have := HDS.out; omega
                    have hl6 : 4096 < s.size := by have := HDS.out; omega
                    have hd5 : decide ((4096 : Int) < (s.size : Int)) = true := by simp; omega
                    have hv : qo s.data.toList 0 = 4 ∨ qo s.data.toList 0 = 5 := by rcases qo_vals s.data.toList 0 with h | h | h; (· exact absurd h q0); (· exact .inl h); (· exact .inr h)
                    rcases hz2 with hz2 | ⟨hz2, hz3⟩
                    · subst hz2
                      rcases hv with hv | hv
                      · rw [hv] at i4 i5
                        have HI4 := hid i4
                        have HI5 := hid i5
                        clear i4 i5 hf hcod q0 q1 hE2 hA2 hbig hv
                        go_wp2_with fail
                        refine Calls.mono HI5.out ?_
                        rintro e w' ⟨rfl, hw'⟩
                        replace hw' := hw'.symm
                        subst hw'
                        go_wp2_with fail
                        refine Calls.mono HI4.out ?_
                        rintro e w' ⟨rfl, hw'⟩
                        replace hw' := hw'.symm
                        subst hw'
                        go_wp2
                        go_ret
                        exact ⟨rfl, HB.out⟩
                      · rw [hv] at i4 i5
                        have HI4 := hid i4
                        have HI5 := hid i5
                        clear i4 i5 hf hcod q0 q1 hE2 hA2 hbig hv
                        go_wp2_with fail
                        refine Calls.mono HI5.out ?_
                        rintro e w' ⟨rfl, hw'⟩
                        replace hw' := hw'.symm
                        subst hw'
                        go_wp2
                        go_ret
                        exact ⟨rfl, HB.out⟩
                    · have hz4 : ¬ z < 4096 := by omega
                      have hz5 : decide (z < 4096) = false := by simp; omega
                      have hz6 : decide ((0 : Int) ≤ z) = true := by simp; omega
                      rcases hv with hv | hv
                      · rw [hv] at i4 i5
                        have HI4 := hid i4
                        have HI5 := hid i5
                        clear i4 i5 hf hcod q0 q1 hE2 hA2 hbig hv
                        go_wp2_with fail
                        refine Calls.mono HI5.out ?_
                        rintro e w' ⟨rfl, hw'⟩
                        replace hw' := hw'.symm
                        subst hw'
                        go_wp2_with fail
                        refine Calls.mono HI4.out ?_
                        rintro e w' ⟨rfl, hw'⟩
                        replace hw' := hw'.symm
                        subst hw'
                        go_wp2
                        go_ret
                        exact ⟨rfl, HB.out⟩
                      · rw [hv] at i4 i5
                        have HI4 := hid i4
                        have HI5 := hid i5
                        clear i4 i5 hf hcod q0 q1 hE2 hA2 hbig hv
                        go_wp2_with fail
                        refine Calls.mono HI5.out ?_
                        rintro e w' ⟨rfl, hw'⟩
                        replace hw' := hw'.symm
                        subst hw'
                        go_wp2
                        go_ret
                        exact ⟨rfl, HB.out⟩
end Go.Proofs.YtedgdgaobgkffaaDoor
