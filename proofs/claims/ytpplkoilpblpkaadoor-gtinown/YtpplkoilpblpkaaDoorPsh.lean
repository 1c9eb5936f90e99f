/-
  PrintShown.
-/
import Derived.Test.YtpplkoilpblpkaaDoorPrn
namespace Go.Proofs.YtpplkoilpblpkaaDoor
open Go.RowKit
set_option maxRecDepth 100000

abbrev IsBr (c : UInt8) : Prop := c = 40 ∨ c = 41
/-- a byte as it is shown -/
def brk (c : UInt8) : List UInt8 := if IsBr c then [c, c] else [c]
def shV : List UInt8 → List UInt8
  | [] => []
  | c :: t => brk c ++ shV t
theorem shV_app (l m : List UInt8) : shV (l ++ m) = shV l ++ shV m := by
  induction l with
  | nil => rfl
  | cons c t ih => simp [shV, ih]
theorem shV_len (l : List UInt8) : (shV l).length ≤ 2 * l.length := by
  induction l with
  | nil => simp [shV]
  | cons c t ih =>
    have : (brk c).length ≤ 2 := by unfold brk; split <;> simp
    simp [shV]
    omega
theorem shV_take (x : List UInt8) (j : Nat) (h : j < x.length) : shV (x.take (j + 1)) = shV (x.take j) ++ brk x[j] := by
  rw [List.take_add_one, List.getElem?_eq_getElem h, shV_app]
  simp [shV]
def she (L : List El) (i : Nat) : List UInt8 := match L[i]? with
  | some x => [40] ++ x.1.data.toList ++ [41] ++ shV x.2.data.toList
  | none => []
theorem she_at {L : List El} {i : Nat} (h : i < L.length) : she L i = [40] ++ (L[i]).1.data.toList ++ [41] ++ shV (L[i]).2.data.toList := by
  unfold she
  rw [List.getElem?_eq_getElem h]
def shP (L : List El) : Nat → List UInt8
  | 0 => []
  | i + 1 => shP L i ++ she L i
theorem shP_len (L : List El) (i : Nat) (hi : i ≤ L.length) (h : ∀ j, j < i → ft L j = 0) : (shP L i).length ≤ 190 * i := by
  induction i with
  | zero => simp [shP]
  | succ i ih =>
    have h1 := ih (by omega) (fun j hj => h j (by omega))
    have h0 := h i (by omega)
    rw [ft_at (by omega)] at h0
    obtain ⟨k, hk, _, hf⟩ := ftE_zero h0
    have h2 := kfind_len hk
    have h3 := fltK_len hf
    have h4 := shV_len (L[i]'(by omega)).2.data.toList
    rw [shP, List.length_append, she_at (by omega), List.length_append, List.length_append, List.length_append]
    simp only [List.length_cons, List.length_nil]
    omega
/-- what PrintShown answers -/
def PsA (L : List El) (t : ByteArray) (e n : Int) : Prop := ∃ t', PrA L t' e n ∧ ((e ≠ 0 ∧ t = ⟨#[]⟩) ∨ (e = 0 ∧ t.data.toList = shP L L.length))
theorem PsA.same {L : List El} {t t' : ByteArray} {e e' n n' : Int} (h : PsA L t e n) (h' : PsA L t' e' n') : t' = t ∧ e' = e ∧ n' = n := by
  obtain ⟨a, ha, hb⟩ := h
  obtain ⟨a', ha', hb'⟩ := h'
  obtain ⟨_, rfl, rfl⟩ := ha.same ha'
  refine ⟨?_, rfl, rfl⟩
  rcases hb with ⟨h1, rfl⟩ | ⟨h1, h2⟩ <;> rcases hb' with ⟨h1', rfl⟩ | ⟨h1', h2'⟩
  · rfl
  · exact absurd h1' h1
  · exact absurd h1 h1'
  · exact ByteArray.ext (Array.ext' (h2'.trans h2.symm))
/-- Print's error 0 says that all may stand -/
theorem PrA.zero {L : List El} {t : ByteArray} {n : Int} (h : PrA L t 0 n) : (∀ j, j < L.length → ft L j = 0) ∧ n = 0 := by
  rcases h with ⟨i, _, _, h1, _, h2, _⟩ | ⟨hz, h⟩
  · exact absurd h2.symm h1
  · rcases h with ⟨_, _, h, _⟩ | ⟨_, _, _, h, _⟩ | ⟨_, _, _, _, h⟩
    · cases h
    · cases h
    · exact ⟨hz, h⟩

theorem isBracket_any (c : UInt8) (w : World) :
    Calls Tryd.prog 18 #[.int .u8 (c.toNat : Int)] w fun e w' => e = .returned (.bool (decide (IsBr c))) ∧ w' = w := by
  by_cases h1 : c = 40
  · subst h1
    go_enter Tryd.func18, Tryd.ntmps18
    go_wp2
    go_ret
    exact ⟨rfl, rfl⟩
  · by_cases h2 : c = 41
    · subst h2
      go_enter Tryd.func18, Tryd.ntmps18
      go_wp2
      go_ret
      exact ⟨rfl, rfl⟩
    · have b1 : ((c.toNat : Int) == 40) = false := by
        rw [beq_eq_false_iff_ne]
        intro h
        exact h1 (UInt8.toNat_inj.1 (by show c.toNat = 40; omega))
      have b2 : ((c.toNat : Int) == 41) = false := by
        rw [beq_eq_false_iff_ne]
        intro h
        exact h2 (UInt8.toNat_inj.1 (by show c.toNat = 41; omega))
      rw [decide_eq_false (show ¬ IsBr c from fun h => by rcases h with h | h; exact h1 h; exact h2 h)]
      go_enter Tryd.func18, Tryd.ntmps18
      go_wp2
      go_ret
      exact ⟨rfl, rfl⟩

set_option maxHeartbeats 4000000 in
theorem printShown_any (v : Value) (L : List El) (w : World) (hkn : HasKn w) (hr : RE w v L) (hx : ∀ x ∈ L, x.2.size ≤ 281474976710656) (hll : L.length ≤ 9223372036854775000) :
    Calls Tryd.prog 7 #[v] w fun e w' => (∃ t en n, e = .returned (.tuple #[.string t, .int .i64 en, .int .i64 n]) ∧ PsA L t en n) ∧ Below w.heap.size w w' := by
  have HP := hid (print_any v L w hkn hr hx hll)
  have HR := hid hr
  clear hkn hx hll hr
  have hvs : ∃ ao cap, v = .slice ao L.length cap := by
    rcases HR.out with ⟨rfl, ao, cap, rfl, _⟩ | ⟨b, off, cap, rfl, _⟩
    · exact ⟨_, _, rfl⟩
    · exact ⟨_, _, rfl⟩
  obtain ⟨vo, vc, rfl⟩ := hvs
  go_enter Tryd.func7, Tryd.ntmps7
  go_wp2_with fail
  refine HP.out.mono ?_
  rintro e w1 ⟨⟨t, en, n, rfl, hpr⟩, hb1⟩
  have HPR := hid hpr
  have B1 := hid hb1
  have R1 := hid (HR.out.below hb1)
  clear hpr hb1 HP HR
  by_cases h0 : en = 0
  · subst h0
    obtain ⟨hz, rfl⟩ := HPR.out.zero
    have HZ := hid hz
    have h39 := few_39 L L.length (Nat.le_refl _) hz
    have HSZ := hid (fun i hi => shP_len L i hi (fun j hj => hz j (by omega)))
    have F0 := hid (fresh_isB w1)
    have B2 := hid ((Below.refl w1.heap.size w1).alloc (Nat.le_refl _) (.cells #[.pointer none, .slice none 0 0] 50))
    clear hz
    go_wp2_with fail
    go_loopw [25] (fun i wr => ∃ k : Nat, k ≤ L.length ∧ i = .int .i64 (k : Int) ∧ IsB w1.heap.size w1.heap.size (shP L k) wr ∧ Below w1.heap.size w1 wr) (fun i _ => L.length - (intOf i).toNat)
    case atStart => exact ⟨0, by omega, rfl, F0.out, B2.out⟩
    case round =>
      obtain ⟨k, hk, rfl, hI, hbl⟩ := hrel
      have I0 := hid hI
      have HB := hid hbl
      clear hI hbl F0 B2
      by_cases hlt : k < L.length
      · rcases R1.out with ⟨rfl, _⟩ | ⟨b, off, cap, hv, hcap, hcell⟩
        · simp at hlt
        have hvo : vo = some ⟨b, off, none⟩ := by injection hv
        subst hvo
        have hcl := hcell k hlt
        have c0 := below_cells HB.out _ _ hcl.1
        have c1 := below_cells HB.out _ _ hcl.2
        have h0 := HZ.out k hlt
        rw [ft_at hlt] at h0
        obtain ⟨q, hq, _, hf⟩ := ftE_zero h0
        have ha4 := kfind_len hq
        have hx90 := fltK_len hf
        have hs1 := HSZ.out k hk
        have HSE := hid (she_at hlt)
        obtain ⟨a, ha⟩ : ∃ a, a = (L[k]'hlt).1 := ⟨_, rfl⟩
        obtain ⟨x, hx⟩ : ∃ x, x = (L[k]'hlt).2 := ⟨_, rfl⟩
        rw [← ha] at c0 ha4 HSE
        rw [← hx] at c1 hx90 HSE
        have hal := len_list a
        have hxl := len_list x
        rw [hal] at ha4
        rw [hxl] at hx90
        clear hcell hcl h0 hq hf ha hx hv hal
        obtain ⟨A, hA⟩ : ∃ A : ByteArray, (⟨#[40]⟩ : ByteArray) ++ a ++ ⟨#[41]⟩ = A := ⟨_, rfl⟩
        have hAl : A.data.toList = [40] ++ a.data.toList ++ [41] := by rw [← hA]; simp [ByteArray.data_append]
        have hAs : A.size ≤ 10 := by rw [← len_list, hAl]; simp only [List.length_append, List.length_cons, List.length_nil]; have := len_list a; omega
        have HAl := hid hAl
        have HW := hid (writeStringK w1.heap.size w1.heap.size (shP L k) A (wr.alloc (.cells #[.string a, .string x] 36)) (I0.out.later ((Below.refl _ _).alloc (Nat.le_refl _) _)) (by omega) (by have := HB.out.size; simp; omega))
        have E1 := hid (EB.new wr a x)
        have C1 := hid (HB.out.alloc HB.out.size (.cells #[.string a, .string x] 36))
        clear hAl
        go_wp2_with fail
        refine HW.out.mono ?_
        rintro e w2 ⟨rfl, hi2, hb2, hk2⟩
        have I2 := hid hi2
        have E2 := hid (E1.out.kb hk2)
        have C2 := hid (C1.out.trans hb2)
        have hA2 : A.data.toList.length ≤ 10 := by rw [len_list]; exact hAs
        clear hi2 hb2 hk2 E1 C1 HW I0 HB c0 c1 hA
        obtain ⟨d0, d1, dl⟩ := E2.out.facts
        go_wp2_with fail
        clear d0 d1 dl
        generalize wr.heap.size = bx at *
        go_loopw [37] (fun i WQ => ∃ j : Nat, j ≤ x.size ∧ i = .int .i64 (j : Int) ∧ IsB w1.heap.size w1.heap.size (shP L k ++ A.data.toList ++ shV (x.data.toList.take j)) WQ ∧ EB WQ bx a x ∧ Below w1.heap.size w1 WQ) (fun i _ => x.size - (intOf i).toNat)
        case atStart => exact ⟨0, by omega, rfl, by simpa [shV] using I2.out, E2.out, C2.out⟩
        case round =>
          obtain ⟨j, hj, rfl, hI, hE, hB⟩ := hrel
          have I3 := hid hI
          have E3 := hid hE
          have C3 := hid hB
          clear hI hE hB I2 E2 C2
          by_cases hjl : j < x.size
          · obtain ⟨d0, d1, dl⟩ := E3.out.facts
            have hjI : (j : Int) < (x.size : Int) := by omega
            have HT := hid (shV_take x.data.toList j (by omega))
            rw [byte_list x j hjl] at HT
            have HBr := hid (fun w => isBracket_any (x[j]'hjl) w)
            have hln : (shP L k ++ A.data.toList ++ shV (x.data.toList.take j)).length ≤ 1000000 := by
              have := shV_len (x.data.toList.take j)
              rw [List.length_append, List.length_append]
              rw [List.length_take] at this
              omega
            have HLN := hid hln
            have HW1 := hid (writeByteK w1.heap.size w1.heap.size _ (x[j]'hjl) _ wr I3.out rfl (by omega) C3.out.size)
            by_cases hbr : IsBr (x[j]'hjl)
            · rw [decide_eq_true hbr] at HBr
              have hb2 : brk (x[j]'hjl) = [x[j]'hjl, x[j]'hjl] := if_pos hbr
              rw [hb2] at HT
              clear hbr hb2 hln
              go_wp2_with fail
              refine (HBr.out _).mono ?_
              rintro e w3 ⟨rfl, hw3⟩
              have hws := hw3.symm
              clear hw3
              subst hws
              go_wp2_with fail
              refine HW1.out.mono ?_
              rintro e w4 ⟨rfl, hi4, hb4, hk4⟩
              have I4 := hid hi4
              have E4 := hid (E3.out.kb hk4)
              have C4 := hid (C3.out.trans hb4)
              clear hi4 hb4 hk4 HW1 I3 E3 C3 d0 d1 dl HBr
              have HW2 := hid (writeByteK w1.heap.size w1.heap.size _ (x[j]'hjl) _ w4 I4.out rfl (by rw [List.length_append]; have := HLN.out; simp only [List.length_cons, List.length_nil]; omega) C4.out.size)
              go_wp2_with fail
              refine HW2.out.mono ?_
              rintro e w5 ⟨rfl, hi5, hb5, hk5⟩
              have I5 := hid (show IsB w1.heap.size w1.heap.size (shP L k ++ A.data.toList ++ shV (x.data.toList.take (j + 1))) w5 by rw [HT.out]; simpa [List.append_assoc] using hi5)
              have E5 := hid (E4.out.kb hk5)
              have C5 := hid (C4.out.trans hb5)
              clear hi5 hb5 hk5 HW2 I4 E4 C4
              go_wp2
              go_roundw
              case rel => exact ⟨j + 1, by omega, by go_num, I5.out, E5.out, C5.out⟩
              case measure => simp [intOf]; omega
            · rw [decide_eq_false hbr] at HBr
              have hb2 : brk (x[j]'hjl) = [x[j]'hjl] := if_neg hbr
              rw [hb2] at HT
              clear hbr hb2 hln
              go_wp2_with fail
              refine (HBr.out _).mono ?_
              rintro e w3 ⟨rfl, hw3⟩
              have hws := hw3.symm
              clear hw3
              subst hws
              go_wp2_with fail
              refine HW1.out.mono ?_
              rintro e w5 ⟨rfl, hi5, hb5, hk5⟩
              have I5 := hid (show IsB w1.heap.size w1.heap.size (shP L k ++ A.data.toList ++ shV (x.data.toList.take (j + 1))) w5 by rw [HT.out]; simpa [List.append_assoc] using hi5)
              have E5 := hid (E3.out.kb hk5)
              have C5 := hid (C3.out.trans hb5)
              clear hi5 hb5 hk5 HW1 I3 E3 C3 d0 d1 dl HBr
              go_wp2
              go_roundw
              case rel => exact ⟨j + 1, by omega, by go_num, I5.out, E5.out, C5.out⟩
              case measure => simp [intOf]; omega
          · have HI := hid (show IsB w1.heap.size w1.heap.size (shP L (k + 1)) wr by
              have h := I3.out
              rw [List.take_of_length_le (by omega), HAl.out] at h
              rw [shP, HSE.out]
              simpa [List.append_assoc] using h)
            clear I3 E3
            go_wp2
            go_roundw
            case rel => exact ⟨k + 1, hlt, by go_num, HI.out, C3.out⟩
            case measure => simp [intOf]; omega
      · have hkl : k = L.length := by omega
        have HI := hid (show IsB w1.heap.size w1.heap.size (shP L L.length) wr by rw [← hkl]; exact I0.out)
        have HS := hid (string_any w1.heap.size w1.heap.size _ wr HI.out HB.out.size)
        clear hkl
        go_wp2_with fail
        refine HS.out.mono ?_
        rintro e w2 ⟨rfl, hb2⟩
        have C2 := hid (B1.out.trans ((HB.out.trans hb2).mono B1.out.size))
        clear hb2 HS
        go_wp2
        go_ret3
        exact ⟨⟨_, _, _, rfl, _, HPR.out, .inr ⟨rfl, by simp⟩⟩, C2.out⟩
  · have hnb : (en != 0) = true := by simp [h0]
    have HN := hid h0
    clear h0
    go_wp2
    go_ret3
    exact ⟨⟨_, _, _, rfl, _, HPR.out, .inl ⟨HN.out, rfl⟩⟩, B1.out⟩
end Go.Proofs.YtpplkoilpblpkaaDoor
