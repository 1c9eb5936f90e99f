/-
  ParseShown's two parts: an Ai in its brackets, a Value as it is shown.
-/
import Derived.Test.YtpplkoilpblpkaaDoorShM
import Derived.Test.YtpplkoilpblpkaaDoorRefPs
namespace Go.Proofs.YtpplkoilpblpkaaDoor
open Go.RowKit
set_option maxRecDepth 100000

theorem ib_first (l : List UInt8) (c : UInt8) : ∀ (m : Nat) (hm : m < l.length), (∀ i (hi : i < m), l[i]'(by omega) ≠ c) → l[m] = c → Lib.indexByte l c = (m : Int) := by
  induction l with
  | nil => intro m hm; simp at hm
  | cons b t ih =>
    intro m hm h he
    cases m with
    | zero =>
      have e : b = c := he
      subst e
      simp [Lib.indexByte]
    | succ m =>
      have hb : b ≠ c := h 0 (by omega)
      have := ih m (by simpa using hm) (fun i hi => h (i + 1) (by omega)) he
      unfold Lib.indexByte
      rw [if_neg (by simpa using hb), this, if_neg (by simp)]
      omega
theorem ib_none (l : List UInt8) (c : UInt8) (h : ∀ i (hi : i < l.length), l[i] ≠ c) : Lib.indexByte l c = -1 := by
  induction l with
  | nil => rfl
  | cons b t ih =>
    have hb : b ≠ c := h 0 (by simp)
    have := ih (fun i hi => h (i + 1) (by simpa using hi))
    unfold Lib.indexByte
    rw [if_neg (by simpa using hb), this]
    rfl
theorem stp_not {T : List UInt8} {p : Nat} (hp : p < T.length) (h : T[p] ≠ 40) : stp T p = .inl (29, (p : Int)) := by
  unfold stp
  rw [List.drop_eq_getElem_cons hp]
  simp only
  rw [if_pos h]
theorem stp_short {T : List UInt8} {p : Nat} (hp : p < T.length) (h : T[p] = 40) (hi : Lib.indexByte (T.drop (p + 1)) 41 < 0) : stp T p = .inl (3, (T.length : Int)) := by
  unfold stp
  rw [List.drop_eq_getElem_cons hp]
  simp only
  rw [if_neg (by simpa using h), if_pos hi]
theorem stp_ai {T : List UInt8} {p m : Nat} (hp : p < T.length) (h : T[p] = 40) (hi : Lib.indexByte (T.drop (p + 1)) 41 = (m : Int)) (hk : kfind ((T.drop (p + 1)).take m) = none) : stp T p = .inl (23, ((p + 1 : Nat) : Int)) := by
  unfold stp
  rw [List.drop_eq_getElem_cons hp]
  simp only
  rw [if_neg (by simpa using h), if_neg (by omega), hi, Int.toNat_natCast, hk]
theorem stp_go {T : List UInt8} {p m : Nat} {k : Int} (hp : p < T.length) (h : T[p] = 40) (hi : Lib.indexByte (T.drop (p + 1)) 41 = (m : Int)) (hk : kfind ((T.drop (p + 1)).take m) = some k) :
    stp T p = if (sv (T.drop (p + m + 2))).2.2 then .inr ((T.drop (p + 1)).take m, (sv (T.drop (p + m + 2))).1, p + m + 2 + (sv (T.drop (p + m + 2))).2.1) else .inl (29, ((p + m + 2 + (sv (T.drop (p + m + 2))).2.1 : Nat) : Int)) := by
  unfold stp
  rw [List.drop_eq_getElem_cons hp]
  simp only
  rw [if_neg (by simpa using h), if_neg (by omega), hi, Int.toNat_natCast, hk]
  simp only
  rw [List.drop_drop, show p + 1 + (m + 1) = p + m + 2 by omega]
theorem ib_open {T : List UInt8} {p : Nat} (hp : p < T.length) (h : T[p] = 40) : Lib.indexByte (T.drop p) 41 = if Lib.indexByte (T.drop (p + 1)) 41 = -1 then -1 else Lib.indexByte (T.drop (p + 1)) 41 + 1 := by
  rw [List.drop_eq_getElem_cons hp, h]
  simp [Lib.indexByte]

/-- a Value read so far -/
def SvR (T : List UInt8) (f p : Nat) (acc : List UInt8) : Prop := f ≤ p ∧ acc.length ≤ p - f ∧ sv (T.drop f) = (acc ++ (sv (T.drop p)).1, (p - f) + (sv (T.drop p)).2.1, (sv (T.drop p)).2.2)
theorem SvR.start (T : List UInt8) (f : Nat) : SvR T f f [] := ⟨Nat.le_refl _, by simp, by simp⟩
theorem SvR.plain {T : List UInt8} {f p : Nat} {acc : List UInt8} (h : SvR T f p acc) (hp : p < T.length) (hb : ¬ IsBr T[p]) : SvR T f (p + 1) (acc ++ [T[p]]) := by
  obtain ⟨h1, h2, h3⟩ := h
  refine ⟨by omega, by simp; omega, ?_⟩
  rw [h3, List.drop_eq_getElem_cons hp, sv_plain _ _ hb]
  simp only [List.append_assoc, List.singleton_append]
  rw [show p - f + ((sv (T.drop (p + 1))).2.1 + 1) = p + 1 - f + (sv (T.drop (p + 1))).2.1 by omega]
theorem SvR.twice {T : List UInt8} {f p : Nat} {acc : List UInt8} (h : SvR T f p acc) (hp : p + 1 < T.length) (hb : IsBr T[p]) (he : T[p + 1] = T[p]) : SvR T f (p + 2) (acc ++ [T[p]]) := by
  obtain ⟨h1, h2, h3⟩ := h
  refine ⟨by omega, by simp; omega, ?_⟩
  rw [h3, List.drop_eq_getElem_cons (show p < T.length by omega), List.drop_eq_getElem_cons hp, he, sv_twice _ _ hb]
  simp only [List.append_assoc, List.singleton_append]
  rw [show p + 1 + 1 = p + 2 from rfl, show p - f + ((sv (T.drop (p + 2))).2.1 + 2) = p + 2 - f + (sv (T.drop (p + 2))).2.1 by omega]
theorem SvR.stop {T : List UInt8} {f p : Nat} {acc : List UInt8} (h : SvR T f p acc) (hp : p < T.length) (hb : IsBr T[p]) (hn : ∀ h : p + 1 < T.length, T[p + 1] ≠ T[p]) : sv (T.drop f) = (acc, p - f, decide (T[p] = 40)) := by
  obtain ⟨h1, h2, h3⟩ := h
  rw [h3, List.drop_eq_getElem_cons hp, sv_stop _ _ hb]
  · simp
  · intro d t' e
    have hl : p + 1 < T.length := by
      rcases Nat.lt_or_ge (p + 1) T.length with h | h
      · exact h
      · rw [List.drop_of_length_le h] at e; cases e
    rw [List.drop_eq_getElem_cons hl] at e
    cases e
    exact hn hl
theorem SvR.out {T : List UInt8} {f p : Nat} {acc : List UInt8} (h : SvR T f p acc) (hp : T.length ≤ p) : sv (T.drop f) = (acc, p - f, true) := by
  obtain ⟨h1, h2, h3⟩ := h
  rw [h3, List.drop_of_length_le hp]
  simp [sv]
theorem br_40 (c : UInt8) : ((c.toNat : Int) == 40) = decide (c = 40) := by
  by_cases h : c = 40
  · subst h; rfl
  · rw [decide_eq_false h, beq_eq_false_iff_ne]
    intro e
    exact h (UInt8.toNat_inj.1 (by show c.toNat = 40; omega))
theorem br_41 (c : UInt8) : ((c.toNat : Int) == 41) = decide (c = 41) := by
  by_cases h : c = 41
  · subst h; rfl
  · rw [decide_eq_false h, beq_eq_false_iff_ne]
    intro e
    exact h (UInt8.toNat_inj.1 (by show c.toNat = 41; omega))
theorem br_eq (c d : UInt8) : ((c.toNat : Int) == (d.toNat : Int)) = decide (c = d) := by
  by_cases h : c = d
  · subst h; simp
  · rw [decide_eq_false h, beq_eq_false_iff_ne]
    intro e
    exact h (UInt8.toNat_inj.1 (by omega))

set_option maxHeartbeats 1000000 in
theorem strClone_any (s : ByteArray) (w : World) (hlim : s.size ≤ 281474976710656) :
    Calls Tryd.prog 25 #[.string s] w fun e w' => e = .returned (.string s) ∧ Below w.heap.size w w' := by
  have HC := hid (Tryd.stringslite_Clone s w hlim)
  go_enter Tryd.func25, Tryd.ntmps25
  go_wp2_with fail
  refine HC.out.mono ?_
  rintro e w1 ⟨rfl, hb⟩
  go_wp2
  go_ret
  exact ⟨rfl, hb⟩

/-- what shownAi answers -/
def AiA (T : List UInt8) (p : Nat) (a : ByteArray) (f en n : Int) : Prop :=
  (en ≠ 0 ∧ stp T p = .inl (en, n)) ∨ (en = 0 ∧ ∃ g : Nat, f = (g : Int) ∧ g ≤ T.length ∧ a.size ≤ T.length ∧
    stp T p = if (sv (T.drop g)).2.2 then .inr (a.data.toList, (sv (T.drop g)).1, g + (sv (T.drop g)).2.1) else .inl (29, ((g + (sv (T.drop g)).2.1 : Nat) : Int)))

theorem run_subN (x : ByteArray) (i : Nat) (hi : i ≤ x.size) (w : World) :
    (Instr.slice 9 (.string x) (some (.int .i64 (i : Int))) none none).run Tryd.prog w = .ok (.string (x.extract i x.size)) w := by
  simp [Instr.slice, Instr.sliceBounds, Instr.sliceBound, asIntOf, run_underlying Tryd.underlying9, go_sem, hi]
theorem ext_end (x : ByteArray) (i : Nat) : (x.extract i x.size).data.toList = x.data.toList.drop i := by
  rw [Lib.extract_data, List.take_of_length_le]
  rw [List.length_drop, len_list]
  omega

set_option maxHeartbeats 4000000 in
theorem shownAi_any (t : ByteArray) (p : Nat) (w : World) (hkn : HasKn w) (hp : p < t.size) (hs : t.size ≤ 2048) :
    Calls Tryd.prog 22 #[.string t, .int .i64 (p : Int)] w fun e w' => (∃ a f en n, e = .returned (.tuple #[.string a, .int .i64 f, .int .i64 en, .int .i64 n]) ∧ AiA t.data.toList p a f en n) ∧ Below w.heap.size w w' := by
  have hpI : (p : Int) < (t.size : Int) := by omega
  have hl := len_list t
  have hpl : p < t.data.toList.length := by omega
  have hbt := byte_list t p hp
  have b1 := br_40 (t[p]'hp)
  by_cases h40 : t[p]'hp = 40
  · rw [decide_eq_true h40] at b1
    have hbn : (((t[p]'hp).toNat : Int) != 40) = false := by rw [bne, b1]; rfl
    have h40' : t.data.toList[p]'hpl = 40 := by rw [hbt]; exact h40
    have HI := hid (fun w => Tryd.strings_IndexByte (t.extract p t.size) ((41 : UInt8).toNat : Int) w)
    rw [byte_back, ext_end, ib_open hpl h40'] at HI
    have hsub := fun w => run_subN t p (by omega) w
    have HS := hid (fun m => stp_ai (m := m) hpl h40')
    have HG := hid (fun m k => stp_go (m := m) (k := k) hpl h40')
    have HSh := hid (stp_short hpl h40')
    have hge := Lib.indexByte_ge (t.data.toList.drop (p + 1)) 41
    have HLT := hid (ib_lt (t.data.toList.drop (p + 1)) 41)
    rw [List.length_drop, hl] at HLT
    obtain ⟨z, hz⟩ : ∃ z, Lib.indexByte (t.data.toList.drop (p + 1)) 41 = z := ⟨_, rfl⟩
    rw [hz] at HI HSh HS HG hge HLT
    have HKN := hid hkn
    clear hz hbt h40' h40 hkn
    by_cases hzn : z = -1
    · subst hzn
      rw [if_pos rfl] at HI
      go_enter Tryd.func22, Tryd.ntmps22
      go_wp2_with fail
      refine (HI.out _).mono ?_
      rintro e w1 ⟨rfl, hw1⟩
      have hws := hw1.symm
      clear hw1
      subst hws
      go_wp2
      refine bodyPost_ret (by simp [results, Tryd.results22, go_sem]; try rfl) rfl ?_
      exact ⟨⟨_, _, _, _, rfl, .inl ⟨by decide, by rw [HSh.out (by omega), hl]⟩⟩, Below.refl _ _⟩
    · rw [if_neg hzn] at HI
      obtain ⟨m, rfl⟩ : ∃ m : Nat, z = (m : Int) := ⟨z.toNat, by omega⟩
      have hm := HLT.out (by omega)
      rw [Int.toNat_natCast] at hm
      have hsub2 := fun w => run_subG t (p + 1) (p + (m + 1)) ((p : Int) + ((m : Int) + 1)) (by omega) (by omega) (by omega) w
      rw [Int.natCast_add, Int.natCast_one] at hsub2
      have hed : (t.extract (p + 1) (p + (m + 1))).data.toList = (t.data.toList.drop (p + 1)).take m := by rw [Lib.extract_data, show p + (m + 1) - (p + 1) = m by omega]
      have HS2 := hid (HS.out m rfl)
      have HG2 := hid (fun k => HG.out m k rfl)
      rw [← hed] at HS2 HG2
      have hel : (t.extract (p + 1) (p + (m + 1))).size ≤ t.size := by
        rw [← len_list, hed, List.length_take, List.length_drop]; omega
      obtain ⟨A, hA⟩ : ∃ A, t.extract (p + 1) (p + (m + 1)) = A := ⟨_, rfl⟩
      rw [hA] at hsub2 HS2 HG2 hel
      have HK := hid (fun w h => kindOf_any A w h)
      have HC := hid (fun w => strClone_any A w (by omega))
      unfold kofV at HK
      clear hed hA hzn HS HG HSh HLT hge
      cases hk : kfind A.data.toList with
      | none =>
        have hS3 := HS2.out hk
        rw [hk] at HK
        simp only [Option.getD_none, Option.isSome_none] at HK
        have HS3 := hid hS3
        clear hk HG2 HS2 hS3
        go_enter Tryd.func22, Tryd.ntmps22
        go_wp2_with fail
        refine (HI.out _).mono ?_
        rintro e w1 ⟨rfl, hw1⟩
        have hws := hw1.symm
        clear hw1
        subst hws
        go_wp2_with fail
        refine (HK.out _ HKN.out).mono ?_
        rintro e w2 ⟨rfl, hb2⟩
        have B2 := hid hb2
        clear hb2
        go_wp2
        refine bodyPost_ret (by simp [results, Tryd.results22, go_sem]; try rfl) rfl ?_
        exact ⟨⟨_, _, _, _, rfl, .inl ⟨by decide, by rw [HS3.out]; simp⟩⟩, B2.out⟩
      | some k =>
        have HG3 := hid (HG2.out k hk)
        rw [hk] at HK
        simp only [Option.getD_some, Option.isSome_some] at HK
        clear hk HG2 HS2
        go_enter Tryd.func22, Tryd.ntmps22
        go_wp2_with fail
        refine (HI.out _).mono ?_
        rintro e w1 ⟨rfl, hw1⟩
        have hws := hw1.symm
        clear hw1
        subst hws
        go_wp2_with fail
        refine (HK.out _ HKN.out).mono ?_
        rintro e w2 ⟨rfl, hb2⟩
        have B2 := hid hb2
        clear hb2
        go_wp2_with fail
        refine (HC.out _).mono ?_
        rintro e w3 ⟨rfl, hb3⟩
        have B3 := hid (B2.out.trans (hb3.mono B2.out.size))
        clear hb3
        go_wp2
        refine bodyPost_ret (by simp [results, Tryd.results22, go_sem]; try rfl) rfl ?_
        exact ⟨⟨_, _, _, _, rfl, .inr ⟨rfl, p + m + 2, by omega, by omega, by omega, HG3.out⟩⟩, B3.out⟩
  · rw [decide_eq_false h40] at b1
    have hbn : (((t[p]'hp).toNat : Int) != 40) = true := by rw [bne, b1]; rfl
    have HS := hid (stp_not hpl (by rw [hbt]; exact h40))
    clear hbt h40
    go_enter Tryd.func22, Tryd.ntmps22
    go_wp2
    refine bodyPost_ret (by simp [results, Tryd.results22, go_sem]; try rfl) rfl ?_
    exact ⟨⟨_, _, _, _, rfl, .inl ⟨by decide, HS.out⟩⟩, Below.refl _ _⟩

set_option maxHeartbeats 4000000 in
theorem shownValue_any (t : ByteArray) (f : Nat) (w : World) (hf : f ≤ t.size) (hs : t.size ≤ 2048) :
    Calls Tryd.prog 23 #[.string t, .int .i64 (f : Int)] w fun e w' => (∃ x, e = .returned (.tuple #[.string x, .int .i64 ((f + (sv (t.data.toList.drop f)).2.1 : Nat) : Int), .bool (sv (t.data.toList.drop f)).2.2]) ∧ x.data.toList = (sv (t.data.toList.drop f)).1) ∧ Below w.heap.size w w' := by
  have hl := len_list t
  have F0 := hid (fresh_isB w)
  have B0 := hid ((Below.refl w.heap.size w).alloc (Nat.le_refl _) (.cells #[.pointer none, .slice none 0 0] 50))
  go_enter Tryd.func23, Tryd.ntmps23
  go_wp2_with fail
  go_loopw [1] (fun i wr => ∃ (p : Nat) (acc : List UInt8), p ≤ t.size ∧ i = .int .i64 (p : Int) ∧ SvR t.data.toList f p acc ∧ IsB w.heap.size w.heap.size acc wr ∧ Below w.heap.size w wr) (fun i _ => t.size - (intOf i).toNat)
  case atStart => exact ⟨f, [], hf, rfl, SvR.start _ _, F0.out, B0.out⟩
  case round =>
    obtain ⟨p, acc, hp, rfl, hR, hI, hB⟩ := hrel
    have HR := hid hR
    have I1 := hid hI
    have B1 := hid hB
    have hac := hR.2.1
    have hfp := hR.1
    clear hR hI hB F0 B0
    by_cases hlt : p < t.size
    · have hpI : (p : Int) < (t.size : Int) := by omega
      have hpl : p < t.data.toList.length := by omega
      have hbt := byte_list t p hlt
      have HBr := hid (fun w => isBracket_any (t[p]'hlt) w)
      have HW := hid (writeByteK w.heap.size w.heap.size acc (t[p]'hlt) _ wr I1.out rfl (by omega) B1.out.size)
      have HS := hid (string_any w.heap.size w.heap.size _ wr I1.out B1.out.size)
      by_cases hbr : IsBr (t[p]'hlt)
      · rw [decide_eq_true hbr] at HBr
        by_cases hn : p + 1 < t.size
        · have hnI : (p : Int) + 1 < (t.size : Int) := by omega
          have hbn := byte_list t (p + 1) hn
          have he := br_eq (t[p + 1]'hn) (t[p]'hlt)
          by_cases heq : t[p + 1]'hn = t[p]'hlt
          · rw [decide_eq_true heq] at he
            have HN := hid (HR.out.twice (show p + 1 < t.data.toList.length by omega) (by rw [hbt]; exact hbr) (by rw [hbt, hbn]; exact heq))
            rw [hbt] at HN
            clear hbr heq hbt hbn HS
            go_wp2_with fail
            refine (HBr.out _).mono ?_
            rintro e w3 ⟨rfl, hw3⟩
            have hws := hw3.symm
            clear hw3
            subst hws
            go_wp2_with fail
            refine HW.out.mono ?_
            rintro e w4 ⟨rfl, hi4, hb4, hk4⟩
            have I4 := hid hi4
            have B4 := hid (B1.out.trans hb4)
            clear hi4 hb4 hk4 HW I1 B1 HBr
            go_wp2
            go_roundw
            case rel => exact ⟨p + 2, _, by omega, by go_num, HN.out, I4.out, B4.out⟩
            case measure => simp [intOf]; omega
          · rw [decide_eq_false heq] at he
            have HN := hid (HR.out.stop hpl (by rw [hbt]; exact hbr) (fun _ => by rw [hbt, hbn]; exact heq))
            rw [hbt, ← br_40] at HN
            clear hbr heq hbt hbn HW
            go_wp2_with fail
            refine (HBr.out _).mono ?_
            rintro e w3 ⟨rfl, hw3⟩
            have hws := hw3.symm
            clear hw3
            subst hws
            go_wp2_with fail
            refine HS.out.mono ?_
            rintro e w4 ⟨rfl, hb4⟩
            have B4 := hid (B1.out.trans hb4)
            clear hb4 HBr HS
            go_wp2
            go_ret3
            refine ⟨⟨⟨acc.toArray⟩, ?_, by rw [HN.out]⟩, B4.out⟩
            rw [HN.out]
            simp only
            rw [show f + (p - f) = p by omega]
            rfl
        · have hnI : ¬ (p : Int) + 1 < (t.size : Int) := by omega
          have HN := hid (HR.out.stop hpl (by rw [hbt]; exact hbr) (fun h => by omega))
          rw [hbt, ← br_40] at HN
          clear hbr hbt HW
          go_wp2_with fail
          refine (HBr.out _).mono ?_
          rintro e w3 ⟨rfl, hw3⟩
          have hws := hw3.symm
          clear hw3
          subst hws
          go_wp2_with fail
          refine HS.out.mono ?_
          rintro e w4 ⟨rfl, hb4⟩
          have B4 := hid (B1.out.trans hb4)
          clear hb4 HBr HS
          go_wp2
          go_ret3
          refine ⟨⟨⟨acc.toArray⟩, ?_, by rw [HN.out]⟩, B4.out⟩
          rw [HN.out]
          simp only
          rw [show f + (p - f) = p by omega]
          rfl
      · rw [decide_eq_false hbr] at HBr
        have HN := hid (HR.out.plain hpl (by rw [hbt]; exact hbr))
        rw [hbt] at HN
        clear hbr hbt HS
        go_wp2_with fail
        refine (HBr.out _).mono ?_
        rintro e w3 ⟨rfl, hw3⟩
        have hws := hw3.symm
        clear hw3
        subst hws
        go_wp2_with fail
        refine HW.out.mono ?_
        rintro e w4 ⟨rfl, hi4, hb4, hk4⟩
        have I4 := hid hi4
        have B4 := hid (B1.out.trans hb4)
        clear hi4 hb4 hk4 HW I1 B1 HBr
        go_wp2
        go_roundw
        case rel => exact ⟨p + 1, _, by omega, by go_num, HN.out, I4.out, B4.out⟩
        case measure => simp [intOf]; omega
    · have hpI : ¬ (p : Int) < (t.size : Int) := by omega
      have HN := hid (HR.out.out (by omega))
      have HS := hid (string_any w.heap.size w.heap.size _ wr I1.out B1.out.size)
      go_wp2_with fail
      refine HS.out.mono ?_
      rintro e w4 ⟨rfl, hb4⟩
      have B4 := hid (B1.out.trans hb4)
      clear hb4 HS
      go_wp2
      go_ret3
      refine ⟨⟨⟨acc.toArray⟩, ?_, by rw [HN.out]⟩, B4.out⟩
      rw [HN.out]
      simp only
      rw [show f + (p - f) = p by omega]
      rfl
end Go.Proofs.YtpplkoilpblpkaaDoor
