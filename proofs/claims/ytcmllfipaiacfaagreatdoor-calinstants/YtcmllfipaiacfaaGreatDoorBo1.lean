/-
  Both sides' ParseInstant answer the same. Laid by mkbo1.py.
-/
import Derived.Test.YtcmllfipaiacfaaGreatDoorAg2
import Derived.Test.YtcmllfipaiacfaaGreatDoorRi1
import Derived.Test.YtcmllfipaiacfaaGreatDoorRi2
import Derived.Test.YtcmllfipaiacfaaGreatDoorTp3
import Derived.Test.YtcmllfipaiacfaaGreatDoorIa3
import Derived.Test.YtcmllfipaiacfaaGreatDoorLawReads
namespace Go.Proofs.YtcmllfipaiacfaaGreatDoor
open Go.RowKit
set_option maxRecDepth 100000
set_option linter.unusedSimpArgs false
set_option linter.unusedVariables false

theorem fi_split (p : UInt8 → Bool) : ∀ L : List UInt8, (L.findIdx p = L.length ∧ ∀ c ∈ L, p c = false) ∨ (∃ c B, L = L.take (L.findIdx p) ++ c :: B ∧ p c = true ∧ (∀ c ∈ L.take (L.findIdx p), p c = false) ∧ L.findIdx p < L.length)
  | [] => .inl ⟨rfl, by simp⟩
  | a :: L => by
    by_cases h : p a = true
    · refine .inr ⟨a, L, ?_, h, ?_, ?_⟩
      · rw [List.findIdx_cons, h]; rfl
      · rw [List.findIdx_cons, h]; simp
      · rw [List.findIdx_cons, h]; simp
    · have h' : p a = false := by simpa using h
      have e : (a :: L).findIdx p = L.findIdx p + 1 := by rw [List.findIdx_cons, h']; rfl
      rw [e]
      rcases fi_split p L with ⟨h1, h2⟩ | ⟨c, B, h1, h2, h3, h4⟩
      · refine .inl ⟨by rw [h1]; rfl, fun c hc => ?_⟩
        rcases List.mem_cons.1 hc with rfl | hc
        · exact h'
        · exact h2 c hc
      · refine .inr ⟨c, B, ?_, h2, fun x hx => ?_, by rw [List.length_cons]; omega⟩
        · rw [List.take_succ_cons, List.cons_append, ← h1]
        · rw [List.take_succ_cons] at hx
          rcases List.mem_cons.1 hx with rfl | hx
          · exact h'
          · exact h3 x hx
theorem ofT_ok (n y m d e p : Int) (h : ofT n = rT y m d e p) (he : e = 0) : VD y m d ∧ p = 0 := by
  unfold ofT rT at h
  split at h
  · rename_i hn
    injection h with h
    simp [dV] at h
    obtain ⟨⟨h1, h2, h3⟩, _, h4⟩ := h
    rw [← h1, ← h2, ← h3]
    exact ⟨(dt_is n hn).1, h4.symm⟩
  · injection h with h
    simp [dV] at h
    obtain ⟨_, h4, _⟩ := h
    omega
theorem rd_ok (p1 p2 : Nat) (n0 n1 n2 y m d e p : Int) (h : rdV p1 p2 n0 n1 n2 = rT y m d e p) (he : e = 0) : VD y m d ∧ p = 0 := by
  unfold rdV rT at h
  split at h
  · split at h
    · rename_i hv
      injection h with h
      simp [dV] at h
      obtain ⟨⟨h1, h2, h3⟩, _, h4⟩ := h
      rw [← h1, ← h2, ← h3]
      exact ⟨hv, h4.symm⟩
    · injection h with h
      simp [dV] at h
      obtain ⟨_, h4, _⟩ := h
      omega
  · injection h with h
    simp [dV] at h
    obtain ⟨_, h4, _⟩ := h
    omega
theorem ry_ok (p1 : Nat) (n0 n1 y m d e p : Int) (hn : 0 ≤ n0 ∧ n0 ≤ 9999) (h : ryV p1 n0 n1 = rT y m d e p) (he : e = 0) : VD y m d ∧ p = 0 := by
  unfold ryV rT at h
  split at h
  · rename_i hv
    injection h with h
    simp [dV] at h
    obtain ⟨⟨h1, h2, h3⟩, _, h4⟩ := h
    have a := ys_le 0 n0 hn.1
    have b := ys_le (n0 + 1) 10000 (by omega)
    have c := ys_next n0
    rw [ys_zero] at a
    rw [ys_10000] at b
    rw [← h1, ← h2, ← h3]
    exact ⟨(dt_is _ ⟨by omega, by omega⟩).1, h4.symm⟩
  · injection h with h
    simp [dV] at h
    obtain ⟨_, h4, _⟩ := h
    omega
theorem rw_ok (p1 p2 : Nat) (n0 n1 n2 y m d e p : Int) (h : rwV p1 p2 n0 n1 n2 = rT y m d e p) (he : e = 0) : VD y m d ∧ p = 0 := by
  unfold rwV at h
  split at h
  · split at h
    · exact ofT_ok _ y m d e p h he
    · unfold rT at h
      injection h with h
      simp [dV] at h
      obtain ⟨_, h4, _⟩ := h
      omega
  · unfold rT at h
    injection h with h
    simp [dV] at h
    obtain ⟨_, h4, _⟩ := h
    omega
theorem nt4 (t : ByteArray) (k : Nat) (hk : k < 6) (h : MK t k) : 0 ≤ nt t 0 4 ∧ nt t 0 4 ≤ 9999 := by
  have hd : ∀ c ∈ sub t.data.toList 0 4, isDB c = true := by
    match k, hk, h with
    | 0, _, h => exact mk_dig t 0 0 4 h (by decide)
    | 1, _, h => exact mk_dig t 1 0 4 h (by decide)
    | 2, _, h => exact mk_dig t 2 0 4 h (by decide)
    | 3, _, h => exact mk_dig t 3 0 4 h (by decide)
    | 4, _, h => exact mk_dig t 4 0 4 h (by decide)
    | 5, _, h => exact mk_dig t 5 0 4 h (by decide)
  have h1 := nm_lt (sub t.data.toList 0 4) hd
  have h2 : (sub t.data.toList 0 4).length ≤ 4 := by unfold sub; simp; omega
  have h3 : 10 ^ (sub t.data.toList 0 4).length ≤ 10 ^ 4 := Nat.pow_le_pow_right (by decide) h2
  unfold nt
  omega
/-- both sides read a day's text alike; a day that is told may be -/
theorem reads_both' (t : ByteArray) : ∃ y m d e p : Int, (∀ w, HasAh w → Calls Tryz.prog 13 #[.string t] w fun x w' => x = .returned (rT y m d e p) ∧ Below w.heap.size w w') ∧ RPd t (rT y m d e p) ∧ (e = 0 → VD y m d ∧ p = 0) := by
  by_cases hs : 64 < t.size
  · exact ⟨_, _, _, _, _, fun w _ => parse_long t hs w, fun w => refParse_long t hs w, fun h => by cases h⟩
  · rcases ds_cases t.data.toList with ⟨p, hp⟩ | ⟨k, hk, hf, hm⟩
    · exact ⟨_, _, _, _, _, fun w _ => parse_none t (by omega) p hp w, fun w => refParse_none t (by omega) p hp w, fun h => by cases h⟩
    · obtain ⟨y, m, d, e, p, hv⟩ := shA_is t k
      have h9 := nt4 t k hk hm
      refine ⟨y, m, d, e, p, ?_, ?_, ?_⟩
      · intro w hA
        rw [← hv]
        match k, hk, hf, hm with
        | 0, _, hf, hm => exact parse_0 t hm hf w hA
        | 1, _, hf, hm => exact parse_1 t hm hf w hA
        | 2, _, hf, hm => exact parse_2 t hm hf w hA
        | 3, _, hf, hm => exact parse_3 t hm hf w hA
        | 4, _, hf, hm => exact parse_4 t hm hf w hA
        | 5, _, hf, hm => exact parse_5 t hm hf w hA
      · intro w
        rw [← hv]
        match k, hk, hf, hm with
        | 0, _, hf, hm => exact refParse_0 t hm hf w
        | 1, _, hf, hm => exact refParse_1 t hm hf w
        | 2, _, hf, hm => exact refParse_2 t hm hf w
        | 3, _, hf, hm => exact refParse_3 t hm hf w
        | 4, _, hf, hm => exact refParse_4 t hm hf w
        | 5, _, hf, hm => exact refParse_5 t hm hf w
      · match k, hk, hv with
        | 0, _, hv => exact rd_ok _ _ _ _ _ _ _ _ _ _ hv
        | 1, _, hv => exact rd_ok _ _ _ _ _ _ _ _ _ _ hv
        | 2, _, hv => exact ry_ok _ _ _ _ _ _ _ _ h9 hv
        | 3, _, hv => exact ry_ok _ _ _ _ _ _ _ _ h9 hv
        | 4, _, hv => exact rw_ok _ _ _ _ _ _ _ _ _ _ hv
        | 5, _, hv => exact rw_ok _ _ _ _ _ _ _ _ _ _ hv
def PrIn (t : ByteArray) (v : Int × Int × Int) : Prop := ∀ w, HasAh w → Calls Tryz.prog 7 #[.string t] w fun e w' => e = .returned (tup v) ∧ Below w.heap.size w w'
theorem bothN_E (t : ByteArray) (ht : t.size ≤ 64) (i : Nat) (hi : fnd t.data.toList [84] 0 = i) (hil : i < t.size) (y m d : Int) (hv : VD y m d) (P : ∀ w, HasAh w → Calls Tryz.prog 13 #[.string (t.extract 0 i)] w fun x w' => x = .returned (rT y m d 0 0) ∧ Below w.heap.size w w') (Q : RPd (t.extract 0 i) (rT y m d 0 0)) (j : Nat) (hj : fnd (t.extract 0 i).data.toList [45] 0 = j) (hx : j < i) (z : Nat) (hz : fnd t.data.toList [90, 43, 45] (i + 1) = z) (hiz : i + 1 ≤ z) (hzs : z ≤ t.size) (hze : z = t.size) (hC : CutsN t (t.extract 0 i) (t.extract (i + 1) z) true) : ∃ v, PrIn t v ∧ RIn t v := by
  have lt : t.data.toList.length = t.size := Array.length_toList
  have sD : (t.extract 0 i).size = i := by rw [ByteArray.size_extract]; omega
  have hul : (t.extract 0 z).data.toList = t.data.toList.take (i + 1) ++ (t.extract (i + 1) z).data.toList := by
    rw [ext_list, ext_list, List.drop_zero, Nat.sub_zero]
    have e := List.take_add (l := t.data.toList) (i := i + 1) (j := z - (i + 1))
    rw [show i + 1 + (z - (i + 1)) = z by omega] at e
    exact e
  have hAl : (t.data.toList.take (i + 1)).length = i + 1 := by rw [List.length_take, lt]; omega
  have hus : (t.extract 0 z).size ≤ 64 := by rw [ByteArray.size_extract]; omega
  have hts : (t.extract (i + 1) z).size ≤ 64 := by rw [ByteArray.size_extract]; omega
  rcases timeE (t.extract (i + 1) z) hts with ⟨n, hn, hf, hr⟩ | ⟨k, q, hf, hag⟩
  · refine ⟨(0, 32, (i : Int) + 1 + (n : Int)), fun w hA => ?_, rin_shapeE t ht i hi (by omega) y m d 0 0 Q j hj z hz hil hiz hzs rfl hx n hf hn⟩
    have h := pin_noZt t _ _ true hC y m d P 0 32 n hn (by decide) hr w hA
    rw [sD] at h
    exact h
  · obtain ⟨c, ok, pt, hc, hpt, h1, h2⟩ := hag (t.extract 0 z) _ hul hus
    rw [hAl] at h2
    cases ok
    · refine ⟨(0, 32, (((i + 1) + pt : Nat) : Int)), fun w hA => ?_, rin_clockE t ht i hi (by omega) y m d 0 0 Q j hj z hz hil hiz hzs rfl hx k q hf 0 _ (by omega) h2⟩
      have h := pin_noZt t _ _ true hC y m d P 0 32 pt hpt (by decide) h1 w hA
      rw [sD, show (i : Int) + 1 + (pt : Int) = (((i + 1) + pt : Nat) : Int) by omega] at h
      exact h
    · exact ⟨(0, 33, (t.size : Int)), fun w hA => pin_noZ t _ _ true hC y m d P c h1 w hA, rin_noZE t ht i hi (by omega) y m d 0 0 Q j hj z hz hil hiz hzs rfl hx k q hf c 0 hc h2 hze⟩
theorem bothZ_E (t : ByteArray) (ht : t.size ≤ 64) (i : Nat) (hi : fnd t.data.toList [84] 0 = i) (hil : i < t.size) (y m d : Int) (hv : VD y m d) (P : ∀ w, HasAh w → Calls Tryz.prog 13 #[.string (t.extract 0 i)] w fun x w' => x = .returned (rT y m d 0 0) ∧ Below w.heap.size w w') (Q : RPd (t.extract 0 i) (rT y m d 0 0)) (j : Nat) (hj : fnd (t.extract 0 i).data.toList [45] 0 = j) (hx : j < i) (z : Nat) (hz : fnd t.data.toList [90, 43, 45] (i + 1) = z) (hiz : i + 1 ≤ z) (hzs : z ≤ t.size) (hzl : z < t.size) (f : Nat) (hzf : z = i + 1 + f) (hC : Cuts t (t.extract 0 i) (t.extract (i + 1) t.size) true f) : ∃ v, PrIn t v ∧ RIn t v := by
  have lt : t.data.toList.length = t.size := Array.length_toList
  have sD : (t.extract 0 i).size = i := by rw [ByteArray.size_extract]; omega
  have hul : (t.extract 0 z).data.toList = t.data.toList.take (i + 1) ++ (t.extract (i + 1) z).data.toList := by
    rw [ext_list, ext_list, List.drop_zero, Nat.sub_zero]
    have e := List.take_add (l := t.data.toList) (i := i + 1) (j := z - (i + 1))
    rw [show i + 1 + (z - (i + 1)) = z by omega] at e
    exact e
  have hAl : (t.data.toList.take (i + 1)).length = i + 1 := by rw [List.length_take, lt]; omega
  have hus : (t.extract 0 z).size ≤ 64 := by rw [ByteArray.size_extract]; omega
  have hts : (t.extract (i + 1) z).size ≤ 64 := by rw [ByteArray.size_extract]; omega
  have eT : (t.extract (i + 1) t.size).extract 0 f = t.extract (i + 1) z := bax (by
    rw [ext_list, ext_list, ext_list, List.drop_zero, Nat.sub_zero, List.take_take, show min f (t.size - (i + 1)) = z - (i + 1) by omega])
  have eZ : (t.extract (i + 1) t.size).extract f (t.extract (i + 1) t.size).size = t.extract z t.size := bax (by
    rw [ext_list, ext_list, ext_list, ByteArray.size_extract, List.drop_take, List.drop_drop, List.take_take, show i + 1 + f = z by omega, show min (min t.size t.size - (i + 1) - f) (t.size - (i + 1) - f) = t.size - z by omega])
  have sR : (t.extract (i + 1) t.size).size ≤ 64 := by rw [ByteArray.size_extract]; omega
  rcases timeE (t.extract (i + 1) z) hts with ⟨n, hn, hf, hr⟩ | ⟨k, q, hf, hag⟩
  · refine ⟨(0, 32, (i : Int) + 1 + (n : Int)), fun w hA => ?_, rin_shapeE t ht i hi (by omega) y m d 0 0 Q j hj z hz hil hiz hzs rfl hx n hf hn⟩
    have h := parseInstant_time t _ _ true f hC y m d P 0 32 n hn (by decide) (by rw [eT]; exact hr) w hA
    rw [sD] at h
    exact h
  · obtain ⟨c, ok, pt, hc, hpt, h1, h2⟩ := hag (t.extract 0 z) _ hul hus
    rw [hAl] at h2
    cases ok
    · refine ⟨(0, 32, (((i + 1) + pt : Nat) : Int)), fun w hA => ?_, rin_clockE t ht i hi (by omega) y m d 0 0 Q j hj z hz hil hiz hzs rfl hx k q hf 0 _ (by omega) h2⟩
      have h := parseInstant_time t _ _ true f hC y m d P 0 32 pt hpt (by decide) (by rw [eT]; exact h1) w hA
      rw [sD, show (i : Int) + 1 + (pt : Int) = (((i + 1) + pt : Nat) : Int) by omega] at h
      exact h
    · have h1' : Reads3 19 #[.string ((t.extract (i + 1) t.size).extract 0 f), .bool true] (tup (c, 0, 0)) := by rw [eT]; exact h1
      have hzs' : (t.extract z t.size).size ≤ 64 := by rw [ByteArray.size_extract]; omega
      rcases zoneAE (t.extract z t.size) hzs' with ⟨n, hn, hf2, hr⟩ | ⟨k2, q2, hf2, hzg⟩
      · refine ⟨(0, 33, (z : Int) + (n : Int)), fun w hA => ?_, rin_zshapeE t ht i hi (by omega) y m d 0 0 Q j hj z hz hil hiz hzs rfl hx k q hf c 0 hc h2 hzl n hn hf2⟩
        have h := pin_zone t _ _ true f hC y m d P c 0 33 n hc (by omega) h1' (by rw [eZ]; exact hr) (by decide) hn sR w hA
        rw [sD, show (i : Int) + 1 + (f : Int) + (n : Int) = (z : Int) + (n : Int) by omega] at h
        exact h
      · have hB : t.data.toList = t.data.toList.take z ++ (t.extract z t.size).data.toList := by
          rw [ext_list, List.take_of_length_le (l := t.data.toList.drop z) (by rw [List.length_drop, lt]; exact Nat.le_refl _), List.take_append_drop]
        have hBl : (t.data.toList.take z).length = z := by rw [List.length_take, lt]; omega
        obtain ⟨o, ok2, pz, ho, hpz, g1, g2⟩ := hzg t _ hB ht
        rw [hBl] at g2
        cases ok2
        · refine ⟨(0, 33, ((z + pz : Nat) : Int)), fun w hA => ?_, rin_zoneE t ht i hi (by omega) y m d 0 0 Q j hj z hz hil hiz hzs rfl hx k q hf c 0 hc h2 hzl k2 q2 hf2 0 _ (by omega) g2⟩
          have h := pin_zone t _ _ true f hC y m d P c 0 33 pz hc (by omega) h1' (by rw [eZ]; exact g1) (by decide) hpz sR w hA
          rw [sD, show (i : Int) + 1 + (f : Int) + (pz : Int) = ((z + pz : Nat) : Int) by omega] at h
          exact h
        · have g1' : Reads3 20 #[.string ((t.extract (i + 1) t.size).extract f (t.extract (i + 1) t.size).size), .bool true] (tup (o, 0, 0)) := by rw [eZ]; exact g1
          by_cases hr : InstS (86400 * nb y m d + c - 60 * o)
          · exact ⟨_, fun w hA => parseInstant_good t _ _ true f hC y m d P hv c o hc (by omega) h1' g1' hr w hA, rin_goodE t ht i hi (by omega) y m d 0 0 Q j hj z hz hil hiz hzs rfl hx k q hf c 0 hc h2 hzl k2 q2 hf2 (60 * o) 0 ho g2 hv hr⟩
          · exact ⟨_, fun w hA => pin_range t _ _ true f hC y m d P hv c o hc (by omega) h1' g1' hr w hA, rin_rangeE t ht i hi (by omega) y m d 0 0 Q j hj z hz hil hiz hzs rfl hx k q hf c 0 hc h2 hzl k2 q2 hf2 (60 * o) 0 ho g2 hv hr⟩
theorem bothN_P (t : ByteArray) (ht : t.size ≤ 64) (i : Nat) (hi : fnd t.data.toList [84] 0 = i) (hil : i < t.size) (y m d : Int) (hv : VD y m d) (P : ∀ w, HasAh w → Calls Tryz.prog 13 #[.string (t.extract 0 i)] w fun x w' => x = .returned (rT y m d 0 0) ∧ Below w.heap.size w w') (Q : RPd (t.extract 0 i) (rT y m d 0 0)) (j : Nat) (hj : fnd (t.extract 0 i).data.toList [45] 0 = j) (hx : ¬ j < i) (z : Nat) (hz : fnd t.data.toList [90, 43, 45] (i + 1) = z) (hiz : i + 1 ≤ z) (hzs : z ≤ t.size) (hze : z = t.size) (hC : CutsN t (t.extract 0 i) (t.extract (i + 1) z) false) : ∃ v, PrIn t v ∧ RIn t v := by
  have lt : t.data.toList.length = t.size := Array.length_toList
  have sD : (t.extract 0 i).size = i := by rw [ByteArray.size_extract]; omega
  have hul : (t.extract 0 z).data.toList = t.data.toList.take (i + 1) ++ (t.extract (i + 1) z).data.toList := by
    rw [ext_list, ext_list, List.drop_zero, Nat.sub_zero]
    have e := List.take_add (l := t.data.toList) (i := i + 1) (j := z - (i + 1))
    rw [show i + 1 + (z - (i + 1)) = z by omega] at e
    exact e
  have hAl : (t.data.toList.take (i + 1)).length = i + 1 := by rw [List.length_take, lt]; omega
  have hus : (t.extract 0 z).size ≤ 64 := by rw [ByteArray.size_extract]; omega
  have hts : (t.extract (i + 1) z).size ≤ 64 := by rw [ByteArray.size_extract]; omega
  rcases timeP (t.extract (i + 1) z) hts with ⟨n, hn, hf, hr⟩ | ⟨k, q, hf, hag⟩
  · refine ⟨(0, 32, (i : Int) + 1 + (n : Int)), fun w hA => ?_, rin_shapeP t ht i hi (by omega) y m d 0 0 Q j hj z hz hil hiz hzs rfl hx n hf hn⟩
    have h := pin_noZt t _ _ false hC y m d P 0 32 n hn (by decide) hr w hA
    rw [sD] at h
    exact h
  · obtain ⟨c, ok, pt, hc, hpt, h1, h2⟩ := hag (t.extract 0 z) _ hul hus
    rw [hAl] at h2
    cases ok
    · refine ⟨(0, 32, (((i + 1) + pt : Nat) : Int)), fun w hA => ?_, rin_clockP t ht i hi (by omega) y m d 0 0 Q j hj z hz hil hiz hzs rfl hx k q hf 0 _ (by omega) h2⟩
      have h := pin_noZt t _ _ false hC y m d P 0 32 pt hpt (by decide) h1 w hA
      rw [sD, show (i : Int) + 1 + (pt : Int) = (((i + 1) + pt : Nat) : Int) by omega] at h
      exact h
    · exact ⟨(0, 33, (t.size : Int)), fun w hA => pin_noZ t _ _ false hC y m d P c h1 w hA, rin_noZP t ht i hi (by omega) y m d 0 0 Q j hj z hz hil hiz hzs rfl hx k q hf c 0 hc h2 hze⟩
theorem bothZ_P (t : ByteArray) (ht : t.size ≤ 64) (i : Nat) (hi : fnd t.data.toList [84] 0 = i) (hil : i < t.size) (y m d : Int) (hv : VD y m d) (P : ∀ w, HasAh w → Calls Tryz.prog 13 #[.string (t.extract 0 i)] w fun x w' => x = .returned (rT y m d 0 0) ∧ Below w.heap.size w w') (Q : RPd (t.extract 0 i) (rT y m d 0 0)) (j : Nat) (hj : fnd (t.extract 0 i).data.toList [45] 0 = j) (hx : ¬ j < i) (z : Nat) (hz : fnd t.data.toList [90, 43, 45] (i + 1) = z) (hiz : i + 1 ≤ z) (hzs : z ≤ t.size) (hzl : z < t.size) (f : Nat) (hzf : z = i + 1 + f) (hC : Cuts t (t.extract 0 i) (t.extract (i + 1) t.size) false f) : ∃ v, PrIn t v ∧ RIn t v := by
  have lt : t.data.toList.length = t.size := Array.length_toList
  have sD : (t.extract 0 i).size = i := by rw [ByteArray.size_extract]; omega
  have hul : (t.extract 0 z).data.toList = t.data.toList.take (i + 1) ++ (t.extract (i + 1) z).data.toList := by
    rw [ext_list, ext_list, List.drop_zero, Nat.sub_zero]
    have e := List.take_add (l := t.data.toList) (i := i + 1) (j := z - (i + 1))
    rw [show i + 1 + (z - (i + 1)) = z by omega] at e
    exact e
  have hAl : (t.data.toList.take (i + 1)).length = i + 1 := by rw [List.length_take, lt]; omega
  have hus : (t.extract 0 z).size ≤ 64 := by rw [ByteArray.size_extract]; omega
  have hts : (t.extract (i + 1) z).size ≤ 64 := by rw [ByteArray.size_extract]; omega
  have eT : (t.extract (i + 1) t.size).extract 0 f = t.extract (i + 1) z := bax (by
    rw [ext_list, ext_list, ext_list, List.drop_zero, Nat.sub_zero, List.take_take, show min f (t.size - (i + 1)) = z - (i + 1) by omega])
  have eZ : (t.extract (i + 1) t.size).extract f (t.extract (i + 1) t.size).size = t.extract z t.size := bax (by
    rw [ext_list, ext_list, ext_list, ByteArray.size_extract, List.drop_take, List.drop_drop, List.take_take, show i + 1 + f = z by omega, show min (min t.size t.size - (i + 1) - f) (t.size - (i + 1) - f) = t.size - z by omega])
  have sR : (t.extract (i + 1) t.size).size ≤ 64 := by rw [ByteArray.size_extract]; omega
  rcases timeP (t.extract (i + 1) z) hts with ⟨n, hn, hf, hr⟩ | ⟨k, q, hf, hag⟩
  · refine ⟨(0, 32, (i : Int) + 1 + (n : Int)), fun w hA => ?_, rin_shapeP t ht i hi (by omega) y m d 0 0 Q j hj z hz hil hiz hzs rfl hx n hf hn⟩
    have h := parseInstant_time t _ _ false f hC y m d P 0 32 n hn (by decide) (by rw [eT]; exact hr) w hA
    rw [sD] at h
    exact h
  · obtain ⟨c, ok, pt, hc, hpt, h1, h2⟩ := hag (t.extract 0 z) _ hul hus
    rw [hAl] at h2
    cases ok
    · refine ⟨(0, 32, (((i + 1) + pt : Nat) : Int)), fun w hA => ?_, rin_clockP t ht i hi (by omega) y m d 0 0 Q j hj z hz hil hiz hzs rfl hx k q hf 0 _ (by omega) h2⟩
      have h := parseInstant_time t _ _ false f hC y m d P 0 32 pt hpt (by decide) (by rw [eT]; exact h1) w hA
      rw [sD, show (i : Int) + 1 + (pt : Int) = (((i + 1) + pt : Nat) : Int) by omega] at h
      exact h
    · have h1' : Reads3 19 #[.string ((t.extract (i + 1) t.size).extract 0 f), .bool false] (tup (c, 0, 0)) := by rw [eT]; exact h1
      have hzs' : (t.extract z t.size).size ≤ 64 := by rw [ByteArray.size_extract]; omega
      rcases zoneAP (t.extract z t.size) hzs' with ⟨n, hn, hf2, hr⟩ | ⟨k2, q2, hf2, hzg⟩
      · refine ⟨(0, 33, (z : Int) + (n : Int)), fun w hA => ?_, rin_zshapeP t ht i hi (by omega) y m d 0 0 Q j hj z hz hil hiz hzs rfl hx k q hf c 0 hc h2 hzl n hn hf2⟩
        have h := pin_zone t _ _ false f hC y m d P c 0 33 n hc (by omega) h1' (by rw [eZ]; exact hr) (by decide) hn sR w hA
        rw [sD, show (i : Int) + 1 + (f : Int) + (n : Int) = (z : Int) + (n : Int) by omega] at h
        exact h
      · have hB : t.data.toList = t.data.toList.take z ++ (t.extract z t.size).data.toList := by
          rw [ext_list, List.take_of_length_le (l := t.data.toList.drop z) (by rw [List.length_drop, lt]; exact Nat.le_refl _), List.take_append_drop]
        have hBl : (t.data.toList.take z).length = z := by rw [List.length_take, lt]; omega
        obtain ⟨o, ok2, pz, ho, hpz, g1, g2⟩ := hzg t _ hB ht
        rw [hBl] at g2
        cases ok2
        · refine ⟨(0, 33, ((z + pz : Nat) : Int)), fun w hA => ?_, rin_zoneP t ht i hi (by omega) y m d 0 0 Q j hj z hz hil hiz hzs rfl hx k q hf c 0 hc h2 hzl k2 q2 hf2 0 _ (by omega) g2⟩
          have h := pin_zone t _ _ false f hC y m d P c 0 33 pz hc (by omega) h1' (by rw [eZ]; exact g1) (by decide) hpz sR w hA
          rw [sD, show (i : Int) + 1 + (f : Int) + (pz : Int) = ((z + pz : Nat) : Int) by omega] at h
          exact h
        · have g1' : Reads3 20 #[.string ((t.extract (i + 1) t.size).extract f (t.extract (i + 1) t.size).size), .bool false] (tup (o, 0, 0)) := by rw [eZ]; exact g1
          by_cases hr : InstS (86400 * nb y m d + c - 60 * o)
          · exact ⟨_, fun w hA => parseInstant_good t _ _ false f hC y m d P hv c o hc (by omega) h1' g1' hr w hA, rin_goodP t ht i hi (by omega) y m d 0 0 Q j hj z hz hil hiz hzs rfl hx k q hf c 0 hc h2 hzl k2 q2 hf2 (60 * o) 0 ho g2 hv hr⟩
          · exact ⟨_, fun w hA => pin_range t _ _ false f hC y m d P hv c o hc (by omega) h1' g1' hr w hA, rin_rangeP t ht i hi (by omega) y m d 0 0 Q j hj z hz hil hiz hzs rfl hx k q hf c 0 hc h2 hzl k2 q2 hf2 (60 * o) 0 ho g2 hv hr⟩
end Go.Proofs.YtcmllfipaiacfaaGreatDoor
