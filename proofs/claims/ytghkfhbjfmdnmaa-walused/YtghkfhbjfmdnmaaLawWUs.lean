/-
  WalUsed: the law's own walk, out of the contracts.
-/
import Derived.Test.YtghkfhbjfmdnmaaWl5
import Derived.Test.YtghkfhbjfmdnmaaLend
namespace Go.Proofs.Ytghkfhbjfmdnmaa
open Go.RowKit
set_option maxRecDepth 100000

theorem Usd.both {st : Nat} {l : List UInt8} {w w' : World} {e : Ending} (h : Usd st l w e w') : ∃ v' o R, usO st l = o ∧ usL st l = R ∧ e = .returned (.tuple #[v', .bool o]) ∧ Owns w' w.heap.size v' R ∧ Below w.heap.size w w' := by
  obtain ⟨v', h1, h2, h3⟩ := h
  exact ⟨v', _, _, rfl, rfl, h1, h2, h3⟩
theorem text_run {w : World} {v : Value} {l : List UInt8} (h : Reads w v l) : (convert 22 9 v).run Try.prog w = .ok (.string ⟨l.toArray⟩) w :=
  run_text 22 9 Try.underlying22 Try.underlying5 Try.underlying9 h

theorem owns_frozen {w : World} {base g n cap : Nat} {l : List UInt8} (h : Owns w base (.slice (some ⟨g, 0, none⟩) n cap) l) (j : Nat) : w.frozen? ⟨g, j, none⟩ = false := by
  rcases h.2 with ⟨h1, _⟩ | ⟨g', cap', cur, hv, _, hg, _⟩
  · cases h1
  · cases hv
    simp [World.frozen?, hg]
theorem owns_set {w : World} {base g n cap : Nat} {l : List UInt8} (h : Owns w base (.slice (some ⟨g, 0, none⟩) n cap) l) (j : Nat) (c : UInt8) : Owns (w.setCell ⟨g, j, none⟩ (.int .u8 (c.toNat : Int))) base (.slice (some ⟨g, 0, none⟩) n cap) (l.set j c) := by
  rcases h.2 with ⟨h1, _⟩ | ⟨g', cap', cur, hv, hb, hg, hn, hm, hs, ht⟩
  · cases h1
  · cases hv
    refine ⟨by simp [bc_length], .inr ⟨g, cap, cur.setIfInBounds j (.int .u8 (c.toNat : Int)), by rw [List.length_set], hb, heap_setCell_same w g j _ _ _ hg, by rw [List.length_set]; exact hn, hm, by simpa using hs, ?_⟩⟩
    rw [List.length_set, Array.toList_setIfInBounds, List.take_set, ht]
    simp [bc, List.map_set]
set_option maxHeartbeats 4000000 in
theorem walUsed_any (life n at' : Int) (turn : Nat) (v vp : Value) (l p : List UInt8) (w : World) (hr : Reads w v l) (hp : Reads w vp p) (hl : l.length + 100 ≤ 140737488355328) (ht : turn < 256) :
    Calls Try.prog 4 #[.int .i64 life, .int .i64 n, v, vp, .int .i64 at', .int .u8 (turn : Int)] w fun e w' => e = .returned (.bool true) ∧ Below w.heap.size w w' := by
  have HLe := hidw (lent_any v l w hr (by omega))
  have HR := hidw hr
  have HP := hidw hp
  have HU := hidw (fun (vx : Value) (R : List UInt8) (wx : World) (h : Reads wx vx R) => used_any life n vx R wx h)
  have HQ := hidw (fun (vx : Value) (R : List UInt8) (wx : World) (h : Reads wx vx R) => rused_any life n vx R wx h)
  have HSc := hidw (fun (wx : World) (h : Reads wx vp p) => rsector_any life n vp p wx h)
  have hsL : scE life n p = 0 → (scL life n p).length = 128 := by
    unfold scE scL
    intro h
    split at h
    · cases h
    · rename_i h0
      split at h
      · cases h
      · rename_i h1
        rw [if_neg h0, if_neg h1, scB_len _ _ (by omega)]
  have HsL := hidw hsL
  clear hr hp hsL
  generalize scE life n p = er at *
  generalize scL life n p = T at *
  generalize sp life n = st at *
  obtain ⟨ao, cap, rfl⟩ := HP.out.form
  go_enter Try.func4, Try.ntmps4
  go_wp2_with fail
  refine Calls.mono HLe.out ?_
  rintro e w1 ⟨v1, rfl, hL1, hb1⟩
  have HL1 := hidw hL1
  have HB1 := hidw hb1
  clear hL1 hb1 HLe
  go_wp2_with fail
  refine Calls.mono (HU.out v1 l w1 HL1.out.reads) ?_
  intro e w2 hu2
  obtain ⟨v2, o, R, eo, eR, rfl, ho2, hb2⟩ := hu2.both
  have HEo := hidw eo
  have HER := hidw eR
  have HL2 := hidw (HL1.out.below hb2)
  have HB2 := hidw (HB1.out.trans (hb2.mono HB1.out.size))
  have HO2 := hidw ho2
  clear ho2 hb2 eo eR hu2 HL1 HB1
  go_wp2_with fail
  refine Calls.mono (HQ.out v l w2 (HR.out.below HB2.out)) ?_
  intro e w3 hu3
  obtain ⟨v3, rfl, ho3, hb3⟩ := hu3
  rw [HEo.out]
  rw [HER.out] at ho3
  have HL3 := hidw (HL2.out.below hb3)
  have HB3 := hidw (HB2.out.trans (hb3.mono HB2.out.size))
  have t2 := text_run (HO2.out.reads.below hb3)
  have t3 := text_run ho3.reads
  have HK := hidw (kept_any v1 v l w3 HL3.out (HR.out.below HB3.out) (by omega))
  clear ho3 hb3 HEo HER HO2 HL2 HB2
  go_wp2_with fail
  refine Calls.mono HK.out ?_
  rintro e w4 ⟨rfl, rfl⟩
  clear t2 t3 HK HL3
  go_wp2_with fail
  refine Calls.mono (HSc.out w4 (HP.out.below HB3.out)) ?_
  rintro e w5 ⟨v5, rfl, ho5, hb5⟩
  have HB5 := hidw (HB3.out.trans (hb5.mono HB3.out.size))
  have hz5 := HB3.out.size
  by_cases he : er = 0
  case neg =>
    have hI : (er == 0) = false := by simp [he]
    clear ho5 hb5
    go_wp2
    go_ret
    exact ⟨rfl, HB5.out⟩
  subst he
  have h128 := HsL.out rfl
  obtain ⟨g, c5, hv5, hc5, hm5, hcell5⟩ := ho5.form (by omega)
  rw [h128] at hv5 hc5
  subst hv5
  have HO5 := hidw ho5
  have H128 := hidw h128
  clear ho5 hb5 HB3 HSc HP hc5 hm5
  obtain ⟨r, hr⟩ : ∃ r, at'.tmod 128 = r := ⟨_, rfl⟩
  have hr1 : -128 < r := by rw [← hr]; have := Int.lt_tmod_of_pos at' (show (0 : Int) < 128 by omega); omega
  have hr2 : r < 128 := by rw [← hr]; exact Int.tmod_lt_of_pos at' (by omega)
  obtain ⟨kk, hkk, hlt⟩ : ∃ kk : Nat, (if r < 0 then r + 128 else r) = (kk : Int) ∧ kk < 128 := by
    by_cases h : r < 0
    · rw [if_pos h]; exact ⟨(r + 128).toNat, by omega, by omega⟩
    · rw [if_neg h]; exact ⟨r.toNat, by omega, by omega⟩
  have ck := hcell5 kk (by omega)
  have fk : w5.frozen? ⟨g, kk, none⟩ = false := owns_frozen HO5.out kk
  obtain ⟨c, hc⟩ : ∃ c : UInt8, bits .xor .u8 ((T[kk]'(by omega)).toNat : Int) (turn : Int) = (c.toNat : Int) := by
    have hu := UInt8.toNat_lt (T[kk]'(by omega))
    refine ⟨UInt8.ofNat ((T[kk]'(by omega)).toNat ^^^ turn), ?_⟩
    rw [u8_xor_nat _ _ (by omega) (by omega), UInt8.toNat_ofNat']
    have : (T[kk]'(by omega)).toNat ^^^ turn < 2 ^ 8 := Nat.xor_lt_two_pow (by omega) (by omega)
    omega
  generalize (T[kk]'(by omega)).toNat = tk at *
  obtain ⟨W, hW⟩ : ∃ W, w5.setCell ⟨g, kk, none⟩ (.int .u8 (c.toNat : Int)) = W := ⟨_, rfl⟩
  have HO6 := hidw (show Owns W w4.heap.size (.slice (some ⟨g, 0, none⟩) 128 c5) (T.set kk c) by rw [← hW]; exact owns_set HO5.out kk c)
  have HB6 := hidw (show Below w.heap.size w W by
    rw [← hW]
    exact HB5.out.setCell (p := ⟨g, kk, none⟩) (Nat.le_trans hz5 (HO5.out.block_ge g rfl)) _)
  clear hcell5 HO5 HB5
  have HRW := hidw HO6.out.reads
  generalize T.set kk c = T2 at *
  have hkI : (kk : Int) < 128 := by omega
  by_cases hneg : r < 0
  · rw [if_pos hneg] at hkk
    go_wp2_with fail
    refine Calls.mono (HU.out _ T2 W HRW.out) ?_
    intro e w7 hu7
    obtain ⟨v7, o, R, eo, eR, rfl, ho7, hb7⟩ := hu7.both
    have HEo := hidw eo
    have HER := hidw eR
    have HB7 := hidw (HB6.out.trans (hb7.mono HB6.out.size))
    have HO7 := hidw ho7
    have HR7 := hidw (HRW.out.below hb7)
    clear ho7 hb7 eo eR hu7 ck fk hc hW
    go_wp2_with fail
    refine Calls.mono (HQ.out _ T2 w7 HR7.out) ?_
    intro e w8 hu8
    obtain ⟨v8, rfl, ho8, hb8⟩ := hu8
    rw [HEo.out]
    rw [HER.out] at ho8
    have HB8 := hidw (HB7.out.trans (hb8.mono HB7.out.size))
    have t7 := text_run (HO7.out.reads.below hb8)
    have t8 := text_run ho8.reads
    clear ho8 hb8 HEo HER HO7 HR7 HB7
    go_wp2
    go_ret
    exact ⟨rfl, HB8.out⟩
  · rw [if_neg hneg] at hkk
    go_wp2_with fail
    refine Calls.mono (HU.out _ T2 W HRW.out) ?_
    intro e w7 hu7
    obtain ⟨v7, o, R, eo, eR, rfl, ho7, hb7⟩ := hu7.both
    have HEo := hidw eo
    have HER := hidw eR
    have HB7 := hidw (HB6.out.trans (hb7.mono HB6.out.size))
    have HO7 := hidw ho7
    have HR7 := hidw (HRW.out.below hb7)
    clear ho7 hb7 eo eR hu7 ck fk hc hW
    go_wp2_with fail
    refine Calls.mono (HQ.out _ T2 w7 HR7.out) ?_
    intro e w8 hu8
    obtain ⟨v8, rfl, ho8, hb8⟩ := hu8
    rw [HEo.out]
    rw [HER.out] at ho8
    have HB8 := hidw (HB7.out.trans (hb8.mono HB7.out.size))
    have t7 := text_run (HO7.out.reads.below hb8)
    have t8 := text_run ho8.reads
    clear ho8 hb8 HEo HER HO7 HR7 HB7
    go_wp2
    go_ret
    exact ⟨rfl, HB8.out⟩
end Go.Proofs.Ytghkfhbjfmdnmaa
