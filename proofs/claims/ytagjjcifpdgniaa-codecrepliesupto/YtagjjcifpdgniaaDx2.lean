/-
  codec, the document's reader: text, many.
-/
import Derived.Test.YtagjjcifpdgniaaDx1
namespace Go.Proofs.Ytagjjcifpdgniaa
open Go.RowKit
set_option maxRecDepth 100000

set_option maxHeartbeats 1000000 in
theorem xtext_go (w : World) {rb b off cap i most : Nat} {l : List UInt8} (h : RX w rb (bv b off cap l.length) i most 0 0) (hx : XB w rb b off cap l) (hi : i ≤ l.length) (hm : most ≤ 1000000000) :
    Calls Try.prog 63 #[.pointer (some ⟨rb, 0, none⟩)] w fun e w' => Xp rb i (tx (l.drop i) most).2.2 (tx (l.drop i) most).2.1 (.string ⟨(tx (l.drop i) most).1.toArray⟩) (.string ⟨#[]⟩) w e w' := by
  obtain ⟨c0, c1, c2, c3, c4⟩ := h.c
  have hle := tx_le (l.drop i) most
  have hdl : (l.drop i).length ≤ l.length := by rw [List.length_drop]; omega
  have hfw := hx.few
  have HIn0 := hid (fun q => refText_any (rv b off cap l.length i) (l.drop i) (most : Int) (w.drewN q) (drop_reads (w := w.drewN q) hi hx.room hx.bytes) (by omega) (by omega) (by omega))
  rw [txV_tx] at HIn0
  generalize tx (l.drop i) most = R at *
  obtain ⟨n0, t, er⟩ := R
  simp only at *
  have H := hid h
  have h1 : (i : Int) ≤ (l.length : Int) := by omega
  have h2 : (l.length : Int) ≤ (cap : Int) := by have := hx.room; omega
  have h4 := hx.room
  have ht : t ≤ 100000000000000 := by omega
  have hi2 : i ≤ 100000000000000 := by omega
  have hsum := wrap_sum i t
  unfold rv at HIn0
  clear h c4 hdl hle hfw
  unfold bv at c0
  go_enter Try.func63, Try.ntmps63
  by_cases hci : cap = i
  · rw [if_pos hci] at HIn0
    subst hci
    rw [show l.length - cap = 0 by omega, Nat.sub_self] at HIn0
    go_wp2_with fail
    go_quiet (first | (go_at_call 84; exact Calls.quiet_of_same (HIn0.out _)))
    by_cases he : er = 0
    · subst he
      have c1' : (w.drewN nq).cell? ⟨rb, 1, none⟩ = some (.int .i64 (cap : Int)) := c1
      have f1 : (w.drewN nq).frozen? ⟨rb, 1, none⟩ = false := H.out.f 1
      clear c1 HIn0
      go_wp2_with fail
      go_ret
      exact ⟨nq, .inl ⟨rfl, rfl, by rw [hsum]⟩⟩
    · have hb : ((er : Int) == 0) = false := by simp; omega
      have HE := hid he
      have HF := hid (fail_new er (cap + t) (w.drewN nq) (H.out.drewN nq))
      rw [hsum] at HF
      have c1' : (w.drewN nq).cell? ⟨rb, 1, none⟩ = some (.int .i64 (cap : Int)) := c1
      clear c1 HIn0 he
      go_wp2_with fail
      refine Calls.mono HF.out ?_
      rintro e w3 ⟨rfl, rfl⟩
      go_wp2_with fail
      go_ret
      exact ⟨nq, .inr ⟨HE.out, rfl, by rw [hsum]⟩⟩
  · rw [if_neg hci] at HIn0
    go_wp2_with fail
    go_quiet (first | (go_at_call 84; exact Calls.quiet_of_same (HIn0.out _)))
    by_cases he : er = 0
    · subst he
      have c1' : (w.drewN nq).cell? ⟨rb, 1, none⟩ = some (.int .i64 (i : Int)) := c1
      have f1 : (w.drewN nq).frozen? ⟨rb, 1, none⟩ = false := H.out.f 1
      clear c1 HIn0
      go_wp2_with fail
      go_ret
      exact ⟨nq, .inl ⟨rfl, rfl, by rw [hsum]⟩⟩
    · have hb : ((er : Int) == 0) = false := by simp; omega
      have HE := hid he
      have HF := hid (fail_new er (i + t) (w.drewN nq) (H.out.drewN nq))
      rw [hsum] at HF
      have c1' : (w.drewN nq).cell? ⟨rb, 1, none⟩ = some (.int .i64 (i : Int)) := c1
      clear c1 HIn0 he
      go_wp2_with fail
      refine Calls.mono HF.out ?_
      rintro e w3 ⟨rfl, rfl⟩
      go_wp2_with fail
      go_ret
      exact ⟨nq, .inr ⟨HE.out, rfl, by rw [hsum]⟩⟩
set_option maxHeartbeats 1000000 in
theorem xmany_go (w : World) {rb b off cap i most : Nat} {l : List UInt8} (h : RX w rb (bv b off cap l.length) i most 0 0) (hx : XB w rb b off cap l) (hi : i ≤ l.length) (hm : most ≤ 1000000000) :
    Calls Try.prog 86 #[.pointer (some ⟨rb, 0, none⟩)] w fun e w' => Xp rb i (ct (l.drop i) most).2.2 (ct (l.drop i) most).2.1 (.int .i64 ((ct (l.drop i) most).1 : Int)) (.int .i64 0) w e w' := by
  obtain ⟨c0, c1, c2, c3, c4⟩ := h.c
  have hle := rd_le (l.drop i) 0 0
  have hdl : (l.drop i).length ≤ l.length := by rw [List.length_drop]; omega
  have hfw := hx.few
  have HIn0 := hid (fun q => refUint_any (rv b off cap l.length i) (l.drop i) (w.drewN q) (drop_reads (w := w.drewN q) hi hx.room hx.bytes) (by omega))
  unfold rdV at HIn0
  have hzr := rd_zero (l.drop i) 0 0
  have hc1 : most < (rd (l.drop i) 0 0).1 → ct (l.drop i) most = ((rd (l.drop i) 0 0).1, 0, 91) := fun h => if_pos h
  have hc2 : ¬ most < (rd (l.drop i) 0 0).1 → ct (l.drop i) most = rd (l.drop i) 0 0 := fun h => if_neg h
  generalize ct (l.drop i) most = C at *
  generalize rd (l.drop i) 0 0 = R at *
  obtain ⟨n, t, er⟩ := R
  simp only at *
  have H := hid h
  have h1 : (i : Int) ≤ (l.length : Int) := by omega
  have h2 : (l.length : Int) ≤ (cap : Int) := by have := hx.room; omega
  have h4 := hx.room
  have ht : t ≤ 100000000000000 := by omega
  have hi2 : i ≤ 100000000000000 := by omega
  have hsum := wrap_sum i t
  have HZr := hid hzr
  have HC1 := hid hc1
  have HC2 := hid hc2
  clear hzr hc1 hc2
  unfold rv at HIn0
  clear h c4 hdl hle hfw
  unfold bv at c0
  go_enter Try.func86, Try.ntmps86
  by_cases hci : cap = i
  · rw [if_pos hci] at HIn0
    subst hci
    rw [show l.length - cap = 0 by omega, Nat.sub_self] at HIn0
    go_wp2_with fail
    go_quiet (first | (go_at_call 93; exact Calls.quiet_of_same (HIn0.out _)))
    by_cases he : er = 0
    · subst he
      have c1' : (w.drewN nq).cell? ⟨rb, 1, none⟩ = some (.int .i64 (cap : Int)) := c1
      have c2' : (w.drewN nq).cell? ⟨rb, 2, none⟩ = some (.int .i64 (most : Int)) := c2
      have f1 : (w.drewN nq).frozen? ⟨rb, 1, none⟩ = false := H.out.f 1
      by_cases hn : most < n
      · have HN := hid hn
        have hI : (most : Int) < (n : Int) := by omega
        have HF := hid (fail_new 91 (cap + 0) (w.drewN nq) (H.out.drewN nq))
        rw [Nat.add_zero] at HF
        clear c1 c2 HIn0 hn
        go_wp2_with fail
        refine Calls.mono HF.out ?_
        rintro e w3 ⟨rfl, rfl⟩
        go_wp2_with fail
        go_ret
        rw [HC1.out HN.out]
        exact ⟨nq, .inr ⟨show (91 : Nat) ≠ 0 by omega, rfl, rfl⟩⟩
      · have HN := hid hn
        have hI : ¬ (most : Int) < (n : Int) := by omega
        have hn2 : (n : Int) ≤ 1000000000 := by omega
        clear c1 c2 HIn0 hn
        go_wp2_with fail
        go_ret
        rw [HC2.out HN.out]
        exact ⟨nq, .inl ⟨rfl, rfl, by rw [hsum]⟩⟩
    · have hb : ((er : Int) == 0) = false := by simp; omega
      have HE := hid he
      have hn0 : ¬ most < n := by have := HZr.out he; omega
      have HN := hid hn0
      have HF := hid (fail_new er (cap + t) (w.drewN nq) (H.out.drewN nq))
      rw [hsum] at HF
      have c1' : (w.drewN nq).cell? ⟨rb, 1, none⟩ = some (.int .i64 (cap : Int)) := c1
      clear c1 c2 HIn0 he hn0
      go_wp2_with fail
      refine Calls.mono HF.out ?_
      rintro e w3 ⟨rfl, rfl⟩
      go_wp2_with fail
      go_ret
      rw [HC2.out HN.out]
      exact ⟨nq, .inr ⟨HE.out, rfl, by rw [hsum]⟩⟩
  · rw [if_neg hci] at HIn0
    go_wp2_with fail
    go_quiet (first | (go_at_call 93; exact Calls.quiet_of_same (HIn0.out _)))
    by_cases he : er = 0
    · subst he
      have c1' : (w.drewN nq).cell? ⟨rb, 1, none⟩ = some (.int .i64 (i : Int)) := c1
      have c2' : (w.drewN nq).cell? ⟨rb, 2, none⟩ = some (.int .i64 (most : Int)) := c2
      have f1 : (w.drewN nq).frozen? ⟨rb, 1, none⟩ = false := H.out.f 1
      by_cases hn : most < n
      · have HN := hid hn
        have hI : (most : Int) < (n : Int) := by omega
        have HF := hid (fail_new 91 (i + 0) (w.drewN nq) (H.out.drewN nq))
        rw [Nat.add_zero] at HF
        clear c1 c2 HIn0 hn
        go_wp2_with fail
        refine Calls.mono HF.out ?_
        rintro e w3 ⟨rfl, rfl⟩
        go_wp2_with fail
        go_ret
        rw [HC1.out HN.out]
        exact ⟨nq, .inr ⟨show (91 : Nat) ≠ 0 by omega, rfl, rfl⟩⟩
      · have HN := hid hn
        have hI : ¬ (most : Int) < (n : Int) := by omega
        have hn2 : (n : Int) ≤ 1000000000 := by omega
        clear c1 c2 HIn0 hn
        go_wp2_with fail
        go_ret
        rw [HC2.out HN.out]
        exact ⟨nq, .inl ⟨rfl, rfl, by rw [hsum]⟩⟩
    · have hb : ((er : Int) == 0) = false := by simp; omega
      have HE := hid he
      have hn0 : ¬ most < n := by have := HZr.out he; omega
      have HN := hid hn0
      have HF := hid (fail_new er (i + t) (w.drewN nq) (H.out.drewN nq))
      rw [hsum] at HF
      have c1' : (w.drewN nq).cell? ⟨rb, 1, none⟩ = some (.int .i64 (i : Int)) := c1
      clear c1 c2 HIn0 he hn0
      go_wp2_with fail
      refine Calls.mono HF.out ?_
      rintro e w3 ⟨rfl, rfl⟩
      go_wp2_with fail
      go_ret
      rw [HC2.out HN.out]
      exact ⟨nq, .inr ⟨HE.out, rfl, by rw [hsum]⟩⟩
end Go.Proofs.Ytagjjcifpdgniaa
