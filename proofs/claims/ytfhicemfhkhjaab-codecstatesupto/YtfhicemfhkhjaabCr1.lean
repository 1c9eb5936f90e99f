/-
  codec's reader: rest, step, whole, text, count.
-/
import Derived.Test.YtfhicemfhkhjaabCw4
namespace Go.Proofs.Ytfhicemfhkhjaab
open Go.RowKit
set_option maxRecDepth 100000

/-- a reader in block rb: the bytes l, of which the first i are read -/
structure RD (w : World) (rb b off cap : Nat) (l : List UInt8) (i most : Nat) : Prop where
  top : w.heap[rb]? = some (.cells #[.slice (some ⟨b, off, none⟩) l.length cap, .int .i64 (i : Int), .int .i64 (most : Int)] 148 (0, 0))
  room : l.length ≤ cap
  at' : i ≤ l.length
  ne : b ≠ rb
  bytes : ∀ j (hj : j < l.length), w.cell? ⟨b, off + j, none⟩ = some (.int .u8 (l[j].toNat : Int))
theorem RD.facts {w : World} {rb b off cap i most : Nat} {l : List UInt8} (h : RD w rb b off cap l i most) : w.cell? ⟨rb, 0, none⟩ = some (.slice (some ⟨b, off, none⟩) l.length cap) ∧ w.cell? ⟨rb, 1, none⟩ = some (.int .i64 (i : Int)) ∧ w.cell? ⟨rb, 2, none⟩ = some (.int .i64 (most : Int)) ∧ w.frozen? ⟨rb, 1, none⟩ = false :=
  ⟨by rw [Lib.cell_of_heap h.top]; rfl, by rw [Lib.cell_of_heap h.top]; rfl, by rw [Lib.cell_of_heap h.top]; rfl, Lib.frozen_of_heap h.top 1⟩
theorem drop_reads {w : World} {b off cap : Nat} {l : List UInt8} {i : Nat} (hi : i ≤ l.length) (hc : l.length ≤ cap) (hb : ∀ j (hj : j < l.length), w.cell? ⟨b, off + j, none⟩ = some (.int .u8 (l[j].toNat : Int))) : Reads w (.slice (if cap = i then some ⟨b, off, none⟩ else some ⟨b, off + i, none⟩) (l.length - i) (cap - i)) (l.drop i) := by
  have hl : (l.drop i).length = l.length - i := List.length_drop
  by_cases h0 : i = l.length
  · left
    subst h0
    refine ⟨by simp, (if cap = l.length then some ⟨b, off, none⟩ else some ⟨b, off + l.length, none⟩), cap - l.length, by rw [Nat.sub_self], fun e => by split at e <;> cases e⟩
  · right
    refine ⟨b, off + i, cap - i, by rw [if_neg (by omega), hl], by omega, fun j hj => ?_⟩
    have hj' : j < l.length - i := by rw [← hl]; exact hj
    rw [List.getElem_drop, show off + i + j = off + (i + j) by omega]
    exact hb (i + j) (by omega)
/-- what is left to be read, as a value -/
def rv (b off cap n i : Nat) : Value := .slice (if cap = i then some ⟨b, off, none⟩ else some ⟨b, off + i, none⟩) (n - i) (cap - i)
set_option maxHeartbeats 400000 in
theorem rest_val (w : World) {rb b off cap i most : Nat} {l : List UInt8} (h : RD w rb b off cap l i most) :
    Calls Try.prog 126 #[.pointer (some ⟨rb, 0, none⟩)] w fun e w' => e = .returned (rv b off cap l.length i) ∧ ∃ q, w' = w.drewN q := by
  obtain ⟨c0, c1, c2, f1⟩ := h.facts
  have h1 : (i : Int) ≤ (l.length : Int) := by have := h.at'; omega
  have h2 : (l.length : Int) ≤ (cap : Int) := by have := h.room; omega
  have h3 := h.at'
  have h4 := h.room
  clear h
  unfold rv
  go_enter Try.func126, Try.ntmps126
  by_cases hci : cap = i
  · rw [if_pos hci]
    subst hci
    rw [show l.length - cap = 0 by omega, Nat.sub_self]
    go_wp2
    go_quiet (fail)
    go_wp2
    go_ret
    exact ⟨rfl, _, rfl⟩
  · rw [if_neg hci]
    go_wp2
    go_quiet (fail)
    go_wp2
    go_ret
    exact ⟨rfl, _, rfl⟩
set_option maxHeartbeats 400000 in
theorem rest_any (w : World) {rb b off cap i most : Nat} {l : List UInt8} (h : RD w rb b off cap l i most) :
    Calls Try.prog 126 #[.pointer (some ⟨rb, 0, none⟩)] w fun e w' => (∃ v, e = .returned v ∧ Reads w' v (l.drop i)) ∧ ∃ q, w' = w.drewN q := by
  obtain ⟨c0, c1, c2, f1⟩ := h.facts
  have HD := hid (fun q => drop_reads (w := w.drewN q) h.at' h.room h.bytes)
  have h1 : (i : Int) ≤ (l.length : Int) := by have := h.at'; omega
  have h2 : (l.length : Int) ≤ (cap : Int) := by have := h.room; omega
  have h3 := h.at'
  have h4 := h.room
  clear h
  go_enter Try.func126, Try.ntmps126
  by_cases hci : cap = i
  · rw [if_pos hci] at HD
    subst hci
    go_wp2
    go_quiet (fail)
    go_wp2
    go_ret
    refine ⟨⟨_, rfl, ?_⟩, _, rfl⟩
    have := HD.out nq
    rw [show l.length - cap = 0 by omega, Nat.sub_self] at this
    exact this
  · rw [if_neg hci] at HD
    go_wp2
    go_quiet (fail)
    go_wp2
    go_ret
    refine ⟨⟨_, rfl, ?_⟩, _, rfl⟩
    exact HD.out nq
set_option maxHeartbeats 400000 in
theorem step_ok (k : Nat) (w : World) {rb b off cap i most : Nat} {l : List UInt8} (h : RD w rb b off cap l i most) (hk : k ≤ 1000000000000000) (hl : l.length ≤ 1000000000000000) :
    Calls Try.prog 127 #[.pointer (some ⟨rb, 0, none⟩), .int .i64 (k : Int), .int .i64 0] w fun e w' => e = .returned (.tuple #[]) ∧ w' = w.setCell ⟨rb, 1, none⟩ (.int .i64 ((i + k : Nat) : Int)) := by
  obtain ⟨c0, c1, c2, f1⟩ := h.facts
  have h3 := h.at'
  have e : ((i + k : Nat) : Int) = (i : Int) + (k : Int) := by omega
  rw [e]
  clear h e
  go_enter Try.func127, Try.ntmps127
  go_wp2
  go_end0
  exact ⟨rfl, rfl⟩
set_option maxHeartbeats 400000 in
theorem step_no (k : Nat) (er : Nat) (w : World) {rb b off cap i most : Nat} {l : List UInt8} (h : RD w rb b off cap l i most) (hk : k ≤ 1000000000000000) (hl : l.length ≤ 1000000000000000) (he : er ≠ 0) :
    Calls Try.prog 127 #[.pointer (some ⟨rb, 0, none⟩), .int .i64 (k : Int), .int .i64 (er : Int)] w fun e w' => e = flt (er : Int) ((i + k : Nat) : Int) ∧ w' = w := by
  obtain ⟨c0, c1, c2, f1⟩ := h.facts
  have h3 := h.at'
  have e : ((i + k : Nat) : Int) = (i : Int) + (k : Int) := by omega
  have hb : ((er : Int) == 0) = false := by simp; omega
  rw [e]
  clear h e
  go_enter Try.func127, Try.ntmps127
  go_wp2
  exact ⟨rfl, rfl, rfl⟩
theorem RD.drewN {w : World} {rb b off cap i most : Nat} {l : List UInt8} (h : RD w rb b off cap l i most) (q : Nat) : RD (w.drewN q) rb b off cap l i most := ⟨h.top, h.room, h.at', h.ne, h.bytes⟩
/-- what is behind a field that is read: err and took as told; a fault, or the place goes on and u lies at p -/
def Rp (rb i err took : Nat) (p : Addr) (u : Value) (r : Ending) (w : World) (e : Ending) (w' : World) : Prop :=
  ∃ q, (err = 0 ∧ e = r ∧ w' = ((w.drewN q).setCell ⟨rb, 1, none⟩ (.int .i64 ((i + took : Nat) : Int))).setCell p u) ∨ (err ≠ 0 ∧ e = flt (err : Int) ((i + took : Nat) : Int) ∧ w' = w.drewN q)
set_option maxHeartbeats 800000 in
theorem dwhole_any (p : Addr) (x : Int) (w : World) {rb b off cap i most : Nat} {l : List UInt8} (h : RD w rb b off cap l i most) (hcp : l.length ≤ 100000000000000) (hp : w.cell? p = some (.int .i64 x)) (hf : w.frozen? p = false) (hpb : p.block ≠ rb) :
    Calls Try.prog 124 #[.pointer (some ⟨rb, 0, none⟩), .pointer (some p)] w fun e w' => Rp rb i (rd (l.drop i) 0 0).2.2 (rd (l.drop i) 0 0).2.1 p (.int .i64 (unfI (rd (l.drop i) 0 0).1)) (.returned (.tuple #[])) w e w' := by
  have HRe := hid (rest_any w h)
  have hroom := h.room
  have hle := rd_le (l.drop i) 0 0
  have hdl : (l.drop i).length ≤ l.length := by rw [List.length_drop]; omega
  have HIn0 := hid (fun v q hr => int_any v (l.drop i) (w.drewN q) hr (by omega))
  unfold intV at HIn0
  generalize rd (l.drop i) 0 0 = R at *
  obtain ⟨n0, t, er⟩ := R
  simp only at *
  generalize unfI n0 = n at *
  have H := hid h
  have HP := hid hp
  have HFr := hid hf
  clear h hp hf
  go_enter Try.func124, Try.ntmps124
  go_wp2_with fail
  refine Calls.mono HRe.out ?_
  rintro e w1 ⟨⟨v1, rfl, hr1⟩, q1, rfl⟩
  have HIn := hid (HIn0.out v1 q1 hr1)
  clear hr1 HRe HIn0
  by_cases he : er = 0
  · subst he
    have HSt := hid (step_ok t (w.drewN q1) (H.out.drewN q1) (by omega) (by omega))
    go_wp2_with fail
    refine Calls.mono HIn.out ?_
    rintro e w2 ⟨rfl, rfl⟩
    clear HIn
    go_wp2_with fail
    refine Calls.mono HSt.out ?_
    rintro e w3 ⟨rfl, rfl⟩
    clear HSt
    obtain ⟨W, hW⟩ : ∃ W, (w.drewN q1).setCell ⟨rb, 1, none⟩ (.int .i64 ((i + t : Nat) : Int)) = W := ⟨_, rfl⟩
    have hp : W.cell? p = some (.int .i64 x) := by
      rw [← hW, World.cell?_setCell_other _ _ _ _ (fun e => hpb (by rw [← e]))]
      exact HP.out
    have hf : W.frozen? p = false := by rw [← hW]; simpa using HFr.out
    have HW := hid hW
    rw [hW]
    clear hW
    go_wp2_with fail
    go_end0
    exact ⟨q1, .inl ⟨rfl, rfl, by rw [HW.out]⟩⟩
  · have HSt := hid (step_no t er (w.drewN q1) (H.out.drewN q1) (by omega) (by omega) he)
    have HE := hid he
    clear he
    go_wp2_with fail
    refine Calls.mono HIn.out ?_
    rintro e w2 ⟨rfl, rfl⟩
    clear HIn
    go_wp2_with fail
    refine Calls.mono HSt.out ?_
    rintro e w3 ⟨rfl, rfl⟩
    go_wp2_with fail
    exact ⟨rfl, q1, .inr ⟨HE.out, rfl, rfl⟩⟩
/-- a text that is read: its bytes, how many were taken, the error -/
def tx (d : List UInt8) (most : Nat) : List UInt8 × Nat × Nat :=
  if (rd d 0 0).2.2 ≠ 0 then ([], (rd d 0 0).2.1, (rd d 0 0).2.2)
  else if most < (rd d 0 0).1 then ([], 0, 12)
  else if d.length - (rd d 0 0).2.1 < (rd d 0 0).1 then ([], d.length, 3)
  else ((d.drop (rd d 0 0).2.1).take (rd d 0 0).1, (rd d 0 0).2.1 + (rd d 0 0).1, 0)
theorem txV_tx (d : List UInt8) (most : Nat) : txV d (most : Int) = .tuple #[.string ⟨(tx d most).1.toArray⟩, .int .i64 ((tx d most).2.1 : Int), .int .i64 ((tx d most).2.2 : Int)] := by
  unfold txV tx
  rw [if_neg (by omega)]
  by_cases h1 : (rd d 0 0).2.2 ≠ 0
  · rw [if_pos h1, if_pos h1]
  · rw [if_neg h1, if_neg h1]
    by_cases h2 : most < (rd d 0 0).1
    · rw [if_pos (show (most : Int) < ((rd d 0 0).1 : Nat) by omega), if_pos h2]; rfl
    · rw [if_neg (show ¬ (most : Int) < ((rd d 0 0).1 : Nat) by omega), if_neg h2]
      by_cases h3 : d.length - (rd d 0 0).2.1 < (rd d 0 0).1
      · rw [if_pos h3, if_pos h3]; rfl
      · rw [if_neg h3, if_neg h3]; rfl
theorem tx_le (d : List UInt8) (most : Nat) : (tx d most).2.1 ≤ d.length := by
  have := rd_le d 0 0
  unfold tx
  split
  · show (rd d 0 0).2.1 ≤ _; omega
  · split
    · exact Nat.zero_le _
    · split
      · exact Nat.le_refl _
      · show (rd d 0 0).2.1 + (rd d 0 0).1 ≤ _; omega
set_option maxHeartbeats 800000 in
theorem dtext_any (p : Addr) (x : ByteArray) (w : World) {rb b off cap i most : Nat} {l : List UInt8} (h : RD w rb b off cap l i most) (hcp : l.length ≤ 100000000000000) (hm : most ≤ 1000000000) (hp : w.cell? p = some (.string x)) (hf : w.frozen? p = false) (hpb : p.block ≠ rb) :
    Calls Try.prog 123 #[.pointer (some ⟨rb, 0, none⟩), .pointer (some p)] w fun e w' => Rp rb i (tx (l.drop i) most).2.2 (tx (l.drop i) most).2.1 p (.string ⟨(tx (l.drop i) most).1.toArray⟩) (.returned (.tuple #[])) w e w' := by
  have HRe := hid (fun q => rest_val (w.drewN q) (h.drewN q))
  have hroom := h.room
  have hle := tx_le (l.drop i) most
  have hdl : (l.drop i).length ≤ l.length := by rw [List.length_drop]; omega
  have HTx0 := hid (fun q => text_any (rv b off cap l.length i) (l.drop i) (most : Int) (w.drewN q) (drop_reads (w := w.drewN q) h.at' h.room h.bytes) (by omega) (by omega) (by omega))
  rw [txV_tx] at HTx0
  generalize tx (l.drop i) most = R at *
  obtain ⟨s, t, er⟩ := R
  simp only at *
  obtain ⟨c0, c1, c2, f1⟩ := h.facts
  have H := hid h
  have HP := hid hp
  have HFr := hid hf
  generalize rv b off cap l.length i = vr at *
  clear h hp hf c0 c1 f1
  go_enter Try.func123, Try.ntmps123
  go_wp2_with fail
  go_quiet (first
    | (go_at_call 126; exact Calls.quiet_of ((HRe.out _).mono fun e w' hh => hh))
    | (go_at_call 128; exact Calls.quiet_of_same (HTx0.out _)))
  by_cases he : er = 0
  · subst he
    have HSt := hid (step_ok t (w.drewN nq) (H.out.drewN nq) (by omega) (by omega))
    clear HRe HTx0 c2
    go_wp2_with fail
    refine Calls.mono HSt.out ?_
    rintro e w3 ⟨rfl, rfl⟩
    clear HSt
    obtain ⟨W, hW⟩ : ∃ W, (w.drewN nq).setCell ⟨rb, 1, none⟩ (.int .i64 ((i + t : Nat) : Int)) = W := ⟨_, rfl⟩
    have hp : W.cell? p = some (.string x) := by
      rw [← hW, World.cell?_setCell_other _ _ _ _ (fun e => hpb (by rw [← e]))]
      exact HP.out
    have hf : W.frozen? p = false := by rw [← hW]; simpa using HFr.out
    have HW := hid hW
    rw [hW]
    clear hW
    go_wp2_with fail
    go_end0
    exact ⟨nq, .inl ⟨rfl, rfl, by rw [HW.out]⟩⟩
  · have HSt := hid (step_no t er (w.drewN nq) (H.out.drewN nq) (by omega) (by omega) he)
    have HE := hid he
    clear he HRe HTx0 c2
    go_wp2_with fail
    refine Calls.mono HSt.out ?_
    rintro e w3 ⟨rfl, rfl⟩
    go_wp2_with fail
    exact ⟨rfl, nq, .inr ⟨HE.out, rfl, rfl⟩⟩
/-- what is behind a list's number -/
def Rc (rb i err took : Nat) (u : Value) (w : World) (e : Ending) (w' : World) : Prop :=
  ∃ q, (err = 0 ∧ e = .returned u ∧ w' = (w.drewN q).setCell ⟨rb, 1, none⟩ (.int .i64 ((i + took : Nat) : Int))) ∨ (err ≠ 0 ∧ e = flt (err : Int) ((i + took : Nat) : Int) ∧ w' = w.drewN q)
/-- a list's number that is read -/
def ct (d : List UInt8) (most : Nat) : Nat × Nat × Nat := if most < (rd d 0 0).1 then ((rd d 0 0).1, 0, 91) else rd d 0 0
theorem ct_le (d : List UInt8) (most : Nat) : (ct d most).2.1 ≤ d.length := by
  have := rd_le d 0 0
  unfold ct
  split
  · exact Nat.zero_le _
  · omega
set_option maxHeartbeats 800000 in
theorem dcount_any (x : Int) (w : World) {rb b off cap i most : Nat} {l : List UInt8} (h : RD w rb b off cap l i most) (hcp : l.length ≤ 100000000000000) (hm : most ≤ 1000000000) :
    Calls Try.prog 121 #[.pointer (some ⟨rb, 0, none⟩), .int .i64 x] w fun e w' => Rc rb i (ct (l.drop i) most).2.2 (ct (l.drop i) most).2.1 (.int .i64 ((ct (l.drop i) most).1 : Int)) w e w' := by
  have HRe := hid (rest_val w h)
  have hroom := h.room
  have hle := rd_le (l.drop i) 0 0
  have hlt := rd_lt (l.drop i) 0 0 (by omega) Nat.one_pos
  have hdl : (l.drop i).length ≤ l.length := by rw [List.length_drop]; omega
  have HU := hid (fun q => uint_any (rv b off cap l.length i) (l.drop i) (w.drewN q) (drop_reads (w := w.drewN q) h.at' h.room h.bytes) (by omega))
  unfold rdV at HU
  unfold ct
  generalize rd (l.drop i) 0 0 = R at *
  obtain ⟨n, t, er⟩ := R
  simp only at *
  obtain ⟨c0, c1, c2, f1⟩ := h.facts
  have H := hid h
  generalize rv b off cap l.length i = vr at *
  clear h c0 c1 f1
  by_cases hn : most < n
  · simp only [if_pos hn]
    have hI : (most : Int) < (n : Int) := by omega
    go_enter Try.func121, Try.ntmps121
    go_wp2_with fail
    refine Calls.mono HRe.out ?_
    rintro e w1 ⟨rfl, q, rfl⟩
    have HU1 := hid (HU.out q)
    have HSt := hid (step_no 0 91 (w.drewN q) (H.out.drewN q) (by omega) (by omega) (by omega))
    clear HU HRe
    go_wp2_with fail
    refine Calls.mono HU1.out ?_
    rintro e w2 ⟨rfl, rfl⟩
    clear HU1
    go_wp2_with fail
    refine Calls.mono HSt.out ?_
    rintro e w3 ⟨rfl, rfl⟩
    go_wp2_with fail
    exact ⟨rfl, q, .inr ⟨by omega, rfl, rfl⟩⟩
  · simp only [if_neg hn]
    have hI : ¬ (most : Int) < (n : Int) := by omega
    go_enter Try.func121, Try.ntmps121
    go_wp2_with fail
    refine Calls.mono HRe.out ?_
    rintro e w1 ⟨rfl, q, rfl⟩
    have HU1 := hid (HU.out q)
    clear HU HRe
    by_cases he : er = 0
    · subst he
      have HSt := hid (step_ok t (w.drewN q) (H.out.drewN q) (by omega) (by omega))
      go_wp2_with fail
      refine Calls.mono HU1.out ?_
      rintro e w2 ⟨rfl, rfl⟩
      clear HU1
      go_wp2_with fail
      refine Calls.mono HSt.out ?_
      rintro e w3 ⟨rfl, rfl⟩
      clear HSt
      go_wp2_with fail
      go_ret
      exact ⟨q, .inl ⟨rfl, rfl, rfl⟩⟩
    · have HSt := hid (step_no t er (w.drewN q) (H.out.drewN q) (by omega) (by omega) he)
      have HE := hid he
      clear he
      go_wp2_with fail
      refine Calls.mono HU1.out ?_
      rintro e w2 ⟨rfl, rfl⟩
      clear HU1
      go_wp2_with fail
      refine Calls.mono HSt.out ?_
      rintro e w3 ⟨rfl, rfl⟩
      go_wp2_with fail
      exact ⟨rfl, q, .inr ⟨HE.out, rfl, rfl⟩⟩
set_option maxHeartbeats 400000 in
theorem dend_any (w : World) {rb b off cap i most : Nat} {l : List UInt8} (h : RD w rb b off cap l i most) :
    Calls Try.prog 42 #[.pointer (some ⟨rb, 0, none⟩)] w fun e w' => ∃ q, ((i = l.length ∧ e = .returned (.tuple #[])) ∨ (i < l.length ∧ e = flt 4 (i : Int))) ∧ w' = w.drewN q := by
  obtain ⟨c0, c1, c2, f1⟩ := h.facts
  have h3 := h.at'
  have h4 := h.room
  clear h c2 f1
  go_enter Try.func42, Try.ntmps42
  by_cases he : i < l.length
  · have hI : (i : Int) < (l.length : Int) := by omega
    go_wp2
    go_quiet (fail)
    go_wp2
    exact ⟨rfl, nq, .inr ⟨he, rfl⟩, rfl⟩
  · have hI : ¬ (i : Int) < (l.length : Int) := by omega
    go_wp2
    go_quiet (fail)
    go_wp2
    go_end0
    exact ⟨nq, .inl ⟨by omega, rfl⟩, rfl⟩
end Go.Proofs.Ytfhicemfhkhjaab
