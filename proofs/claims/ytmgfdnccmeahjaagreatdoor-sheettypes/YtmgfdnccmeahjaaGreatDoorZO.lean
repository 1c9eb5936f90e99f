/-
  Tc3: Sheets: findColumns. Laid by mktc3.py.
  Td6: Sheets, the document: heads. Laid by mktd6.py.
  Ty9: Sheets: the program's typedCell and the document's typed tell one thing; the columns' places are one.
  Ta0: Sheets: what is told of a text in a column; lists of places, of cells.
-/
import Derived.Test.YtmgfdnccmeahjaaGreatDoorZTc2
import Derived.Test.YtmgfdnccmeahjaaGreatDoorZL
import Derived.Test.YtmgfdnccmeahjaaGreatDoorZTy8
import Derived.Test.YtmgfdnccmeahjaaGreatDoorZK
namespace Go.Proofs.YtmgfdnccmeahjaaGreatDoor
open Go.RowKit
set_option maxRecDepth 100000
set_option linter.unusedVariables false
set_option linter.unusedSimpArgs false

/-- a slice reads as these texts, whatever lies behind -/
def Bx (w : World) (v : Value) (L : List ByteArray) : Prop :=
  ∃ ao cap, v = .slice ao L.length cap ∧ L.length ≤ cap ∧ cap ≤ 9223372036854775807 ∧ ∀ j (hj : j < L.length), ∃ b off, ao = some ⟨b, off, none⟩ ∧ w.cell? ⟨b, off + j, none⟩ = some (.string L[j])
theorem Bx.below {w w' : World} {v : Value} {L : List ByteArray} (h : Bx w v L) (hb : Below w.heap.size w w') : Bx w' v L := by
  obtain ⟨ao, cap, h1, h2, h3, h4⟩ := h
  exact ⟨ao, cap, h1, h2, h3, fun j hj => by
    obtain ⟨b, off, h5, h6⟩ := h4 j hj
    exact ⟨b, off, h5, cellB hb h6⟩⟩
theorem Bx.form {w : World} {v : Value} {L : List ByteArray} (h : Bx w v L) : ∃ ao cap, v = .slice ao L.length cap := by
  obtain ⟨ao, cap, h1, _⟩ := h
  exact ⟨ao, cap, h1⟩
theorem Bx.len {w : World} {v : Value} {L : List ByteArray} (h : Bx w v L) : L.length ≤ 9223372036854775807 := by
  obtain ⟨ao, cap, h1, h2, h3, _⟩ := h
  omega
theorem Bx.at {w : World} {v : Value} {L : List ByteArray} (h : Bx w v L) (j : Nat) (hj : j < L.length) : ∃ b off cap, v = .slice (some ⟨b, off, none⟩) L.length cap ∧ w.cell? ⟨b, off + j, none⟩ = some (.string L[j]) := by
  obtain ⟨ao, cap, h1, h2, h3, h4⟩ := h
  obtain ⟨b, off, rfl, h6⟩ := h4 j hj
  exact ⟨b, off, cap, h1, h6⟩
theorem Bx.at2 {w : World} {v : Value} {L : List ByteArray} (h : Bx w v L) (j : Nat) (hj : j < L.length) : ∃ b off cap, v = .slice (some ⟨b, off, none⟩) L.length cap ∧ (L.length : Int) ≤ (cap : Int) ∧ (cap : Int) ≤ 9223372036854775807 := by
  obtain ⟨ao, cap, h1, h2, h3, h4⟩ := h
  obtain ⟨b, off, rfl, h6⟩ := h4 j hj
  exact ⟨b, off, cap, h1, by omega, by omega⟩
def btx (T : List (List UInt8)) : List ByteArray := T.map fun t => ⟨t.toArray⟩
theorem Tx.bx {w : World} {v : Value} {T : List (List UInt8)} (h : Tx w v T) : Bx w v (btx T) := by
  obtain ⟨ao, cap, h1, h2, h3, h4⟩ := h
  have hl : (btx T).length = T.length := by unfold btx; rw [List.length_map]
  refine ⟨ao, cap, by rw [hl]; exact h1, by rw [hl]; exact h2, h3, fun j hj => ?_⟩
  obtain ⟨g, off, h5, h6⟩ := h4 j (by rw [hl] at hj; exact hj)
  refine ⟨g, off, h5, h6.trans ?_⟩
  have e : (btx T)[j] = ⟨(T[j]'(by rw [hl] at hj; exact hj)).toArray⟩ := by simp [btx]
  rw [e]
theorem Bx.drop {w : World} {b off cap n : Nat} {L : List ByteArray} (h : Bx w (.slice (some ⟨b, off, none⟩) n cap) L) (k : Nat) (hk : k ≤ L.length) : Bx w (.slice (some ⟨b, off + k, none⟩) (L.length - k) (cap - k)) (L.drop k) := by
  obtain ⟨ao, cap', h1, h2, h3, h4⟩ := h
  cases h1
  refine ⟨_, _, by rw [List.length_drop], by rw [List.length_drop]; omega, by omega, fun j hj => ?_⟩
  rw [List.length_drop] at hj
  obtain ⟨b', off', h5, h6⟩ := h4 (k + j) (by omega)
  cases h5
  refine ⟨b, off + k, rfl, ?_⟩
  rw [List.getElem_drop, Nat.add_assoc]
  exact h6
theorem Bx.dropI {w : World} {b off cap n : Nat} {L : List ByteArray} (h : Bx w (.slice (some ⟨b, off, none⟩) n cap) L) (k : Nat) (hk : k ≤ L.length) : Bx w (.slice (if cap = k then some ⟨b, off, none⟩ else some ⟨b, off + k, none⟩) (L.length - k) (cap - k)) (L.drop k) := by
  have hd := h.drop k hk
  obtain ⟨ao, cap', h1, h2, h3, h4⟩ := h
  cases h1
  by_cases e : cap = k
  · rw [if_pos e]
    have hz : L.length - k = 0 := by omega
    refine ⟨_, _, by rw [List.length_drop], by rw [List.length_drop]; omega, by omega, fun j hj => ?_⟩
    rw [List.length_drop] at hj
    omega
  · rw [if_neg e]; exact hd
/-- a name stands at one place -/
def OneP (H : List ByteArray) (x : ByteArray) (p : Nat) : Prop := ∃ h : p < H.length, H[p] = x ∧ ∀ j (h : j < H.length), j ≠ p → H[j] ≠ x
def NoP (H : List ByteArray) (x : ByteArray) : Prop := ∀ j (h : j < H.length), H[j] ≠ x
def TwoP (H : List ByteArray) (x : ByteArray) (q : Nat) : Prop := ∃ p, ∃ hp : p < q, ∃ hq : q < H.length, H[p] = x ∧ H[q] = x ∧ ∀ j (h : j < H.length), j < q → j ≠ p → H[j] ≠ x
/-- the columns' places, or the first fault: its code and place -/
def HdP (H : List ByteArray) (L : List Col) (ps : List Nat) (c q : Nat) : Prop :=
  (c = 0 ∧ ps.length = L.length ∧ ∀ i (h : i < L.length) (h' : i < ps.length), OneP H L[i].nm ps[i]) ∨
  ∃ i, ∃ h : i < L.length, (∀ j (hj : j < i), ∃ p, OneP H (L[j]'(by omega)).nm p) ∧ ((c = 11 ∧ q = i ∧ NoP H L[i].nm) ∨ (c = 12 ∧ TwoP H L[i].nm q))
theorem one_of {H : List ByteArray} {x : ByteArray} {p : Nat} (h : p < H.length) (hx : H[p] = x) (hf : ∀ i (hi : i < H.length), i < p → H[i] ≠ x) (hn : ∀ j (h : j < (H.drop (p + 1)).length), (H.drop (p + 1))[j] ≠ x) : OneP H x p :=
  ⟨h, hx, fun j hj hne => by
    by_cases hlt : j < p
    · exact hf j hj hlt
    · have h1 := hn (j - (p + 1)) (by rw [List.length_drop]; omega)
      rw [List.getElem_drop] at h1
      have e : p + 1 + (j - (p + 1)) = j := by omega
      simp only [e] at h1
      exact h1⟩
theorem two_of {H : List ByteArray} {x : ByteArray} {p : Nat} (h : p < H.length) (hx : H[p] = x) (hf : ∀ i (hi : i < H.length), i < p → H[i] ≠ x) {j : Nat} (hj : j < (H.drop (p + 1)).length) (hjx : (H.drop (p + 1))[j] = x) (hjf : ∀ i (hi : i < (H.drop (p + 1)).length), i < j → (H.drop (p + 1))[i] ≠ x) : TwoP H x (p + 1 + j) := by
  have hj2 : p + 1 + j < H.length := by rw [List.length_drop] at hj; omega
  refine ⟨p, by omega, hj2, hx, ?_, fun i hi hlt hne => ?_⟩
  · rw [List.getElem_drop] at hjx; exact hjx
  · by_cases hlt2 : i < p
    · exact hf i hi hlt2
    · have h1 := hjf (i - (p + 1)) (by rw [List.length_drop]; omega) (by omega)
      rw [List.getElem_drop] at h1
      have e : p + 1 + (i - (p + 1)) = i := by omega
      simp only [e] at h1
      exact h1

def pc (L : List Nat) : List Value := L.map fun (n : Nat) => Value.int .i64 (n : Int)
theorem pc_one (L : List Nat) : ∀ u ∈ pc L, u.oneCell' = true := by
  intro u hu
  obtain ⟨x, _, rfl⟩ := List.mem_map.1 hu
  rfl
theorem iinfo : (Tryz.prog.info? 3).map (fun i => (i.zero, i.size, i.bytes)) = some (some (.int .i64 0), 1, 8) := by kernel_rfl
def OP (w : World) (base : Nat) (v : Value) (L : List Nat) : Prop := w.ownsRow base 3 1 v L.length (pc L)
set_option maxHeartbeats 1000000 in
theorem bindex_any (v : Value) (L : List ByteArray) (x : ByteArray) (w : World) (hr : Bx w v L) :
    Calls Tryz.prog 80 #[v, .string x] w fun e w' => (∃ n, e = .returned (.int .i64 n) ∧ IdxP L x n) ∧ w' = w := by
  have HR := hid hr
  obtain ⟨ao, cap, rfl⟩ := hr.form
  clear hr
  go_enter Tryz.func80, Tryz.ntmps80
  go_wp2_with fail
  go_loop [8] (fun i => ∃ k : Nat, k ≤ L.length ∧ i = .int .i64 k ∧ Hid (∀ j (h : j < L.length), j < k → L[j] ≠ x)) (fun i => L.length - (intOf i).toNat)
  case atStart => exact ⟨0, by omega, rfl, hid fun j _ h => absurd h (Nat.not_lt_zero _)⟩
  case round =>
    obtain ⟨k, hk, rfl, HN⟩ := hrel
    have hl63 := HR.out.len
    by_cases h : k < L.length
    · have hI : (k : Int) < (L.length : Int) := by omega
      obtain ⟨b, off, cap', hv, c0⟩ := HR.out.at k h
      cases hv
      have es := str_eq x L[k]
      have HLk := hid (fun (e : x = L[k]) => e)
      by_cases e : x = L[k]
      · have HE := hid e.symm
        rw [decide_eq_true e] at es
        clear e HLk
        have HNk := hid (show IdxP L x (k : Int) from .inr ⟨k, h, rfl, HE.out, HN.out⟩)
        clear HE
        generalize L[k] = y at es c0
        go_wp2
        go_ret
        exact ⟨⟨_, rfl, HNk.out⟩, rfl⟩
      · have HE := hid (fun h : L[k] = x => e h.symm)
        rw [decide_eq_false e] at es
        clear e HLk
        have HN2 := hid (show ∀ j (h : j < L.length), j < k + 1 → L[j] ≠ x from fun j hj hlt => by
          by_cases e : j = k
          · subst e; exact HE.out
          · exact HN.out j hj (by omega))
        generalize L[k] = y at es c0
        go_wp2
        go_round
        case rel => exact ⟨k + 1, by omega, by go_num, HN2⟩
        case measure => simp [intOf]; omega
    · obtain rfl : k = L.length := by omega
      have hI : ¬ (L.length : Int) < (L.length : Int) := by omega
      go_wp2
      go_ret
      exact ⟨⟨-1, rfl, .inl ⟨rfl, fun j hj => HN.out j hj hj⟩⟩, rfl⟩
/-- what findColumns answers -/
def FcP (A : Nat → Addr) (H : List ByteArray) (L : List Col) (w w' : World) (e : Ending) : Prop :=
  ∃ ps c q, HdP H L ps c q ∧ ((c = 0 ∧ ∃ v, e = .returned (.tuple #[v, .nilIface]) ∧ OP w' w.heap.size v ps) ∨ (c ≠ 0 ∧ ∃ ev, e = .returned (.tuple #[.slice none 0 0, ev]) ∧ ErF A 1 q c w w' ev))
theorem head_cases {w : World} {v : Value} {R : List (List (List UInt8))} (h : Rw w v R) : (R = [] ∧ ∃ ao cap, v = .slice ao 0 cap) ∨ (∃ g off cap u, v = .slice (some ⟨g, off, none⟩) R.length cap ∧ 0 < R.length ∧ w.cell? ⟨g, off, none⟩ = some u ∧ Tx w u (R.headD [])) := by
  obtain ⟨ao, cap, h1, h2, h3, h4⟩ := h
  cases R with
  | nil => exact .inl ⟨rfl, ao, cap, h1⟩
  | cons T r =>
    obtain ⟨g, off, u, rfl, h6, h7⟩ := h4 0 (by simp)
    exact .inr ⟨g, off, cap, u, h1, by simp, h6, h7⟩
set_option maxHeartbeats 4000000 in
theorem findColumns_any (A : Nat → Addr) (rv v : Value) (R : List (List (List UInt8))) (L : List Col) (w : World) (hrr : Rw w rv R) (hr : RC w v L) (hl : L.length ≤ 64) (hA : Sn A w) (h0 : L ≠ []) :
    Calls Tryz.prog 33 #[rv, v] w fun e w' => FcP A (btx (R.headD [])) L w w' e ∧ Below w.heap.size w w' := by
  have HR := hid hr
  have HA := hid hA
  have HSI := hid (fun Wx v L x (h : Bx Wx v L) => bindex_any v L x Wx h)
  obtain ⟨ao, cap, rfl, hcap⟩ := hr.form
  have h0' := hid (show OP w w.heap.size (.slice none 0 0) [] from World.ownsRow_nil _ _ _ _)
  have key : ∃ hv, Bx w hv (btx (R.headD [])) ∧ ((R = [] ∧ hv = .slice none 0 0 ∧ ∃ ao cap, rv = .slice ao 0 cap) ∨ (∃ g off cap, rv = .slice (some ⟨g, off, none⟩) R.length cap ∧ 0 < R.length ∧ w.cell? ⟨g, off, none⟩ = some hv)) := by
    rcases head_cases hrr with ⟨rfl, ao, cap, h⟩ | ⟨g, off, cap, u, h1, h2, h3, h4⟩
    · exact ⟨_, ⟨none, 0, rfl, by simp [btx], by omega, fun j hj => by simp [btx] at hj⟩, .inl ⟨rfl, rfl, ao, cap, h⟩⟩
    · exact ⟨u, h4.bx, .inr ⟨g, off, cap, h1, h2, h3⟩⟩
  obtain ⟨hv, hbx, hcs⟩ := key
  have HBx := hid hbx
  obtain ⟨H, hH⟩ : ∃ H, btx (R.headD []) = H := ⟨_, rfl⟩
  rw [hH] at HBx ⊢
  have HCs := hid hcs
  have HL0 := hid h0
  clear hrr hr hbx hH hcs hA h0
  have HG := hid (show ∀ c, 1 ≤ c → c ≤ 20 → ∀ Wx, Below w.heap.size w Wx → Wx.cell? ⟨gV c, 0, none⟩ = some (.iface 312 (.pointer (some (A c)))) from fun c h1 h2 Wx hb => by
    have := (HA.out.below hb).cellAt (c := c) h1 h2
    rw [erV_pos A (by omega)] at this
    exact this)
  rcases HCs.out with ⟨hR, rfl, ao', cap', rfl⟩ | ⟨g, off, cap', rfl, hR, hcell⟩
  all_goals
    try have hRI : (0 : Int) < (R.length : Int) := by omega
    try have hRd : decide (0 < R.length) = true := decide_eq_true hR
    clear hR HCs
    go_enter Tryz.func33, Tryz.ntmps33
    go_wp2_with fail
    try clear hcell
    go_loopw [7, 21] (fun pv i wr => ∃ k : Nat, ∃ ps : List Nat, k ≤ L.length ∧ i = .int .i64 k ∧ Hid (ps.length = k ∧ ∀ j (h : j < L.length) (h' : j < ps.length), OneP H L[j].nm ps[j]) ∧ Hid (OP wr w.heap.size pv ps) ∧ Hid (Below w.heap.size w wr)) (fun _ i _ => L.length - (intOf i).toNat)
    case atStart => exact ⟨0, [], by omega, rfl, hid ⟨rfl, fun j h h' => by simp at h'⟩, h0', hid (Below.refl _ _)⟩
    case round =>
      obtain ⟨k, ps, hk, rfl, HPs, HO, HB⟩ := hrel
      by_cases h : k < L.length
      · have hI : (k : Int) < (L.length : Int) := by omega
        obtain ⟨b2, off2, cap2, hv2, c0, c1, c2⟩ := (HR.out.below HB.out).at k h
        cases hv2
        have HPre := hid (show ∀ j (hj : j < k), ∃ p, OneP H (L[j]'(by omega)).nm p from fun j hj => ⟨_, HPs.out.2 j (by omega) (by rw [HPs.out.1]; exact hj)⟩)
        have HNo := hid (fun (q : Nat) (hn : NoP H L[k].nm) => (show HdP H L [] 11 k from .inr ⟨k, h, HPre.out, .inl ⟨rfl, rfl, hn⟩⟩))
        have HTw := hid (fun (q : Nat) (hn : TwoP H L[k].nm q) => (show HdP H L [] 12 q from .inr ⟨k, h, HPre.out, .inr ⟨rfl, hn⟩⟩))
        have HOn := hid (fun (p : Nat) (hn : OneP H L[k].nm p) => (show (ps ++ [p]).length = k + 1 ∧ ∀ j (h : j < L.length) (h' : j < (ps ++ [p]).length), OneP H L[j].nm (ps ++ [p])[j] from ⟨by simp [HPs.out.1], fun j hj hj' => by
          by_cases e : j < ps.length
          · rw [List.getElem_append_left e]; exact HPs.out.2 j hj e
          · have : j = k := by have := HPs.out.1; simp at hj'; omega
            subst this
            rw [List.getElem_append_right (by omega)]
            simpa using hn⟩))
        generalize L[k] = C at *
        obtain ⟨nm, kd, mu⟩ := C
        obtain ⟨W1, hW1⟩ : ∃ W1, wr.alloc (.cells #[.string nm, .int .i64 kd, .bool mu] 31) = W1 := ⟨_, rfl⟩
        have BW1 := hid (show Below wr.heap.size wr W1 by rw [← hW1]; exact (Below.refl _ _).alloc (Nat.le_refl _) _)
        have RW1 := hid (show W1.heap[wr.heap.size]? = some (.cells #[.string nm, .int .i64 kd, .bool mu] 31 (0, 0)) by rw [← hW1]; exact heap_alloc_new wr _)
        have HB1 := hid (HB.out.trans (BW1.out.mono HB.out.size))
        have x0 : W1.cell? ⟨wr.heap.size, 0, none⟩ = some (.string nm) := Lib.cell_of_heap RW1.out 0
        go_wp2_with fail
        refine Calls.mono (HSI.out _ _ _ _ (HBx.out.below HB1.out)) ?_
        rintro e w2 ⟨⟨n, rfl, hn⟩, hw⟩
        replace hw := hw.symm
        subst hw
        clear c0 c1 c2
        rcases hn with ⟨rfl, hno⟩ | ⟨p, hp, rfl, hpx, hfst⟩
        · have HD := hid (HNo.out 0 hno)
          have g11 := HG.out 11 (by decide) (by decide) _ HB1.out
          rw [show gV 11 = 2 from rfl] at g11
          clear hno
          go_wp2_with fail
          go_region
          all_goals
            go_wp2
            go_ret2
            refine ⟨⟨[], 11, k, HD.out, .inr ⟨by decide, _, rfl, _, rfl, ?_, ?_⟩⟩, ?_⟩
            · exact Nat.le_trans HB1.out.size (by simp [go_sem])
            · rw [erV_pos A (by decide)]
              exact heap_alloc_new _ _
            · first
                | exact (HB1.out.alloc HB1.out.size _).drew
                | exact (HB1.out.alloc HB1.out.size _)
        · have HP1 := hid hpx
          have HF1 := hid hfst
          have hpH : p < H.length := hp
          have hH63 := (HBx.out.len)
          have hpI : (p : Int) + 1 ≤ (H.length : Int) := by omega
          have hpw : wrap64 ((p : Int) + 1) = (p : Int) + 1 := by unfold wrap64; omega
          have hpn : (0 : Int) ≤ (p : Int) + 1 := by omega
          clear hpx hfst
          obtain ⟨hb, ho, hc, hve, hHc, hcm⟩ := HBx.out.at2 p hp
          cases hve
          all_goals
            have HBd := hid (((HBx.out.below HB1.out).below ((Below.refl _ _).drew)).dropI (p + 1) (by omega))
            have HB1d := hid HB1.out.drew
            obtain ⟨ao2, hao⟩ : ∃ ao2, (if hc = p + 1 then some (⟨hb, ho, none⟩ : Addr) else some ⟨hb, ho + (p + 1), none⟩) = ao2 := ⟨_, rfl⟩
            rw [hao] at HBd
            go_wp2_with fail
            go_region_with (go_at_call 80; refine (HSI.out _ _ _ _ HBd.out).mono ?_; rintro e w5 ⟨⟨n2, rfl, hn2⟩, hw⟩; replace hw := hw.symm; subst hw; have HN2 := hid hn2; clear hn2)
            all_goals
              rcases HN2.out with ⟨rfl, hno⟩ | ⟨j2, hj2, rfl, hjx, hjf⟩
              · have HOne := hid (HOn.out p (one_of hpH HP1.out HF1.out hno))
                clear hno hao
                obtain ⟨W4, hW4⟩ : ∃ W4, W1.drew.alloc (.cells #[.int .i64 (p : Int)] 3) = W4 := ⟨_, rfl⟩
                have RW4 := hid (show W4.heap[W1.heap.size]? = some (.cells #[.int .i64 (p : Int)] 3 (0, 0)) by rw [← hW4]; exact heap_alloc_new W1.drew _)
                have BW4 := hid (show Below wr.heap.size wr W4 by rw [← hW4]; exact BW1.out.drew.alloc BW1.out.drew.size _)
                have HO4 := hid (own_later HO.out BW4.out)
                have hsz := hid (show w.heap.size ≤ W4.heap.size from Nat.le_trans HB.out.size BW4.out.size)
                have hb8 : (ps.length + 1) * 8 ≤ 140737488355328 := by have := HPs.out.1; omega
                have hb63 : ps.length + 1 ≤ maxLen := by have := HPs.out.1; unfold maxLen; omega
                go_wp2_with (at_builtin; refine wpList_appX iinfo Tryz.underlying84 rfl (by decide) rfl (.tmp 54) (.tmp 56) rfl w.heap.size _ ps.length (pc ps) rfl HO4.out _ 1 (pc [p]) rfl rfl (.inr ⟨_, _, rfl, news_blk RW4.out⟩) (pc_one _) hb63 hb8 hsz.out ?n2)
                case n2 =>
                intro v3 w3 ho3 hg3 _
                have HO3 := hid (show OP w3 w.heap.size v3 (ps ++ [p]) by unfold OP; rw [List.length_append]; simpa [pc] using ho3)
                have HB3 := hid ((HB.out.trans (BW4.out.mono HB.out.size)).grown hg3 hsz.out (fun k hk => (World.ownsRow.lt HO4.out k hk).1))
                clear ho3 hg3 HO4
                go_wp2_with fail
                go_roundw
                case rel =>
                  exact ⟨k + 1, ps ++ [p], by omega, by go_num, HOne, HO3, HB3⟩
                case measure => simp [intOf]; omega
              · obtain ⟨q, hq⟩ : ∃ q : Nat, p + 1 + j2 = q := ⟨_, rfl⟩
                have htw := two_of hpH HP1.out HF1.out hj2 hjx hjf
                rw [hq] at htw
                have HTwo := hid (HTw.out _ htw)
                have hqI : wrap64 ((p : Int) + 1 + (j2 : Int)) = (q : Int) := by
                  have := (List.length_drop ▸ hj2 : j2 < H.length - (p + 1))
                  unfold wrap64; omega
                clear hjx hjf htw hq
                have g12 := HG.out 12 (by decide) (by decide) _ HB1d.out
                rw [show gV 12 = 14 from rfl] at g12
                go_wp2_with fail
                go_region
                all_goals
                  go_wp2
                  go_ret2
                  refine ⟨⟨[], 12, _, HTwo.out, .inr ⟨by decide, _, rfl, _, rfl, ?_, ?_⟩⟩, ?_⟩
                  · exact Nat.le_trans HB1d.out.size (by simp [go_sem])
                  · rw [erV_pos A (by decide)]
                    exact heap_alloc_new _ _
                  · first
                      | exact (HB1d.out.alloc HB1d.out.size _).drew
                      | exact (HB1d.out.alloc HB1d.out.size _)
      · have hkl : k = L.length := by omega
        have hI : ¬ (k : Int) < (L.length : Int) := by omega
        have HD := hid (show HdP H L ps 0 0 from .inl ⟨rfl, by rw [HPs.out.1, hkl], fun i h h' => HPs.out.2 i h h'⟩)
        clear hkl
        go_wp2
        go_ret2
        exact ⟨⟨ps, 0, 0, HD.out, .inl ⟨rfl, _, rfl, HO.out⟩⟩, HB.out⟩
end Go.Proofs.YtmgfdnccmeahjaaGreatDoor

namespace Go.Proofs.YtmgfdnccmeahjaaGreatDoor
open Go.RowKit
set_option maxRecDepth 100000
set_option linter.unusedVariables false
set_option linter.unusedSimpArgs false

attribute [local go_sem ↓] fLd_op fSt_op
/-- what the document's heads answers -/
def HeP (H : List ByteArray) (L : List Col) (base : Nat) (w' : World) (e : Ending) : Prop :=
  ∃ ps c q, HdP H L ps c q ∧ ((c = 0 ∧ ∃ v, e = .returned (.tuple #[v, fV 0 0 0 0]) ∧ OP w' base v ps) ∨ (c ≠ 0 ∧ e = .returned (.tuple #[.slice none 0 0, fV c 1 q 0])))
/-- the place so far -/
def PlP (H : List ByteArray) (x : ByteArray) (j : Nat) (pl : Int) : Prop := (pl = -1 ∧ ∀ m (h : m < H.length), m < j → H[m] ≠ x) ∨ ∃ p : Nat, ∃ h : p < H.length, p < j ∧ pl = (p : Int) ∧ H[p] = x ∧ ∀ m (h : m < H.length), m < j → m ≠ p → H[m] ≠ x
theorem PlP.next {H : List ByteArray} {x : ByteArray} {j : Nat} {pl : Int} (h : PlP H x j pl) (hj : j < H.length) (hne : H[j] ≠ x) : PlP H x (j + 1) pl := by
  rcases h with ⟨h1, h2⟩ | ⟨p, h1, h2, h3, h4, h5⟩
  · exact .inl ⟨h1, fun m hm hlt => by
      by_cases e : m = j
      · subst e; exact hne
      · exact h2 m hm (by omega)⟩
  · exact .inr ⟨p, h1, by omega, h3, h4, fun m hm hlt hmp => by
      by_cases e : m = j
      · subst e; exact hne
      · exact h5 m hm (by omega) hmp⟩
theorem PlP.hit {H : List ByteArray} {x : ByteArray} {j : Nat} (h : ∀ m (h : m < H.length), m < j → H[m] ≠ x) (hj : j < H.length) (he : H[j] = x) : PlP H x (j + 1) (j : Int) :=
  .inr ⟨j, hj, by omega, rfl, he, fun m hm hlt hmp => h m hm (by omega)⟩
theorem str_ne (x y : ByteArray) : (x.toList != y.toList) = !decide (x = y) := by rw [bne, str_eq]
set_option maxHeartbeats 8000000 in
theorem dheads_any (rv v : Value) (R : List (List (List UInt8))) (L : List Col) (w : World) (hrr : Rw w rv R) (hr : RC w v L) (hl : L.length ≤ 64) :
    Calls Tryz.prog 74 #[rv, v] w fun e w' => HeP (btx (R.headD [])) L (w.heap.size + 1) w' e ∧ Below w.heap.size w w' := by
  have HAt := hid (fun c l k w => at_any c l k w)
  have HR := hid hr
  obtain ⟨ao, cap, rfl, hcap⟩ := hr.form
  obtain ⟨W0, hW0⟩ : ∃ W0, w.alloc (.cells #[.int .i64 0, .int .i64 0, .int .i64 0, .int .i64 0, .int .i64 0] 62) = W0 := ⟨_, rfl⟩
  have HS0 := hid (show w.heap.size + 1 ≤ W0.heap.size by rw [← hW0]; simp [go_sem])
  have HF0 := hid (show FW W0 w.heap.size 0 0 0 0 by rw [← hW0]; exact FW.new w)
  have HB0 := hid (show Below w.heap.size w W0 by rw [← hW0]; exact (Below.refl w.heap.size w).alloc (Nat.le_refl _) _)
  have h0' := hid (show OP W0 (w.heap.size + 1) (.slice none 0 0) [] from World.ownsRow_nil _ _ _ _)
  have key : ∃ hv, Bx w hv (btx (R.headD [])) ∧ ((R = [] ∧ hv = .slice none 0 0 ∧ ∃ ao cap, rv = .slice ao 0 cap) ∨ (∃ g off cap, rv = .slice (some ⟨g, off, none⟩) R.length cap ∧ 0 < R.length ∧ w.cell? ⟨g, off, none⟩ = some hv)) := by
    rcases head_cases hrr with ⟨rfl, ao, cap, h⟩ | ⟨g, off, cap, u, h1, h2, h3, h4⟩
    · exact ⟨_, ⟨none, 0, rfl, by simp [btx], by omega, fun j hj => by simp [btx] at hj⟩, .inl ⟨rfl, rfl, ao, cap, h⟩⟩
    · exact ⟨u, h4.bx, .inr ⟨g, off, cap, h1, h2, h3⟩⟩
  obtain ⟨hv, hbx, hcs⟩ := key
  have HBx := hid hbx
  obtain ⟨H, hH⟩ : ∃ H, btx (R.headD []) = H := ⟨_, rfl⟩
  rw [hH] at HBx ⊢
  have HCs := hid hcs
  clear hrr hr hbx hH hcs
  have hHe := HBx.out.form
  rcases HCs.out with ⟨hR, rfl, ao', cap', rfl⟩ | ⟨g, off, cap', rfl, hR, hcell0⟩
  all_goals
    try have hRI : (0 : Int) < (R.length : Int) := by omega
    try have hRd : decide (0 < R.length) = true := decide_eq_true hR
    try have hcell := cellB HB0.out hcell0
    obtain ⟨ha, hcp, hve⟩ := hHe
    have hlenH := HBx.out.len
    clear hR HCs
    try subst hve
    try (have HVE := hid hve; clear hve)
    go_enter Tryz.func74, Tryz.ntmps74
    go_wp2_with fail
    clear hW0
    try rw [HVE.out] at h0' ⊢
    try clear hcell hcell0
    go_loopw [7, 8] (fun pv i wr => ∃ k : Nat, ∃ ps : List Nat, k ≤ L.length ∧ i = .int .i64 k ∧ Hid (ps.length = k ∧ ∀ j (h : j < L.length) (h' : j < ps.length), OneP H L[j].nm ps[j]) ∧ Hid (OP wr (w.heap.size + 1) pv ps) ∧ Hid (Below w.heap.size w wr) ∧ Hid (FW wr w.heap.size 0 0 0 0) ∧ Hid (w.heap.size + 1 ≤ wr.heap.size)) (fun _ i _ => L.length - (intOf i).toNat)
    case atStart => exact ⟨0, [], by omega, rfl, hid ⟨rfl, fun j h h' => by simp at h'⟩, h0', HB0, HF0, HS0⟩
    case round =>
      obtain ⟨k, ps, hk, rfl, HPs, HO, HB, HF, HS⟩ := hrel
      by_cases h : k < L.length
      · have hI : (k : Int) < (L.length : Int) := by omega
        have HC0 := hid (fun wx (hb : Below w.heap.size w wx) => (HR.out.below hb).at k h)
        obtain ⟨b2, off2, cap2, hv2, _, _, _⟩ := HC0.out _ HB.out
        cases hv2
        have HC1 := hid (fun wx (hb : Below w.heap.size w wx) => (show wx.cell? ⟨b2, off2 + k * 3, none⟩ = some (.string L[k].nm) by
          obtain ⟨b', off', cap', hv, d0, d1, d2⟩ := HC0.out _ hb
          cases hv
          exact d0))
        have HPre := hid (show ∀ j (hj : j < k), ∃ p, OneP H (L[j]'(by omega)).nm p from fun j hj => ⟨_, HPs.out.2 j (by omega) (by rw [HPs.out.1]; exact hj)⟩)
        have HNo := hid (fun (hn : NoP H L[k].nm) => (show HdP H L [] 11 k from .inr ⟨k, h, HPre.out, .inl ⟨rfl, rfl, hn⟩⟩))
        have HTw := hid (fun (q : Nat) (hn : TwoP H L[k].nm q) => (show HdP H L [] 12 q from .inr ⟨k, h, HPre.out, .inr ⟨rfl, hn⟩⟩))
        have HOn := hid (fun (p : Nat) (hn : OneP H L[k].nm p) => (show (ps ++ [p]).length = k + 1 ∧ ∀ j (h : j < L.length) (h' : j < (ps ++ [p]).length), OneP H L[j].nm (ps ++ [p])[j] from ⟨by simp [HPs.out.1], fun j hj hj' => by
          by_cases e : j < ps.length
          · rw [List.getElem_append_left e]; exact HPs.out.2 j hj e
          · have : j = k := by have := HPs.out.1; simp at hj'; omega
            subst this
            rw [List.getElem_append_right (by omega)]
            simpa using hn⟩))
        clear HC0
        generalize L[k].nm = nm at *
        go_wp2_with fail
        go_loopw [9, 10] (fun pl j wr2 => ∃ i : Nat, ∃ z : Int, i ≤ H.length ∧ pl = .int .i64 z ∧ j = .int .i64 i ∧ Hid (PlP H nm i z) ∧ Hid (OP wr2 (w.heap.size + 1) u7 ps) ∧ Hid (Below w.heap.size w wr2) ∧ Hid (FW wr2 w.heap.size 0 0 0 0) ∧ Hid (w.heap.size + 1 ≤ wr2.heap.size)) (fun _ j _ => H.length - (intOf j).toNat)
        case atStart => exact ⟨0, -1, by omega, rfl, rfl, hid (.inl ⟨rfl, fun m hm hlt => absurd hlt (Nat.not_lt_zero _)⟩), HO, HB, HF, HS⟩
        case round =>
          obtain ⟨i, z, hi, rfl, rfl, HZ, HO6, HB6, HF6, HS6⟩ := hrel
          by_cases hiH : i < H.length
          · have hiI : (i : Int) < (H.length : Int) := by omega
            have d0 := HC1.out _ HB6.out
            obtain ⟨b3, off3, cap3, hv3, z0⟩ := (HBx.out.below HB6.out).at i hiH
            cases hv3
            all_goals
              have es := str_eq H[i] nm
              have es2 := str_ne H[i] nm
              by_cases e : H[i] = nm
              · have HE := hid e
                rw [decide_eq_true e] at es es2
                clear e
                rcases HZ.out with ⟨rfl, hno⟩ | ⟨p, hp, hpi, rfl, hpx, hpo⟩
                · have HZ2 := hid (PlP.hit hno hiH HE.out)
                  clear hno
                  generalize H[i] = y at es es2 z0
                  go_wp2_with fail
                  go_quiet (fail)
                  have BQ := hid (below_drewN HB6.out nq)
                  have FQ := hid (show FW (wr.drewN nq) w.heap.size 0 0 0 0 by unfold FW; rw [drewN_heap]; exact HF6.out)
                  have OQ := hid (own_later HO6.out (below_drewN (Below.refl _ _) nq))
                  have SQ := hid (show w.heap.size + 1 ≤ (wr.drewN nq).heap.size by rw [drewN_heap]; exact HS6.out)
                  generalize wr.drewN nq = w7 at *
                  clear d0 z0
                  go_wp2
                  go_roundw
                  case rel => exact ⟨i + 1, _, by omega, rfl, by go_num, HZ2, OQ, BQ, FQ, SQ⟩
                  case measure => simp [intOf]; omega
                · have HTwo := hid (HTw.out i ⟨p, hpi, hiH, hpx, HE.out, fun m hm hlt hne => hpo m hm hlt hne⟩)
                  have hpn : (0 : Int) ≤ (p : Int) := by omega
                  clear hpx hpo
                  generalize H[i] = y at es es2 z0
                  go_wp2_with fail
                  go_quiet (fail)
                  have BQ := hid (below_drewN HB6.out nq)
                  have FQ := hid (show FW (wr.drewN nq) w.heap.size 0 0 0 0 by unfold FW; rw [drewN_heap]; exact HF6.out)
                  generalize wr.drewN nq = w7 at *
                  clear d0 z0
                  go_wp2_with fail
                  refine Calls.mono (HAt.out 12 1 i _) ?_
                  rintro e w2 ⟨rfl, hb2⟩
                  obtain ⟨W, ES, hW, gW⟩ := run_fSt (FQ.out.big hb2) 12 1 i 0
                  have EL := run_fLd hW
                  have BF := hid ((BQ.out.trans (hb2.mono BQ.out.size)).grown gW (Nat.le_trans BQ.out.size hb2.size) (fun b hb => by cases hb; exact Nat.le_refl _))
                  obtain ⟨fv, hfv⟩ : ∃ fv, fv = fV 12 1 i 0 := ⟨_, rfl⟩
                  rw [← hfv] at ES EL ⊢
                  have HFv := hid hfv
                  clear hW gW hb2 hfv
                  go_wp2
                  refine bodyPost_ret (by simp [results, Tryz.results74, asAddr, ↓fLd_op, EL]; try rfl) rfl ?_
                  exact ⟨⟨[], 12, i, HTwo.out, .inr ⟨by decide, by first | (rw [HFv.out]; done) | rw [HFv.out, HVE.out]⟩⟩, BF.out⟩
              · have HZ2 := hid (HZ.out.next hiH e)
                rw [decide_eq_false e] at es es2
                clear e
                generalize H[i] = y at es es2 z0
                go_wp2_with fail
                go_quiet (fail)
                have BQ := hid (below_drewN HB6.out nq)
                have FQ := hid (show FW (wr.drewN nq) w.heap.size 0 0 0 0 by unfold FW; rw [drewN_heap]; exact HF6.out)
                have OQ := hid (own_later HO6.out (below_drewN (Below.refl _ _) nq))
                have SQ := hid (show w.heap.size + 1 ≤ (wr.drewN nq).heap.size by rw [drewN_heap]; exact HS6.out)
                generalize wr.drewN nq = w7 at *
                clear d0 z0
                go_wp2
                go_roundw
                case rel => exact ⟨i + 1, _, by omega, rfl, by go_num, HZ2, OQ, BQ, FQ, SQ⟩
                case measure => simp [intOf]; omega
          · have hiI : ¬ (i : Int) < (H.length : Int) := by omega
            have hie : i = H.length := by omega
            rcases HZ.out with ⟨rfl, hno⟩ | ⟨p, hp, hpi, rfl, hpx, hpo⟩
            · have HN := hid (HNo.out (fun m hm => hno m hm (by omega)))
              clear hno hie
              go_wp2_with fail
              refine Calls.mono (HAt.out 11 1 k _) ?_
              rintro e w2 ⟨rfl, hb2⟩
              obtain ⟨W, ES, hW, gW⟩ := run_fSt (HF6.out.big hb2) 11 1 k 0
              have EL := run_fLd hW
              have BF := hid ((HB6.out.trans (hb2.mono HB6.out.size)).grown gW (Nat.le_trans HB6.out.size hb2.size) (fun b hb => by cases hb; exact Nat.le_refl _))
              obtain ⟨fv, hfv⟩ : ∃ fv, fv = fV 11 1 k 0 := ⟨_, rfl⟩
              rw [← hfv] at ES EL ⊢
              have HFv := hid hfv
              clear hW gW hb2 hfv
              go_wp2
              refine bodyPost_ret (by simp [results, Tryz.results74, asAddr, ↓fLd_op, EL]; try rfl) rfl ?_
              exact ⟨⟨[], 11, k, HN.out, .inr ⟨by decide, by first | (rw [HFv.out]; done) | rw [HFv.out, HVE.out]⟩⟩, BF.out⟩
            · have HOne := hid (HOn.out p ⟨hp, hpx, fun m hm hne => hpo m hm (by omega) hne⟩)
              have hpn : ¬ (p : Int) < 0 := by omega
              clear hpx hpo hie
              obtain ⟨W4, hW4⟩ : ∃ W4, wr.alloc (.cells #[.int .i64 (p : Int)] 3) = W4 := ⟨_, rfl⟩
              have RW4 := hid (show W4.heap[wr.heap.size]? = some (.cells #[.int .i64 (p : Int)] 3 (0, 0)) by rw [← hW4]; exact heap_alloc_new wr _)
              have BW4 := hid (show Below wr.heap.size wr W4 by rw [← hW4]; exact (Below.refl _ _).alloc (Nat.le_refl _) _)
              have HO4 := hid (own_later HO6.out BW4.out)
              have HF4 := hid (HF6.out.big BW4.out)
              have hsz := hid (show w.heap.size + 1 ≤ W4.heap.size from Nat.le_trans HS6.out BW4.out.size)
              have hb8 : (ps.length + 1) * 8 ≤ 140737488355328 := by have := HPs.out.1; omega
              have hb63 : ps.length + 1 ≤ maxLen := by have := HPs.out.1; unfold maxLen; omega
              go_wp2_with (at_builtin; refine wpList_appX iinfo Tryz.underlying84 rfl (by decide) rfl (.tmp 48) (.tmp 50) rfl (w.heap.size + 1) _ ps.length (pc ps) rfl HO4.out _ 1 (pc [p]) rfl rfl (.inr ⟨_, _, rfl, news_blk RW4.out⟩) (pc_one _) hb63 hb8 hsz.out ?n2)
              case n2 =>
              intro v3 w3 ho3 hg3 _
              have HO3 := hid (show OP w3 (w.heap.size + 1) v3 (ps ++ [p]) by unfold OP; rw [List.length_append]; simpa [pc] using ho3)
              have HB3 := hid ((HB6.out.trans (BW4.out.mono HB6.out.size)).grown hg3 (Nat.le_trans (Nat.le_succ _) hsz.out) (fun k hk => Nat.le_trans (Nat.le_succ _) (World.ownsRow.lt HO4.out k hk).1))
              have HF3 := hid (HF4.out.grown hg3 (fun e => by have := (World.ownsRow.lt HO4.out _ e).1; omega))
              have HS3 := hid (show w.heap.size + 1 ≤ w3.heap.size from Nat.le_trans hsz.out hg3.size)
              clear ho3 hg3 HO4
              go_wp2_with fail
              go_roundw
              case rel => exact ⟨k + 1, ps ++ [p], by omega, by go_num, HOne, HO3, HB3, HF3, HS3⟩
              case measure => simp [intOf]; omega
      · have hkl : k = L.length := by omega
        have hI : ¬ (k : Int) < (L.length : Int) := by omega
        have HD := hid (show HdP H L ps 0 0 from .inl ⟨rfl, by rw [HPs.out.1, hkl], fun i h h' => HPs.out.2 i h h'⟩)
        obtain ⟨W, ES, hW, gW⟩ := run_fSt0 HF.out
        have EL := run_fLd hW
        have BF := hid (HB.out.grown gW HB.out.size (fun b hb => by cases hb; exact Nat.le_refl _))
        have OF := hid (show OP W (w.heap.size + 1) u7 ps from World.ownsRow.kept HO.out gW (.inr (by
          intro e
          have := (World.ownsRow.lt HO.out _ e).1
          omega)))
        clear hW gW hkl
        go_wp2
        refine bodyPost_ret (by simp [results, Tryz.results74, asAddr, ↓fLd_op, EL]; try rfl) rfl ?_
        exact ⟨⟨ps, 0, 0, HD.out, .inl ⟨rfl, _, rfl, OF.out⟩⟩, BF.out⟩
end Go.Proofs.YtmgfdnccmeahjaaGreatDoor

namespace Go.Proofs.YtmgfdnccmeahjaaGreatDoor
open Go.RowKit
set_option maxRecDepth 100000
set_option linter.unusedVariables false
set_option linter.unusedSimpArgs false

/-- what readers need of a world -/
structure RdW (A : Nat → Addr) (w : World) : Prop where
  sn : Sn A w
  ah : HasAh w
  e1 : HasEv 25 w
  e2 : HasEv 26 w
theorem RdW.below {A : Nat → Addr} {w w' : World} (h : RdW A w) (hb : Below w.heap.size w w') : RdW A w' :=
  ⟨h.sn.below hb, h.ah.below hb, h.e1.below hb, h.e2.below hb⟩
/-- what is told of a text of a kind -/
def RdBoth (s : ByteArray) (k : Nat) (r : Rd) : Prop :=
  (∀ (A : Nat → Addr) (nm : ByteArray) (mu : Bool) (w : World), RdW A w → s.data.toList ≠ [] → Calls Tryz.prog 81 #[.string s, .agg #[.string nm, .int .i64 (k : Int), .bool mu]] w fun e w' => RdP A k r w w' e ∧ Below w.heap.size w w') ∧
  (∀ w : World, Calls Tryz.prog 75 #[.string s, .int .i64 (k : Int)] w fun e w' => TdP k r e ∧ Below w.heap.size w w') ∧
  (∃ n : Nat, r.2.2.2 = (n : Int) ∧ n ≤ 100 ∧ (r.1 ≠ 16 → r.1 ≠ 17 → n = 0))
theorem chkE_num (l : List UInt8) : ∃ n : Nat, (chkE l).1 = (n : Int) ∧ n ≤ 100 := by
  unfold chkE
  split
  · exact ⟨1, rfl, by omega⟩
  · split
    · exact ⟨20, rfl, by omega⟩
    · split
      · exact ⟨21, rfl, by omega⟩
      · split
        · exact ⟨22, rfl, by omega⟩
        · exact ⟨0, rfl, by omega⟩
theorem nrmE_num (l : List UInt8) : ∃ n : Nat, nrmE l = (n : Int) ∧ n ≤ 100 := by
  unfold nrmE
  split
  · exact chkE_num l
  · split
    · exact ⟨21, rfl, by omega⟩
    · exact ⟨0, rfl, by omega⟩
/-- what is told of a text of a kind, but of days -/
def rdK (s : ByteArray) (k : Nat) : Rd := if k = 1 then (0, 0, s.data.toList, 0) else if k = 2 then rdInt s.data.toList else if k = 3 then rdCents s.data.toList else if k = 5 then rdCode s.data.toList else rdYes s.data.toList
theorem rdInt_no (T : List UInt8) : ∃ n : Nat, (rdInt T).2.2.2 = (n : Int) ∧ n ≤ 100 ∧ ((rdInt T).1 ≠ 16 → (rdInt T).1 ≠ 17 → n = 0) := ⟨0, by unfold rdInt; split <;> rfl, by omega, fun _ _ => rfl⟩
theorem rdCents_no (T : List UInt8) : ∃ n : Nat, (rdCents T).2.2.2 = (n : Int) ∧ n ≤ 100 ∧ ((rdCents T).1 ≠ 16 → (rdCents T).1 ≠ 17 → n = 0) := ⟨0, by unfold rdCents; split <;> rfl, by omega, fun _ _ => rfl⟩
theorem rdYes_no (T : List UInt8) : ∃ n : Nat, (rdYes T).2.2.2 = (n : Int) ∧ n ≤ 100 ∧ ((rdYes T).1 ≠ 16 → (rdYes T).1 ≠ 17 → n = 0) := by
  refine ⟨0, ?_, by omega, fun _ _ => rfl⟩
  unfold rdYes
  split
  · rfl
  · split <;> rfl
theorem rd_both (s : ByteArray) (k : Nat) (h1 : 1 ≤ k) (h6 : k ≤ 6) (hs : s.size ≤ 100000000) : ∃ r, RdBoth s k r ∧ (k ≠ 4 → r = rdK s k) := by
  have hk : k = 1 ∨ k = 2 ∨ k = 3 ∨ k = 4 ∨ k = 5 ∨ k = 6 := by omega
  rcases hk with rfl | rfl | rfl | rfl | rfl | rfl
  · exact ⟨_, ⟨fun A nm mu w hw h0 => typedCell1_any A _ s nm mu w h0 fun W hb => readText_any A s W hs, fun w => dtyped1_any s w, ⟨0, rfl, by omega, fun _ _ => rfl⟩⟩, fun _ => rfl⟩
  · exact ⟨_, ⟨fun A nm mu w hw h0 => typedCell2_any A _ s nm mu w h0 fun W hb => readInt_any A s W (by omega) (hw.sn.below hb) (hw.e1.below hb) (hw.e2.below hb), fun w => dtyped2_any s w (by omega), rdInt_no _⟩, fun _ => rfl⟩
  · exact ⟨_, ⟨fun A nm mu w hw h0 => typedCell3_any A _ s nm mu w h0 fun W hb => readCents_any A s W hs (hw.sn.below hb) (hw.e1.below hb) (hw.e2.below hb), fun w => dtyped3_any s w (by omega), rdCents_no _⟩, fun _ => rfl⟩
  · obtain ⟨y, m, d, e, p, hp1, hp2, he0, he1⟩ := reads_both s
    refine ⟨rdDate y m d e, ⟨fun A nm mu w hw h0 => typedCell4_any A _ s nm mu w h0 fun W hb => readDate_any A s y m d e p W (hw.sn.below hb) (hw.ah.below hb) hp1, fun w => dtyped4_any s y m d e p w hp2, ?_⟩, fun h => absurd rfl h⟩
    unfold rdDate
    split
    · exact ⟨0, rfl, by omega, fun _ _ => rfl⟩
    · exact ⟨e.toNat, by show e = _; omega, by omega, fun h _ => absurd rfl h⟩
  · refine ⟨_, ⟨fun A nm mu w hw h0 => typedCell5_any A _ s nm mu w h0 fun W hb => readCode_any A s W (by omega) (hw.sn.below hb), fun w => dtyped5_any s w (by omega), ?_⟩, fun _ => rfl⟩
    unfold rdCode
    split
    · exact ⟨0, rfl, by omega, fun _ _ => rfl⟩
    · obtain ⟨n, h1, h2⟩ := nrmE_num s.data.toList
      exact ⟨n, h1, h2, fun _ h => absurd rfl h⟩
  · exact ⟨_, ⟨fun A nm mu w hw h0 => typedCell6_any A _ s nm mu w h0 fun W hb => readYes_any A s W (hw.sn.below hb), fun w => dtyped6_any s w, rdYes_no _⟩, fun _ => rfl⟩
theorem OneP.uniq {H : List ByteArray} {x : ByteArray} {p q : Nat} (h : OneP H x p) (h' : OneP H x q) : p = q := by
  obtain ⟨hp, e, hn⟩ := h
  obtain ⟨hq, e', hn'⟩ := h'
  by_cases hpq : p = q
  · exact hpq
  · exact absurd e (hn' p hp hpq)
theorem OneP.no {H : List ByteArray} {x : ByteArray} {p : Nat} (h : OneP H x p) (h' : NoP H x) : False := h' p h.1 h.2.1
theorem OneP.two {H : List ByteArray} {x : ByteArray} {p q : Nat} (h : OneP H x p) (h' : TwoP H x q) : False := by
  obtain ⟨hp, e, hn⟩ := h
  obtain ⟨p', hlt, hq, e1, e2, _⟩ := h'
  by_cases e3 : q = p
  · exact hn p' (by omega) (by omega) e1
  · exact hn q hq e3 e2
theorem NoP.two {H : List ByteArray} {x : ByteArray} {q : Nat} (h : NoP H x) (h' : TwoP H x q) : False := by
  obtain ⟨p', hlt, hq, e1, e2, _⟩ := h'
  exact h q hq e2
theorem TwoP.uniq {H : List ByteArray} {x : ByteArray} {p q : Nat} (h : TwoP H x p) (h' : TwoP H x q) : p = q := by
  obtain ⟨a, ha, hp, e1, e2, hn⟩ := h
  obtain ⟨b, hb, hq, f1, f2, hm⟩ := h'
  have key : ∀ {a p b q : Nat} (ha : a < p) (hp : p < H.length) (hb : b < q) (hq : q < H.length), H[a] = x → H[p] = x → (∀ j (h : j < H.length), j < q → j ≠ b → H[j] ≠ x) → ¬ p < q := by
    intro a p b q ha hp hb hq e1 e2 hm hlt
    by_cases e : p = b
    · exact hm a (by omega) (by omega) (by omega) e1
    · exact hm p hp hlt e e2
  have k1 := key ha hp hb hq e1 e2 hm
  have k2 := key hb hq ha hp f1 f2 hn
  omega
theorem HdP.uniq {H : List ByteArray} {L : List Col} {ps ps' : List Nat} {c q c' q' : Nat} (h : HdP H L ps c q) (h' : HdP H L ps' c' q') : c = c' ∧ (c ≠ 0 → q = q') ∧ (c = 0 → ps = ps') := by
  rcases h with ⟨rfl, hl, hall⟩ | ⟨i, hi, hpre, hf⟩
  · rcases h' with ⟨rfl, hl', hall'⟩ | ⟨i', hi', hpre', hf'⟩
    · refine ⟨rfl, fun h => absurd rfl h, fun _ => List.ext_getElem (by omega) fun n h1 h2 => ?_⟩
      exact (hall n (by omega) h1).uniq (hall' n (by omega) h2)
    · have ho := hall i' hi' (by omega)
      rcases hf' with ⟨_, _, hn⟩ | ⟨_, ht⟩
      · exact absurd hn ho.no
      · exact absurd ht ho.two
  · rcases h' with ⟨rfl, hl', hall'⟩ | ⟨i', hi', hpre', hf'⟩
    · have ho := hall' i hi (by omega)
      rcases hf with ⟨_, _, hn⟩ | ⟨_, ht⟩
      · exact absurd hn ho.no
      · exact absurd ht ho.two
    · have hii : i = i' := by
        by_cases h1 : i < i'
        · obtain ⟨p, ho⟩ := hpre' i h1
          rcases hf with ⟨_, _, hn⟩ | ⟨_, ht⟩
          · exact absurd hn ho.no
          · exact absurd ht ho.two
        · by_cases h2 : i' < i
          · obtain ⟨p, ho⟩ := hpre i' h2
            rcases hf' with ⟨_, _, hn⟩ | ⟨_, ht⟩
            · exact absurd hn ho.no
            · exact absurd ht ho.two
          · omega
      subst hii
      rcases hf with ⟨rfl, rfl, hn⟩ | ⟨rfl, ht⟩
      · rcases hf' with ⟨rfl, rfl, _⟩ | ⟨_, ht'⟩
        · exact ⟨rfl, fun _ => rfl, fun h => by cases h⟩
        · exact absurd ht' hn.two
      · rcases hf' with ⟨_, _, hn'⟩ | ⟨rfl, ht'⟩
        · exact absurd ht hn'.two
        · exact ⟨rfl, fun _ => ht.uniq ht', fun h => by cases h⟩
end Go.Proofs.YtmgfdnccmeahjaaGreatDoor

namespace Go.Proofs.YtmgfdnccmeahjaaGreatDoor
open Go.RowKit
set_option maxRecDepth 100000
set_option linter.unusedVariables false
set_option linter.unusedSimpArgs false
variable {rf : ByteArray → Nat → Rd}

/-- a choice of what is told of each text of each kind -/
def RfOk (rf : ByteArray → Nat → Rd) : Prop := ∀ (s : ByteArray) (k : Nat), 1 ≤ k → k ≤ 6 → s.size ≤ 100000000 → RdBoth s k (rf s k) ∧ (k ≠ 4 → rf s k = rdK s k)
theorem rf_ex : ∃ rf, RfOk rf := by
  have h : ∀ x : ByteArray × Nat, ∃ r : Rd, 1 ≤ x.2 → x.2 ≤ 6 → x.1.size ≤ 100000000 → RdBoth x.1 x.2 r ∧ (x.2 ≠ 4 → r = rdK x.1 x.2) := by
    intro x
    by_cases hh : 1 ≤ x.2 ∧ x.2 ≤ 6 ∧ x.1.size ≤ 100000000
    · obtain ⟨r, hr⟩ := rd_both x.1 x.2 hh.1 hh.2.1 hh.2.2
      exact ⟨r, fun _ _ _ => hr⟩
    · exact ⟨(0, 0, [], 0), fun h1 h2 h3 => absurd ⟨h1, h2, h3⟩ hh⟩
  obtain ⟨f, hf⟩ := Classical.axiomOfChoice h
  exact ⟨fun s k => f (s, k), fun s k h1 h2 h3 => hf (s, k) h1 h2 h3⟩
/-- what is told of a text in a column: the cell's kind, and the rest -/
def cR (rf : ByteArray → Nat → Rd) (s : ByteArray) (c : Col) : Nat × Rd :=
  if s.data.toList = [] then (0, if c.mu then (13, 0, [], 0) else (0, 0, [], 0)) else (c.kd.toNat, rf s c.kd.toNat)
theorem typedCell_any (hrf : RfOk rf) (A : Nat → Addr) (s : ByteArray) (c : Col) (w : World) (hc : mbB c = true) (hs : s.size ≤ 100000000) (hw : RdW A w) :
    Calls Tryz.prog 81 #[.string s, .agg #[.string c.nm, .int .i64 c.kd, .bool c.mu]] w fun e w' => RdP A (cR rf s c).1 (cR rf s c).2 w w' e ∧ Below w.heap.size w w' := by
  obtain ⟨nm, kd, mu⟩ := c
  have hk : 1 ≤ kd ∧ kd ≤ 6 := by
    unfold mbB at hc
    simp only [Bool.and_eq_true, decide_eq_true_eq] at hc
    exact ⟨hc.1.2, hc.2⟩
  unfold cR
  by_cases h0 : s.data.toList = []
  · rw [if_pos h0]
    exact typedEmpty_any A s nm kd mu w h0 hw.sn
  · rw [if_neg h0]
    have hkn : ((kd.toNat : Nat) : Int) = kd := by omega
    have h := (hrf s kd.toNat (by omega) (by omega) hs).1.1 A nm mu w hw h0
    rw [hkn] at h
    exact h
/-- the other layer's number -/
theorem cR_num (hrf : RfOk rf) (s : ByteArray) (c : Col) (hc : mbB c = true) (hs : s.size ≤ 100000000) : ∃ n : Nat, (cR rf s c).2.2.2.2 = (n : Int) ∧ n ≤ 100 ∧ ((cR rf s c).2.1 ≠ 16 → (cR rf s c).2.1 ≠ 17 → n = 0) := by
  obtain ⟨nm, kd, mu⟩ := c
  have hk : 1 ≤ kd ∧ kd ≤ 6 := by
    unfold mbB at hc
    simp only [Bool.and_eq_true, decide_eq_true_eq] at hc
    exact ⟨hc.1.2, hc.2⟩
  unfold cR
  by_cases h0 : s.data.toList = []
  · rw [if_pos h0]
    exact ⟨0, by cases mu <;> rfl, by omega, fun _ _ => rfl⟩
  · rw [if_neg h0]
    exact (hrf s kd.toNat (by omega) (by omega) hs).1.2.2
/-- an error's value for a reader's fault -/
def ErrV (A : Nat → Addr) (r : Rd) (w w' : World) (ev : Value) : Prop :=
  ((r.1 = 13 ∨ r.1 = 14 ∨ r.1 = 15 ∨ r.1 = 18) ∧ ev = erV A r.1) ∨
  ((r.1 = 16 ∨ r.1 = 17) ∧ ∃ q, ev = .iface 54 (.pointer (some ⟨q, 0, none⟩)) ∧ w.heap.size ≤ q ∧ w'.heap[q]? = some (.cells #[erV A r.1, .int .i64 r.2.2.2] 58 (0, 0)))
theorem ErrV.later {A : Nat → Addr} {r : Rd} {w w1 w2 : World} {ev : Value} (h : ErrV A r w w1 ev) (hb : Below w1.heap.size w1 w2) : ErrV A r w w2 ev := by
  rcases h with h | ⟨h1, q, h2, h3, h4⟩
  · exact .inl h
  · exact .inr ⟨h1, q, h2, h3, (hb.block _ (Array.getElem?_eq_some_iff.1 h4).1).trans h4⟩
theorem ErrV.early {A : Nat → Addr} {r : Rd} {w w0 w1 : World} {ev : Value} (h : ErrV A r w w1 ev) (hs : w0.heap.size ≤ w.heap.size) : ErrV A r w0 w1 ev := by
  rcases h with h | ⟨h1, q, h2, h3, h4⟩
  · exact .inl h
  · exact .inr ⟨h1, q, h2, Nat.le_trans hs h3, h4⟩
/-- an error's value is one of two forms, and never nil -/
theorem ErrV.form {A : Nat → Addr} {r : Rd} {w w' : World} {ev : Value} (h : ErrV A r w w' ev) : ∃ t p, ev = .iface t (.pointer (some p)) := by
  rcases h with ⟨h1, rfl⟩ | ⟨h1, q, rfl, _⟩
  · exact ⟨_, _, erV_pos A (by omega)⟩
  · exact ⟨_, _, rfl⟩
/-- a cell as three cells -/
def clV (x : Nat × Rd) : List Value := [.int .i64 (x.1 : Int), .string ⟨x.2.2.2.1.toArray⟩, .int .i64 x.2.2.1]
/-- what a reader tells, parted: a cell, or a fault -/
theorem RdP.parts {A : Nat → Addr} {k : Nat} {r : Rd} {w w' : World} {e : Ending} (h : RdP A k r w w' e) :
    (r.1 = 0 ∧ e = .returned (.tuple #[.agg (clV (k, r)).toArray, .nilIface])) ∨ (r.1 ≠ 0 ∧ ∃ ev, e = .returned (.tuple #[.agg #[.int .i64 0, .string ⟨#[]⟩, .int .i64 0], ev]) ∧ ErrV A r w w' ev) := by
  rcases h with ⟨h1, t, ht, rfl⟩ | ⟨h1, rfl⟩ | ⟨h1, q, rfl, h2, h3⟩
  · refine .inl ⟨h1, ?_⟩
    have : (⟨r.2.2.1.toArray⟩ : ByteArray) = t := by rw [← ht]
    unfold clV cellV
    simp only [this]
  · exact .inr ⟨by omega, _, rfl, .inl ⟨h1, rfl⟩⟩
  · exact .inr ⟨by omega, _, rfl, .inr ⟨h1, q, rfl, h2, h3⟩⟩
/-- a slice reads as these numbers -/
def IP (w : World) (v : Value) (L : List Nat) : Prop :=
  ∃ ao cap, v = .slice ao L.length cap ∧ L.length ≤ cap ∧ cap ≤ 9223372036854775807 ∧ ∀ j (hj : j < L.length), ∃ b off, ao = some ⟨b, off, none⟩ ∧ w.cell? ⟨b, off + j, none⟩ = some (.int .i64 (L[j] : Int))
theorem IP.below {w w' : World} {v : Value} {L : List Nat} (h : IP w v L) (hb : Below w.heap.size w w') : IP w' v L := by
  obtain ⟨ao, cap, h1, h2, h3, h4⟩ := h
  exact ⟨ao, cap, h1, h2, h3, fun j hj => by
    obtain ⟨b, off, h5, h6⟩ := h4 j hj
    exact ⟨b, off, h5, cellB hb h6⟩⟩
theorem IP.at {w : World} {v : Value} {L : List Nat} (h : IP w v L) (j : Nat) (hj : j < L.length) : ∃ b off cap, v = .slice (some ⟨b, off, none⟩) L.length cap ∧ w.cell? ⟨b, off + j, none⟩ = some (.int .i64 (L[j] : Int)) := by
  obtain ⟨ao, cap, h1, h2, h3, h4⟩ := h
  obtain ⟨b, off, rfl, h6⟩ := h4 j hj
  exact ⟨b, off, cap, h1, h6⟩
theorem OP.reads {w : World} {base : Nat} {v : Value} {L : List Nat} (h : OP w base v L) : IP w v L := by
  have hc := fun g hg => World.ownsRow.cells h (g := g) hg
  rcases h.2 with ⟨rfl, h0⟩ | ⟨g, cap, cur, rfl, _, _, hcap, hm, _⟩
  · exact ⟨none, 0, by rw [h0], by omega, by omega, fun j hj => by omega⟩
  · refine ⟨_, cap, rfl, hcap, hm, fun j hj => ⟨g, 0, rfl, ?_⟩⟩
    have := hc g rfl j (.int .i64 (L[j] : Int)) (by simp [pc, hj])
    rw [Addr.add_lit] at this
    exact this
end Go.Proofs.YtmgfdnccmeahjaaGreatDoor
