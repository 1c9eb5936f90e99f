/-
  Sheets: rows that are lent, and kept.
-/
import Derived.Test.YtedgdgaobgkffaaGreatDoorLnt
namespace Go.Proofs.YtedgdgaobgkffaaGreatDoor
open Go.RowKit
set_option maxRecDepth 100000
set_option linter.unusedVariables false
set_option linter.unusedSimpArgs false

/-- a row's texts -/
def tb (T : List (List UInt8)) : List ByteArray := T.map fun l => ⟨l.toArray⟩
theorem tb_len (T : List (List UInt8)) : (tb T).length = T.length := by simp [tb]
/-- rows that came in: each row's slice reads as its texts -/
def Rz (w : World) (v : Value) (R : List (List (List UInt8))) : Prop := ∃ ao cap, v = .slice ao R.length cap ∧ R.length ≤ cap ∧ cap ≤ 9223372036854775807 ∧ ∀ i (hi : i < R.length), ∃ g off u, ao = some ⟨g, off, none⟩ ∧ w.cell? ⟨g, off + i, none⟩ = some u ∧ RT w u (tb R[i])
theorem Rz.below {w w' : World} {v : Value} {R : List (List (List UInt8))} (h : Rz w v R) (hb : Below w.heap.size w w') : Rz w' v R := by
  obtain ⟨ao, cap, h1, h2, h3, h4⟩ := h
  refine ⟨ao, cap, h1, h2, h3, fun i hi => ?_⟩
  obtain ⟨g, off, u, a1, a2, a3⟩ := h4 i hi
  exact ⟨g, off, u, a1, below_cells hb _ _ a2, a3.below hb⟩
theorem Rz.form {w : World} {v : Value} {R : List (List (List UInt8))} (h : Rz w v R) : ∃ ao cap, v = .slice ao R.length cap := by
  obtain ⟨ao, cap, h1, _⟩ := h
  exact ⟨ao, cap, h1⟩
theorem Rz.at {w : World} {ao : Option Addr} {n cap : Nat} {R : List (List (List UInt8))} (h : Rz w (.slice ao n cap) R) (i : Nat) (hi : i < R.length) : ∃ g off u, ao = some ⟨g, off, none⟩ ∧ R.length ≤ cap ∧ w.cell? ⟨g, off + i, none⟩ = some u ∧ RT w u (tb R[i]) := by
  obtain ⟨ao', cap', e, h2, h3, h4⟩ := h
  injection e with e1 _ e3
  subst e1 e3
  obtain ⟨g, off, u, a1, a2, a3⟩ := h4 i hi
  exact ⟨g, off, u, a1, h2, a2, a3⟩
theorem LT.tx {w : World} {v : Value} {T : List (List UInt8)} (h : LT w v (tb T)) : Tx w v T := by
  obtain ⟨b, cap, rfl, h1, h2, hc⟩ := h
  rw [tb_len] at h1
  refine ⟨_, cap, by rw [tb_len], by omega, h2, fun j hj => ⟨b, 0, rfl, ?_⟩⟩
  have := hc j (by rw [List.length_append, tb_len]; omega)
  rw [List.getElem_append_left (by rw [tb_len]; exact hj)] at this
  rw [Nat.zero_add]
  simpa [tb] using this
/-- a block whose first cell is a slice turns: lent texts stay -/
theorem LT.keep {w w' : World} {v : Value} {L : List ByteArray} {o : Option Nat} (h : LT w v L) (hg : w.grownBy w' o) (hs : ∀ g, o = some g → ∃ a n c, w.cell? ⟨g, 0, none⟩ = some (.slice a n c)) : LT w' v L := by
  obtain ⟨b, cap, rfl, h1, h2, hc⟩ := h
  refine ⟨b, cap, rfl, h1, h2, fun j hj => ?_⟩
  have h0 := hc 0 (by rw [List.length_append, mkT_len]; omega)
  have hne : some b ≠ o := by
    intro e
    obtain ⟨a, n, c, hh⟩ := hs b e.symm
    rw [h0] at hh
    cases hh
  have hk := hg.block b (World.block_lt_of_cell? _ _ h0) hne
  have := hc j hj
  simpa only [World.cell?, hk] using this
/-- a row with a note alone -/
def MK (w : World) (u : Value) (k : Nat) : Prop := ∃ b cap, u = .slice (some ⟨b, 0, none⟩) 1 cap ∧ 1 ≤ cap ∧ w.cell? ⟨b, 0, none⟩ = some (.string (ntB k))
theorem MK.below {w w' : World} {u : Value} {k : Nat} (h : MK w u k) (hb : Below w.heap.size w w') : MK w' u k := by
  obtain ⟨b, cap, h1, h2, h3⟩ := h
  exact ⟨b, cap, h1, h2, below_cells hb _ _ h3⟩
theorem MK.keep {w w' : World} {u : Value} {k : Nat} {o : Option Nat} (h : MK w u k) (hg : w.grownBy w' o) (hs : ∀ g, o = some g → ∃ a n c, w.cell? ⟨g, 0, none⟩ = some (.slice a n c)) : MK w' u k := by
  obtain ⟨b, cap, h1, h2, h0⟩ := h
  refine ⟨b, cap, h1, h2, ?_⟩
  have hne : some b ≠ o := by
    intro e
    obtain ⟨a, n, c, hh⟩ := hs b e.symm
    rw [h0] at hh
    cases hh
  have hk := hg.block b (World.block_lt_of_cell? _ _ h0) hne
  simpa only [World.cell?, hk] using h0
/-- rows being lent: the lent ones, then so many notes -/
structure LG (w : World) (B : Nat) (v : Value) (V : List Value) (R : List (List (List UInt8))) (i k : Nat) : Prop where
  own : w.ownsRow B 49 1 v V.length V
  len : V.length = i + k
  le : i ≤ R.length
  row : ∀ j (h1 : j < i) (h2 : j < V.length) (h3 : j < R.length), LT w V[j] (tb R[j])
  nts : ∀ j (h1 : j < k) (h2 : i + j < V.length), MK w V[i + j] j
  nl : V = [] → v.ownBlock = none
theorem LG.sl {w : World} {B : Nat} {v : Value} {V : List Value} {R : List (List (List UInt8))} {i k : Nat} (h : LG w B v V R i k) : ∀ u ∈ V, ∃ a n c, u = .slice a n c := by
  intro u hu
  obtain ⟨j, hj, rfl⟩ := List.mem_iff_getElem.1 hu
  have hl := h.len
  by_cases hji : j < i
  · obtain ⟨b, cap, e, _⟩ := h.row j hji hj (by have := h.le; omega)
    exact ⟨_, _, _, e⟩
  · obtain ⟨b, cap, e, _⟩ := h.nts (j - i) (by omega) (by omega)
    have : i + (j - i) = j := by omega
    simp only [this] at e
    exact ⟨_, _, _, e⟩
theorem LG.top {w : World} {B : Nat} {v : Value} {V : List Value} {R : List (List (List UInt8))} {i k : Nat} (h : LG w B v V R i k) : ∀ g, v.ownBlock = some g → V ≠ [] → ∃ a n c, w.cell? ⟨g, 0, none⟩ = some (.slice a n c) := by
  intro g hg hne
  have hc := World.ownsRow.cells h.own (g := g) hg
  have hp : 0 < V.length := List.length_pos_iff.2 hne
  obtain ⟨a, n, c, e⟩ := h.sl V[0] (List.getElem_mem hp)
  have := hc 0 V[0] (by simp)
  rw [Addr.add_lit, e] at this
  exact ⟨a, n, c, this⟩
theorem LG.big {w w' : World} {B : Nat} {v : Value} {V : List Value} {R : List (List (List UInt8))} {i k : Nat} (h : LG w B v V R i k) (hb : Below w.heap.size w w') : LG w' B v V R i k :=
  ⟨own_of h.own fun g hg => hb.block g (World.ownsRow.lt h.own g hg).2, h.len, h.le, fun j a b c => (h.row j a b c).below hb, fun j a b => (h.nts j a b).below hb, h.nl⟩
/-- an append to it: what lies elsewhere stays -/
theorem LG.away {w w' : World} {B : Nat} {v : Value} {V : List Value} {R : List (List (List UInt8))} {i k : Nat} (h : LG w B v V R i k) (hg : w.grownBy w' v.ownBlock) : (∀ j (h1 : j < i) (h2 : j < V.length) (h3 : j < R.length), LT w' V[j] (tb R[j])) ∧ (∀ j (h1 : j < k) (h2 : i + j < V.length), MK w' V[i + j] j) := by
  have hs : V ≠ [] → ∀ g, v.ownBlock = some g → ∃ a n c, w.cell? ⟨g, 0, none⟩ = some (.slice a n c) := fun hne g hgg => h.top g hgg hne
  exact ⟨fun j a b c => (h.row j a b c).keep hg (hs (List.ne_nil_of_length_pos (by omega))), fun j a b => (h.nts j a b).keep hg (hs (List.ne_nil_of_length_pos (by omega)))⟩
theorem LG.hs {w : World} {B : Nat} {v : Value} {V : List Value} {R : List (List (List UInt8))} {i k : Nat} (h : LG w B v V R i k) : ∀ g, v.ownBlock = some g → ∃ a n c, w.cell? ⟨g, 0, none⟩ = some (.slice a n c) := by
  intro g hg
  by_cases hV : V = []
  · rw [h.nl hV] at hg; cases hg
  · exact h.top g hg hV
theorem LG.row1 {w w2 : World} {B : Nat} {v v2 x : Value} {V : List Value} {R : List (List (List UInt8))} {i : Nat} (h : LG w B v V R i 0) (hi : i < R.length) (hx : LT w x (tb R[i])) (hg : w.grownBy w2 v.ownBlock) (ho : w2.ownsRow B 49 1 v2 (V.length + 1) (V ++ [x])) : LG w2 B v2 (V ++ [x]) R (i + 1) 0 := by
  have hl := h.len
  have hx2 := hx.keep hg h.hs
  refine ⟨by rw [List.length_append]; exact ho, by simp; omega, hi, fun j h1 h2 h3 => ?_, fun j h1 => absurd h1 (Nat.not_lt_zero _), fun e => by simp at e⟩
  by_cases hj : j < V.length
  · rw [List.getElem_append_left hj]
    exact (h.away hg).1 j (by omega) hj h3
  · have e : j = i := by omega
    subst e
    have : (V ++ [x])[j] = x := by rw [List.getElem_append_right (by omega)]; simp
    rw [this]
    exact hx2
theorem LG.note1 {w w2 : World} {B : Nat} {v v2 x : Value} {V : List Value} {R : List (List (List UInt8))} {i k : Nat} (h : LG w B v V R i k) (hx : MK w x k) (hg : w.grownBy w2 v.ownBlock) (ho : w2.ownsRow B 49 1 v2 (V.length + 1) (V ++ [x])) : LG w2 B v2 (V ++ [x]) R i (k + 1) := by
  have hl := h.len
  have hx2 := hx.keep hg h.hs
  refine ⟨by rw [List.length_append]; exact ho, by simp; omega, h.le, fun j h1 h2 h3 => ?_, fun j h1 h2 => ?_, fun e => by simp at e⟩
  · rw [List.getElem_append_left (by omega)]
    exact (h.away hg).1 j h1 (by omega) h3
  · by_cases hj : j < k
    · rw [List.getElem_append_left (by omega)]
      exact (h.away hg).2 j hj (by omega)
    · have e : j = k := by omega
      subst e
      have : (V ++ [x])[i + j] = x := by rw [List.getElem_append_right (by omega)]; simp [hl]
      rw [this]
      exact hx2
/-- append of a row, kept whole -/
def appR (a : Array Value) : Sem Value := Builtin.append_ #[22, 22] 22 a
theorem appR_op (a : Array Value) : Builtin.append_ #[22, 22] 22 a = appR a := rfl
/-- its equation, for a new block with one row -/
theorem run_appR {w : World} {B n : Nat} {v x : Value} {V : List Value} (h : w.ownsRow B 49 1 v n V) (hx : x.oneCell' = true) (hn : n ≤ 5864062014700) (hB : B ≤ w.heap.size) :
    ∃ v2 w2, (appR #[v, .slice (some ⟨w.heap.size, 0, none⟩) 1 1]).run Tryz.prog (w.alloc (.cells #[x] 49)) = .ok v2 w2 ∧ w2.ownsRow B 49 1 v2 (n + 1) (V ++ [x]) ∧ (w.alloc (.cells #[x] 49)).grownBy w2 v.ownBlock := by
  have hnew := heap_alloc_new w (.cells #[x] 49)
  obtain ⟨v2, w2, hr2, hown3, hgr2, _, _⟩ := run_append_own_at (P := Tryz.prog) (w.alloc (.cells #[x] 49)) B 22 22 49 (info_parts ssi).choose (.slice none 0 0) 1 24 Tryz.underlying22 (info_parts ssi).choose_spec.1 (info_parts ssi).choose_spec.2.1 (info_parts ssi).choose_spec.2.2.1 (info_parts ssi).choose_spec.2.2.2 rfl (by decide) _ _ _ (h.alloc _) ⟨w.heap.size, 0, none⟩ 1 1 [x] rfl (by
    intro j u hj
    match j, hj with
    | 0, hj => simp at hj; subst hj; rw [Addr.add_lit, Lib.cell_of_heap hnew]; rfl) (by intro u hu; simp at hu; subst hu; exact hx) (by unfold maxLen; omega) (by omega) (by simp; omega)
  exact ⟨v2, w2, hr2, hown3, hgr2⟩
/-- what LentRows answers -/
def LrA (w : World) (R : List (List (List UInt8))) (e : Ending) (w' : World) : Prop := ∃ g cap V, e = .returned (.slice (some ⟨g, 0, none⟩) R.length cap) ∧ R.length + 9 ≤ cap ∧ cap ≤ 9223372036854775807 ∧ LG w' w.heap.size (.slice (some ⟨g, 0, none⟩) (R.length + 9) cap) V R R.length 9 ∧ Below w.heap.size w w'
attribute [local go_sem ↓] appR_op
set_option maxHeartbeats 4000000 in
theorem lentRows_any (v : Value) (R : List (List (List UInt8))) (w : World) (hr : Rz w v R) (hl : R.length ≤ 5864062014634) (hrow : ∀ cs ∈ R, cs.length ≤ 8796093021952) :
    Calls Tryz.prog 5 #[v] w fun e w' => LrA w R e w' := by
  have HR := hid hr
  have HRo := hid hrow
  obtain ⟨ra, rc, rfl⟩ := hr.form
  have HNt := hid (fun k hk w => note_any k hk w)
  clear hr hrow
  go_enter Tryz.func5, Tryz.ntmps5
  go_wp2_with fail
  go_loopw [3, 4] (fun ov j wr => ∃ (i : Nat) (V : List Value), i ≤ R.length ∧ j = .int .i64 (i : Int) ∧ LG wr w.heap.size ov V R i 0 ∧ Below w.heap.size w wr) (fun _ j _ => R.length - (intOf j).toNat)
  case atStart => exact ⟨0, [], Nat.zero_le _, rfl, ⟨World.ownsRow_nil _ _ _ _, rfl, Nat.zero_le _, fun j h => absurd h (Nat.not_lt_zero _), fun j h => absurd h (Nat.not_lt_zero _), fun _ => rfl⟩, Below.refl _ _⟩
  case round =>
    obtain ⟨i, V, hi, rfl, hlg, hbl⟩ := hrel
    obtain ⟨oa, oc, rfl⟩ := own_slice hlg.own
    have hVb : V.length ≤ 5864062014634 := by have := hlg.len; omega
    have HV := hid hlg.len
    have HL := hid hlg
    have HB := hid hbl
    by_cases hlt : i < R.length
    · have hI : (i : Int) < (R.length : Int) := by omega
      obtain ⟨g, off, u, rfl, hcap, c0, rt⟩ := (HR.out.below hbl).at i hlt
      have HLn := hid (lentTexts_any u (tb (R[i]'hlt)) wr rt (by rw [tb_len]; exact HRo.out _ (List.getElem_mem hlt)))
      obtain ⟨ua, uc, hu⟩ := rt.form
      subst hu
      clear rt hlg hbl
      go_wp2_with fail
      refine Calls.mono HLn.out ?_
      rintro e w1 ⟨⟨lv, rfl, hlt1⟩, hb1⟩
      have hL1 := HL.out.big hb1
      have hB1 := HB.out.trans (hb1.mono HB.out.size)
      have hlv : ∃ lb ln lc, lv = .slice (some ⟨lb, 0, none⟩) ln lc := by obtain ⟨lb, lc, e, _⟩ := hlt1; exact ⟨lb, _, lc, e⟩
      obtain ⟨lb, ln, lc, rfl⟩ := hlv
      obtain ⟨v2, w2, hr2, hown2, hgr2⟩ := run_appR (x := .slice (some ⟨lb, 0, none⟩) ln lc) hL1.own rfl (by omega) hB1.size
      have ba : Below w1.heap.size w1 (w1.alloc (.cells #[.slice (some ⟨lb, 0, none⟩) ln lc] 49)) := (Below.refl _ _).alloc (Nat.le_refl _) _
      have HL2 := hid (LG.row1 (hL1.big ba) hlt (hlt1.below ba) hgr2 hown2)
      have HB2 := hid ((hB1.alloc hB1.size _).grown hgr2 (by simp; have := hB1.size; omega) (fun k hk => (World.ownsRow.lt hL1.own k hk).1))
      obtain ⟨xa, xc, rfl⟩ := own_slice hown2
      clear hL1 hB1 hown2 hgr2 ba hb1 hlt1
      go_wp2
      go_roundw
      case rel => exact ⟨i + 1, _, by omega, by go_num, HL2.out, HB2.out⟩
      case measure => simp [intOf]; omega
    · have hI : ¬ (i : Int) < (R.length : Int) := by omega
      have hie : i = R.length := by omega
      have HL0 := hid (show LG wr w.heap.size (.slice oa V.length oc) V R R.length 0 by rw [← hie]; exact HL.out)
      clear hie hlg hbl HL
      go_wp2_with fail
      go_loopw [3, 5] (fun ov j wr2 => ∃ (k : Nat) (V2 : List Value), k ≤ 9 ∧ j = .int .i64 (k : Int) ∧ LG wr2 w.heap.size ov V2 R R.length k ∧ Below w.heap.size w wr2) (fun _ j _ => 9 - (intOf j).toNat)
      case atStart => exact ⟨0, V, by omega, rfl, HL0.out, HB.out⟩
      case round =>
        obtain ⟨k, V2, hk, rfl, hlg2, hbl2⟩ := hrel
        obtain ⟨oa2, oc2, rfl⟩ := own_slice hlg2.own
        have hV2 := hlg2.len
        by_cases hk9 : k < 9
        · have hK : (k : Int) < 9 := by omega
          have HLk := hid hlg2
          have HBk := hid hbl2
          have HVk := hid hV2
          clear hlg2 hbl2 hV2
          go_wp2_with fail
          refine Calls.mono (HNt.out k hk9 _) ?_
          rintro e w1 ⟨rfl, hb1⟩
          have hL1 := HLk.out.big hb1
          have hB1 := HBk.out.trans (hb1.mono HBk.out.size)
          have ba : Below w1.heap.size w1 (w1.alloc (.cells #[.string (ntB k)] 9)) := (Below.refl _ _).alloc (Nat.le_refl _) _
          have hm0 : MK (w1.alloc (.cells #[.string (ntB k)] 9)) (.slice (some ⟨w1.heap.size, 0, none⟩) 1 1) k := ⟨_, 1, rfl, Nat.le_refl _, by simp⟩
          have hB2 := hB1.trans (ba.mono hB1.size)
          have hz : (w1.alloc (.cells #[.string (ntB k)] 9)).heap.size = w1.heap.size + 1 := by simp
          obtain ⟨v2, w2, hr2, hown2, hgr2⟩ := run_appR (x := .slice (some ⟨w1.heap.size, 0, none⟩) 1 1) (hL1.big ba).own rfl (by have := HVk.out; omega) hB2.size
          rw [hz] at hr2
          have bb : Below (w1.alloc (.cells #[.string (ntB k)] 9)).heap.size (w1.alloc (.cells #[.string (ntB k)] 9)) ((w1.alloc (.cells #[.string (ntB k)] 9)).alloc (.cells #[.slice (some ⟨w1.heap.size, 0, none⟩) 1 1] 49)) := (Below.refl _ _).alloc (Nat.le_refl _) _
          have HL2 := hid (LG.note1 ((hL1.big ba).big bb) (hm0.below bb) hgr2 hown2)
          have HB2 := hid ((hB2.alloc hB2.size _).grown hgr2 (by have := hB2.size; simp; omega) (fun k hk => (World.ownsRow.lt (hL1.big ba).own k hk).1))
          obtain ⟨xa, xc, rfl⟩ := own_slice hown2
          clear hL1 hB1 hown2 hgr2 ba bb hb1 hm0 hB2 hz
          go_wp2
          go_roundw
          case rel => exact ⟨k + 1, _, by omega, by go_num, HL2.out, HB2.out⟩
          case measure => simp [intOf]; omega
        · have hK : ¬ (k : Int) < 9 := by omega
          have hke : k = 9 := by omega
          subst hke
          have hc : ∃ g, oa2 = some ⟨g, 0, none⟩ ∧ R.length + 9 ≤ oc2 ∧ oc2 ≤ 9223372036854775807 := by
            rcases hlg2.own.2 with ⟨_, h0⟩ | ⟨g, cap, cur, e, _, _, h4, h5, _⟩
            · omega
            · injection e with e1 _ e3
              exact ⟨g, e1, by omega, by unfold maxLen at h5; omega⟩
          obtain ⟨g, rfl, hc1, hc2⟩ := hc
          rw [hV2] at hlg2
          have HLk := hid hlg2
          have HBk := hid hbl2
          have hI1 : (R.length : Int) ≤ (oc2 : Int) := by omega
          have hI0 : (0 : Int) ≤ (R.length : Int) := by omega
          clear hlg2 hbl2 hV2
          go_wp2
          go_ret
          unfold LrA
          exact ⟨_, _, _, rfl, hc1, hc2, HLk.out, HBk.out⟩
end Go.Proofs.YtedgdgaobgkffaaGreatDoor
