/-
  Lnc: Sheets: columns that are lent, and kept.
-/
import Derived.Test.YtmgfdnccmeahjaaGreatDoorZN
import Derived.Deep.QuietTactic
import Derived.BigQuiet
namespace Go.Proofs.YtmgfdnccmeahjaaGreatDoor
open Go.RowKit
set_option maxRecDepth 100000
set_option linter.unusedVariables false
set_option linter.unusedSimpArgs false

theorem coinfo : (Tryz.prog.info? 31).map (fun i => (i.zero, i.size, i.bytes)) = some (some (.agg #[.string ⟨#[]⟩, .int .i64 0, .bool false]), 3, 32) := by kernel_rfl
/-- columns as cells -/
def coV (c : Col) : List Value := [.string c.nm, .int .i64 c.kd, .bool c.mu]
def coL (L : List Col) : List Value := L.flatMap coV
theorem coL_len (L : List Col) : (coL L).length = L.length * 3 := by
  induction L with
  | nil => rfl
  | cons x r ih => unfold coL at *; rw [List.flatMap_cons, List.length_append, ih, List.length_cons]; simp [coV]; omega
theorem coL_app (L M : List Col) : coL (L ++ M) = coL L ++ coL M := by unfold coL; rw [List.flatMap_append]
theorem coV_one (x : Col) : ∀ u ∈ coV x, u.oneCell' = true := by
  intro u hu
  simp only [coV, List.mem_cons, List.not_mem_nil, or_false] at hu
  rcases hu with rfl | rfl | rfl <;> rfl
theorem coL_one (L : List Col) : ∀ u ∈ coL L, u.oneCell' = true := by
  intro u hu
  obtain ⟨x, _, hx⟩ := List.mem_flatMap.1 hu
  exact coV_one x u hx
theorem coL_at {L : List Col} {j : Nat} (hj : j < L.length) : (coL L)[j * 3]? = some (.string L[j].nm) ∧ (coL L)[j * 3 + 1]? = some (.int .i64 L[j].kd) ∧ (coL L)[j * 3 + 2]? = some (.bool L[j].mu) := by
  induction L generalizing j with
  | nil => simp at hj
  | cons x r ih =>
    have e : coL (x :: r) = coV x ++ coL r := by unfold coL; rw [List.flatMap_cons]
    have hl : (coV x).length = 3 := rfl
    cases j with
    | zero => rw [e]; exact ⟨rfl, rfl, rfl⟩
    | succ j =>
      have := ih (j := j) (by simpa using hj)
      rw [e, show (j + 1) * 3 = 3 + j * 3 by omega]
      refine ⟨?_, ?_, ?_⟩
      · rw [List.getElem?_append_right (by rw [hl]; omega), hl, show 3 + j * 3 - 3 = j * 3 by omega]; exact this.1
      · rw [List.getElem?_append_right (by rw [hl]; omega), hl, show 3 + j * 3 + 1 - 3 = j * 3 + 1 by omega]; exact this.2.1
      · rw [List.getElem?_append_right (by rw [hl]; omega), hl, show 3 + j * 3 + 2 - 3 = j * 3 + 2 by omega]; exact this.2.2
theorem coL_cells {w : World} {b off : Nat} {L : List Col} (h : ∀ j (hj : j < L.length), w.cell? ⟨b, off + j * 3, none⟩ = some (.string L[j].nm) ∧ w.cell? ⟨b, off + j * 3 + 1, none⟩ = some (.int .i64 L[j].kd) ∧ w.cell? ⟨b, off + j * 3 + 2, none⟩ = some (.bool L[j].mu)) :
    ∀ j u, (coL L)[j]? = some u → w.cell? ((⟨b, off, none⟩ : Addr).add j) = some u := by
  intro j u hj
  have hlt : j < L.length * 3 := by rw [← coL_len]; exact (List.getElem?_eq_some_iff.1 hj).1
  have hd : j / 3 < L.length := by omega
  have hc := h (j / 3) hd
  have ha := coL_at hd
  rw [Addr.add_lit]
  have hm : j % 3 = 0 ∨ j % 3 = 1 ∨ j % 3 = 2 := by omega
  rcases hm with e | e | e
  · have ej : j = j / 3 * 3 := by omega
    rw [ej] at hj ⊢
    rw [ha.1] at hj
    rw [← Option.some.inj hj]; exact hc.1
  · have ej : j = j / 3 * 3 + 1 := by omega
    rw [ej] at hj ⊢
    rw [ha.2.1] at hj
    rw [← Option.some.inj hj, show off + (j / 3 * 3 + 1) = off + j / 3 * 3 + 1 by omega]; exact hc.2.1
  · have ej : j = j / 3 * 3 + 2 := by omega
    rw [ej] at hj ⊢
    rw [ha.2.2] at hj
    rw [← Option.some.inj hj, show off + (j / 3 * 3 + 2) = off + j / 3 * 3 + 2 by omega]; exact hc.2.2
def mkC : Col := ⟨⟨#[109, 97, 114, 107]⟩, 77, false⟩
/-- lent columns: in a block of one's own, a mark behind them -/
def LC (w : World) (B : Nat) (v : Value) (L : List Col) : Prop :=
  ∃ g cap, v = .slice (some ⟨g, 0, none⟩) L.length cap ∧ L.length + 1 ≤ cap ∧ cap ≤ 9223372036854775807 ∧ B ≤ g ∧ ∀ j (hj : j < (L ++ [mkC]).length), w.cell? ⟨g, 0 + j * 3, none⟩ = some (.string (L ++ [mkC])[j].nm) ∧ w.cell? ⟨g, 0 + j * 3 + 1, none⟩ = some (.int .i64 (L ++ [mkC])[j].kd) ∧ w.cell? ⟨g, 0 + j * 3 + 2, none⟩ = some (.bool (L ++ [mkC])[j].mu)
theorem LC.below {w w' : World} {B : Nat} {v : Value} {L : List Col} (h : LC w B v L) (hb : Below w.heap.size w w') : LC w' B v L := by
  obtain ⟨g, cap, h1, h2, h3, h4, h5⟩ := h
  exact ⟨g, cap, h1, h2, h3, h4, fun j hj => ⟨below_cells hb _ _ (h5 j hj).1, below_cells hb _ _ (h5 j hj).2.1, below_cells hb _ _ (h5 j hj).2.2⟩⟩
theorem LC.rc {w : World} {B : Nat} {v : Value} {L : List Col} (h : LC w B v L) : RC w v L := by
  obtain ⟨g, cap, h1, h2, h3, h4, h5⟩ := h
  refine .inr ⟨g, 0, cap, h1, ⟨by omega, h3⟩, fun j hj => ?_⟩
  have := h5 j (by simp; omega)
  rw [List.getElem_append_left hj] at this
  exact this
theorem LC.of_own {w : World} {B n : Nat} {a : Option Addr} {cap : Nat} {L : List Col} (h : w.ownsRow B 31 3 (.slice a n cap) (L.length + 1) (coL (L ++ [mkC]))) : n = L.length + 1 ∧ L.length + 1 ≤ cap ∧ LC w B (.slice a L.length cap) L := by
  have hc := fun g hg => World.ownsRow.cells h (g := g) hg
  rcases h.2 with ⟨e, h0⟩ | ⟨g, cap', cur, e, hg, _, hcap, hm, _⟩
  · omega
  · cases e
    refine ⟨rfl, hcap, g, cap, rfl, hcap, hm, hg, fun j hj => ?_⟩
    have h3 := coL_at hj
    have k0 := hc g rfl _ _ h3.1
    have k1 := hc g rfl _ _ h3.2.1
    have k2 := hc g rfl _ _ h3.2.2
    rw [Addr.add_lit] at k0 k1 k2
    exact ⟨k0, k1, k2⟩
set_option maxHeartbeats 4000000 in
theorem lentC_any (v : Value) (L : List Col) (w : World) (hr : RC w v L) (hl : L.length ≤ 4398046511102) :
    Calls Tryz.prog 22 #[v] w fun e w' => (∃ lv, e = .returned lv ∧ LC w' w.heap.size lv L) ∧ Below w.heap.size w w' := by
  have hxv : ∃ ao cap, v = .slice ao L.length cap ∧ ((Value.slice ao L.length cap = .slice none 0 0 ∧ L.length = 0) ∨ ∃ ad cp, Value.slice ao L.length cap = .slice (some ad) L.length cp ∧ ∀ j u, (coL L)[j]? = some u → w.cell? (ad.add j) = some u) := by
    rcases hr with ⟨rfl, ao, cap, rfl, hn⟩ | ⟨b, off, cap, rfl, hl, hc⟩
    · cases ao with
      | none => exact ⟨_, _, rfl, .inl ⟨by rw [hn rfl]; rfl, rfl⟩⟩
      | some a => exact ⟨_, _, rfl, .inr ⟨a, cap, rfl, fun j u hj => by simp [coL] at hj⟩⟩
    · exact ⟨_, _, rfl, .inr ⟨_, cap, rfl, coL_cells hc⟩⟩
  obtain ⟨ao, cap, rfl, hx⟩ := hxv
  have HX := hid hx
  have hb8 : (0 + L.length) * 32 ≤ 140737488355328 := by omega
  have hb63 : 0 + L.length ≤ maxLen := by unfold maxLen; omega
  have HLl := hid hl
  have HN := hid (show w.ownsRow w.heap.size 31 3 (.slice none 0 0) 0 [] from World.ownsRow_nil _ _ _ _)
  clear hr hx hl
  go_enter Tryz.func22, Tryz.ntmps22
  go_wp2_with (at_builtin; refine wpList_appX coinfo Tryz.underlying23 rfl (by decide) rfl (.tmp 4) (.tmp 5) rfl w.heap.size _ 0 [] rfl HN.out _ L.length (coL L) rfl (coL_len L) HX.out (coL_one L) hb63 hb8 (Nat.le_refl _) ?n1)
  case n1 =>
  intro v2 w2 ho2 hg2 _
  try rw [List.nil_append, Nat.zero_add] at ho2
  have HO2 := hid ho2
  have HB2 := hid ((Below.refl w.heap.size w).grown hg2 (Nat.le_refl _) (fun k hk => by simp [Value.ownBlock] at hk))
  obtain ⟨a2, c2, rfl⟩ := own_slice ho2
  clear ho2 hg2
  obtain ⟨W4, hW4⟩ : ∃ W4, w2.alloc (.cells #[.string ⟨#[109, 97, 114, 107]⟩, .int .i64 77, .bool false] 31) = W4 := ⟨_, rfl⟩
  have RW4 := hid (show W4.heap[w2.heap.size]? = some (.cells #[.string ⟨#[109, 97, 114, 107]⟩, .int .i64 77, .bool false] 31 (0, 0)) by rw [← hW4]; exact heap_alloc_new w2 _)
  have BW4 := hid (show Below w2.heap.size w2 W4 by rw [← hW4]; exact (Below.refl _ _).alloc (Nat.le_refl _) _)
  have HO4 := hid (own_later HO2.out BW4.out)
  have hsz := hid (show w.heap.size ≤ W4.heap.size from Nat.le_trans HB2.out.size BW4.out.size)
  have hb8b : (L.length + 1) * 32 ≤ 140737488355328 := by have := HLl.out; omega
  have hb63b : L.length + 1 ≤ maxLen := by have := HLl.out; unfold maxLen; omega
  go_wp2_with (at_builtin; refine wpList_appX coinfo Tryz.underlying23 rfl (by decide) rfl (.tmp 7) (.tmp 9) rfl w.heap.size _ L.length (coL L) rfl HO4.out _ 1 (coV mkC) rfl rfl (.inr ⟨_, _, rfl, news_blk RW4.out⟩) (coV_one _) hb63b hb8b hsz.out ?n2)
  case n2 =>
  intro v3 w3 ho3 hg3 _
  rw [show coL L ++ coV mkC = coL (L ++ [mkC]) by rw [coL_app]; simp [coL]] at ho3
  have HO3 := hid ho3
  have HB3 := hid ((HB2.out.trans (BW4.out.mono HB2.out.size)).grown hg3 hsz.out (fun k hk => (World.ownsRow.lt HO4.out k hk).1))
  obtain ⟨a3, c3, rfl⟩ := own_slice ho3
  obtain ⟨_, hcap, hlc⟩ := LC.of_own ho3
  have HLC := hid hlc
  have hcI : (L.length : Int) ≤ (c3 : Int) := by omega
  clear ho3 hg3 hlc
  go_wp2
  go_ret
  exact ⟨⟨_, rfl, HLC.out⟩, HB3.out⟩
set_option maxHeartbeats 4000000 in
theorem keptC_any (lv v : Value) (L : List Col) (B : Nat) (w : World) (hl : LC w B lv L) (hr : RC w v L) (hb : L.length ≤ 4398046511102) :
    Calls Tryz.prog 26 #[lv, v] w fun e w' => e = .returned (.bool true) ∧ Below w.heap.size w w' := by
  have HL := hid hl
  have HR := hid hr
  obtain ⟨g, cap, rfl, hcap, hm, _, hc⟩ := hl
  obtain ⟨ao, cap2, rfl, _⟩ := hr.form
  have hlast := hc L.length (by simp)
  have e1 : (L ++ [mkC])[L.length]'(by simp) = mkC := by simp
  rw [e1] at hlast
  obtain ⟨c0, c1, c2⟩ := hlast
  have c0' : w.cell? ⟨g, L.length * 3, none⟩ = some (.string ⟨#[109, 97, 114, 107]⟩) := by rw [Nat.zero_add] at c0; exact c0
  have c1' : w.cell? ⟨g, L.length * 3 + 1, none⟩ = some (.int .i64 77) := by rw [Nat.zero_add] at c1; exact c1
  have c2' : w.cell? ⟨g, L.length * 3 + 2, none⟩ = some (.bool false) := by rw [Nat.zero_add] at c2; exact c2
  have hcI : (L.length : Int) + 1 ≤ (cap : Int) := by omega
  have hwI : wrap64 ((L.length : Int) + 1) = (L.length : Int) + 1 := by unfold wrap64; omega
  have hll : (L.length : Int) < (L.length : Int) + 1 := by omega
  clear hc hr c0 c1 c2 e1
  go_enter Tryz.func26, Tryz.ntmps26
  go_wp2_with fail
  clear c0' c1' c2' hcI hwI hll
  have HLc := hid hcap
  clear hcap hm
  go_loopw [5] (fun i wr => ∃ k : Nat, k ≤ L.length ∧ i = .int .i64 (k : Int) ∧ Below w.heap.size w wr) (fun i _ => L.length - (intOf i).toNat)
  case atStart => exact ⟨0, by omega, rfl, Below.refl _ _⟩
  case round =>
    obtain ⟨k, hk, rfl, hbl⟩ := hrel
    by_cases hlt : k < L.length
    · have hI : (k : Int) < (L.length : Int) := by omega
      obtain ⟨b, off, c, e1, d0, d1, d2⟩ := (HR.out.below hbl).at k hlt
      obtain ⟨b2, off2, c2, e2, f0, f1, f2⟩ := ((HL.out.below hbl).rc).at k hlt
      cases e1
      cases e2
      have HBL := hid hbl
      clear hbl
      generalize L[k] = C at *
      obtain ⟨nm, kd, mu⟩ := C
      simp only [] at d0 d1 d2 f0 f1 f2
      try simp only [Nat.zero_add] at f0 f1 f2
      go_wp2_with fail
      go_quiet (fail)
      have BQ := hid (below_drewN HBL.out nq)
      clear d0 d1 d2 f0 f1 f2
      go_wp2_with fail
      go_roundw
      case rel => exact ⟨k + 1, by omega, by go_num, BQ.out⟩
      case measure => simp [intOf]; omega
    · obtain rfl : k = L.length := by omega
      go_wp2
      go_ret
      exact ⟨rfl, hbl⟩
end Go.Proofs.YtmgfdnccmeahjaaGreatDoor
