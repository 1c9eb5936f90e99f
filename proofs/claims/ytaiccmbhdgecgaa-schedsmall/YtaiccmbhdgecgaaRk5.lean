/-
  Every list of picks is a mix (pure); the document's StepsOf, Rank.
-/
import Derived.Test.YtaiccmbhdgecgaaRk4
import Derived.Test.YtaiccmbhdgecgaaMn8
import Derived.Test.YtaiccmbhdgecgaaLe6
namespace Go.Proofs.Ytaiccmbhdgecgaa
open Go.RowKit
set_option maxRecDepth 100000

theorem mx_of : ∀ (L : List Nat) (N : List Nat), (∀ i, L.count i = N.getD i 0) → (∀ x ∈ L, x < N.length) → tN2 N ≤ 24 → ∃ n, Mx N n L ∧ n < mN N
  | [], N, hc, _, hs => by
    have hz : ∀ j, sN N j = 0 := by
      intro j
      induction j with
      | zero => rfl
      | succ j ih => show sN N j + N.getD j 0 = 0; rw [ih, ← hc j]; rfl
    exact ⟨0, ⟨hz _, rfl⟩, mN_pos N hs⟩
  | h :: T, N, hc, hin, hs => by
    have hh := hin h (by simp)
    have h1 : 1 ≤ N.getD h 0 := by rw [← hc h]; simp
    have hp : 1 ≤ tN2 N := by have := getD_le N h hh; omega
    obtain ⟨n, hn, hlt⟩ := mx_of T (less N h) (fun i => by
      rw [less_at N h i hh]
      have := hc i
      rw [List.count_cons] at this
      by_cases e : i = h
      · subst e
        rw [if_pos rfl]
        rw [if_pos (by simp)] at this
        omega
      · rw [if_neg e]
        rw [if_neg (by simpa using fun e2 => e e2.symm)] at this
        omega) (fun x hx => by rw [less_len]; exact hin x (by simp [hx])) (by have := (mN_less N h hh h1 hs).2; omega)
    have hb := (bg_mul N h hh hs hp).2.2 h1
    have e1 : bS N (h + 1) = bS N h + bg N h := rfl
    have hall := bS_all N hs hp
    have hm := bS_mono N (show h + 1 ≤ N.length from hh)
    refine ⟨bS N h + n, ⟨hh, h1, Nat.le_add_right _ _, ?_, by omega⟩, by omega⟩
    rw [Nat.add_sub_cancel_left]
    exact hn
theorem mx_same : ∀ (L : List Nat) (N : List Nat) (n : Nat) (M : List Nat), Mx N n L → Mx N n M → L = M
  | [], N, n, [], _, _ => rfl
  | [], N, n, k :: M, a, b => by
    have h1 := a.1
    have h2 := getD_le N k b.1
    have h3 := b.2.1
    omega
  | p :: L, N, n, [], a, b => by
    have h1 := b.1
    have h2 := getD_le N p a.1
    have h3 := a.2.1
    omega
  | p :: L, N, n, k :: M, a, b => by
    obtain ⟨a1, a2, a3, a4, a5⟩ := a
    obtain ⟨b1, b2, b3, b4, b5⟩ := b
    have hpk : p = k := by
      rcases Nat.lt_trichotomy p k with hc | hc | hc
      · have := bS_mono N (show p + 1 ≤ k from hc)
        omega
      · exact hc
      · have := bS_mono N (show k + 1 ≤ p from hc)
        omega
    subst hpk
    rw [mx_same L (less N p) (n - bS N p) M a4 b4]
theorem mx_num : ∀ (L : List Nat) (N : List Nat) (n m : Nat), Mx N n L → Mx N m L → n = m
  | [], N, n, m, a, b => by rw [a.2, b.2]
  | p :: L, N, n, m, a, b => by
    obtain ⟨a1, a2, a3, a4, a5⟩ := a
    obtain ⟨b1, b2, b3, b4, b5⟩ := b
    have := mx_num L (less N p) _ _ a4 b4
    omega
/-- the counts of a list, for numbers below 16 -/
def CtOf (L N : List Nat) : Prop := (∀ i, N.getD i 0 = L.count i) ∧ N.length ≤ 16 ∧ ∀ x ∈ L, x < N.length
theorem ctof16 (L : List Nat) (h : ∀ x ∈ L, x < 16) : CtOf L (C16 L) := ⟨fun i => by
  rw [C16_at]
  by_cases hi : i < 16
  · rw [if_pos hi]
  · rw [if_neg hi]
    exact (List.count_eq_zero.2 (fun hm => hi (h i hm))).symm, by rw [C16_len]; decide, fun x hx => by rw [C16_len]; exact h x hx⟩
theorem sum_count (L : List Nat) : ∀ (N : List Nat), (∀ i, N.getD i 0 = L.count i) → (∀ x ∈ L, x < N.length) → tN2 N = L.length := by
  induction L with
  | nil =>
    intro N hc _
    have hz : ∀ j, sN N j = 0 := by
      intro j
      induction j with
      | zero => rfl
      | succ j ih => show sN N j + N.getD j 0 = 0; rw [ih, hc j]; rfl
    exact hz _
  | cons h T ih =>
    intro N hc hin
    have hh := hin h (by simp)
    have h1 : 1 ≤ N.getD h 0 := by rw [hc h]; simp
    have hl := less_sN N h hh h1 N.length
    rw [if_pos hh] at hl
    have h9 := ih (less N h) (fun i => by
      rw [less_at N h i hh]
      have := hc i
      rw [List.count_cons] at this
      by_cases e : i = h
      · subst e
        rw [if_pos rfl]
        rw [if_pos (by simp)] at this
        omega
      · rw [if_neg e]
        rw [if_neg (by simpa using fun e2 => e e2.symm)] at this
        omega) (fun x hx => by rw [less_len]; exact hin x (by simp [hx]))
    unfold tN2 at h9 ⊢
    rw [less_len] at h9
    rw [List.length_cons]
    omega
theorem CtOf.pad {L N : List Nat} (h : CtOf L N) (h16 : ∀ x ∈ L, x < 16) : Pad N (C16 L) := ⟨by rw [C16_len]; exact h.2.1, fun i => by rw [(ctof16 L h16).1 i, h.1 i]⟩
theorem CtOf.t {L N : List Nat} (h : CtOf L N) : tN2 N = L.length := sum_count L N h.1 h.2.2
/-- what Rank answers -/
def RkA (R : List Int) (e : Ending) : Prop :=
  ((¬ inB R 16 = true ∨ 24 < R.length) ∧ e = .returned (.tuple #[.int .i64 0, .int .i64 2])) ∨
  (∃ L, R = iN L ∧ (∀ x ∈ L, x < 16) ∧ L.length ≤ 24 ∧ 4611686018427387904 < mN (C16 L) ∧ e = .returned (.tuple #[.int .i64 0, .int .i64 26])) ∨
  (∃ L n, R = iN L ∧ (∀ x ∈ L, x < 16) ∧ L.length ≤ 24 ∧ mN (C16 L) ≤ 4611686018427387904 ∧ Mx (C16 L) n L ∧ e = .returned (.tuple #[.int .i64 (n : Int), .int .i64 0]))
theorem RkA.same {R : List Int} {e f : Ending} (h : RkA R e) (k : RkA R f) : e = f := by
  have i1 : ∀ {L M : List Nat}, iN L = iN M → L = M := by
    intro L M h
    have := congrArg nats h
    rwa [iN_nats, iN_nats] at this
  have bad : ∀ {L : List Nat}, R = iN L → (∀ x ∈ L, x < 16) → L.length ≤ 24 → (¬ inB R 16 = true ∨ 24 < R.length) → False := by
    intro L e hx hl hb
    subst e
    rw [iN_len] at hb
    rcases hb with hb | hb
    · exact hb ((inB_iff _ _).2 (fun i hi => by rw [iN_at L i hi (by rw [iN_len] at hi; exact hi)]; have := hx _ (List.getElem_mem (by rw [iN_len] at hi; exact hi)); omega))
    · omega
  rcases h with ⟨h1, rfl⟩ | ⟨L, h1, h2, h3, h4, rfl⟩ | ⟨L, n, h1, h2, h3, h4, h5, rfl⟩ <;> rcases k with ⟨k1, rfl⟩ | ⟨M, k1, k2, k3, k4, rfl⟩ | ⟨M, m, k1, k2, k3, k4, k5, rfl⟩
  · rfl
  · exact (bad k1 k2 k3 h1).elim
  · exact (bad k1 k2 k3 h1).elim
  · exact (bad h1 h2 h3 k1).elim
  · rfl
  · obtain rfl := i1 (h1.symm.trans k1)
    omega
  · exact (bad h1 h2 h3 k1).elim
  · obtain rfl := i1 (h1.symm.trans k1)
    omega
  · obtain rfl := i1 (h1.symm.trans k1)
    rw [mx_num _ _ _ _ h5 k5]
theorem nat_list {R : List Int} (h : inB R 16 = true) : ∃ L, R = iN L ∧ ∀ x ∈ L, x < 16 := by
  refine ⟨nats R, ?_, ?_⟩
  · apply List.ext_getElem
    · rw [iN_len]; simp [nats]
    · intro i h1 h2
      have := (inB_iff R 16).1 h i h1
      rw [iN_at _ i h2 (by rw [iN_len] at h2; exact h2)]
      simp only [nats, List.getElem_map]
      omega
  · intro x hx
    unfold nats at hx
    rw [List.mem_map] at hx
    obtain ⟨y, hy, rfl⟩ := hx
    obtain ⟨i, hi, rfl⟩ := List.getElem_of_mem hy
    have := (inB_iff R 16).1 h i hi
    omega
def SoA (L : List Nat) (w w' : World) (e : Ending) : Prop := ∃ v' N, e = .returned v' ∧ OI w' w.heap.size v' (iN N) ∧ CtOf L N
theorem ctof_up {L M : List Nat} {x : Nat} (hc : ∀ i, M.getD i 0 = L.count i) (h16 : M.length ≤ 16) (hin : ∀ y ∈ L, y < M.length) (hx : x < M.length) : CtOf (L ++ [x]) (M.set x (M.getD x 0 + 1)) := by
  refine ⟨fun i => ?_, by rw [List.length_set]; exact h16, fun y hy => ?_⟩
  · rw [List.count_append, List.count_singleton, ← hc i, List.getD_eq_getElem?_getD, List.getElem?_set]
    by_cases e : x = i
    · subst e
      simp [hx]
    · rw [if_neg e, ← List.getD_eq_getElem?_getD]
      simp [e]
  · rw [List.length_set]
    rcases List.mem_append.1 hy with hy | hy
    · exact hin y hy
    · rw [List.mem_singleton.1 hy]; exact hx
theorem getD_app0 (M : List Nat) (i : Nat) : (M ++ [0]).getD i 0 = M.getD i 0 := by
  rw [List.getD_eq_getElem?_getD, List.getElem?_append]
  split
  · rw [← List.getD_eq_getElem?_getD]
  · rw [List.getD_eq_getElem?_getD, List.getElem?_eq_none (l := M) (by omega)]
    cases h : ([0] : List Nat)[i - M.length]? with
    | none => rfl
    | some y =>
      have := List.mem_of_getElem? h
      rw [List.mem_singleton.1 this]
      rfl
theorem cell_ltB {w : World} {p : Addr} {u : Value} (h : w.cell? p = some u) : p.block < w.heap.size := by
  rcases Nat.lt_or_ge p.block w.heap.size with c | c
  · exact c
  · have : w.heap[p.block]? = none := Array.getElem?_eq_none c
    simp [World.cell?, this] at h
set_option maxHeartbeats 2000000 in
theorem stepsOf_any (v : Value) (L : List Nat) (w : World) (hr : RI w v (iN L)) (hx : ∀ x ∈ L, x < 16) (hl : L.length ≤ 24) :
    Calls Try.prog 54 #[v] w fun e w' => SoA L w w' e ∧ Below w.heap.size w w' := by
  obtain ⟨ao, cap, rfl, hcc, hn0, hcell⟩ := hr
  rw [iN_len] at hcc
  have HC := hid (show ∀ j (hj : j < L.length), ∃ g off, ao = some ⟨g, off, none⟩ ∧ w.cell? ⟨g, off + j, none⟩ = some (.int .i64 ((L[j] : Nat) : Int)) from fun j hj => by
    obtain ⟨g, off, e, c⟩ := hcell j (by rw [iN_len]; exact hj)
    rw [iN_at L j _ hj] at c
    exact ⟨g, off, e, c⟩)
  rw [iN_len]
  have HX := hid hx
  clear hcell hn0 hx
  go_enter Try.func54, Try.ntmps54
  go_wp2_with fail
  go_loopw [3, 4] (fun vs vi wx => ∃ (i : Nat) (M : List Nat), i ≤ L.length ∧ vi = .int .i64 (i : Int) ∧ OI wx w.heap.size vs (iN M) ∧ CtOf (L.take i) M ∧ Below w.heap.size w wx) (fun _ vi _ => L.length - (intOf vi).toNat)
  case atStart => exact ⟨0, [], Nat.zero_le _, rfl, OI.nil _ _, ⟨fun i => rfl, by simp, by simp⟩, Below.refl _ _⟩
  case round =>
    obtain ⟨i, M, hi, rfl, ho, hct, hB⟩ := hrel
    have HO := hid ho
    have HCt := hid hct
    have HB := hid hB
    clear ho hct hB
    by_cases h : i < L.length
    · have hI : (i : Int) < (L.length : Int) := by omega
      obtain ⟨g, off, e, c⟩ := HC.out i h
      subst e
      have HC0 := hid c
      have hx := HX.out L[i] (List.getElem_mem _)
      have HT := hid (show L.take (i + 1) = L.take i ++ [L[i]] by rw [List.take_add_one, List.getElem?_eq_getElem h]; rfl)
      clear c
      generalize L[i] = x at *
      have hxI : (x : Int) < 16 := by omega
      obtain ⟨wo, hwo⟩ : ∃ wo, wo = wr := ⟨_, rfl⟩
      subst hwo
      go_wp2_with fail
      go_loopw [3] (fun vs wx => ∃ M : List Nat, OI wx w.heap.size vs (iN M) ∧ (∀ i', M.getD i' 0 = (L.take i).count i') ∧ M.length ≤ 16 ∧ (∀ x ∈ L.take i, x < M.length) ∧ Below w.heap.size w wx) (fun vs _ => 16 - slen vs)
      case atStart => exact ⟨M, HO.out, HCt.out.1, HCt.out.2.1, HCt.out.2.2, HB.out⟩
      case round =>
        obtain ⟨M', ho, hc1, hc2, hc3, hB⟩ := hrel
        have HO2 := hid ho
        have HC1 := hid hc1
        have HC3 := hid hc3
        have HB2 := hid hB
        have hsz := hB.size
        have c0 := below_cells hB _ _ HC0.out
        obtain ⟨a9, c9, hv9⟩ := ho.reads.len0
        rw [iN_len] at hv9
        subst hv9
        clear ho hc1 hc3 hB
        by_cases hle : M'.length ≤ x
        · have hleI : (M'.length : Int) ≤ (x : Int) := by omega
          go_wp2_with (at_builtin; refine wpList_appI rfl _ _ rfl w.heap.size _ (iN M') rfl (HO2.out.alloc _) _ [(0 : Int)] rfl (ri_one _ _) (by simp [iN_len]; omega) (by simp; omega) ?hnext)
          case hnext =>
            intro v7 w7 ho7 hg7
            have HO7 := hid (show OI w7 w.heap.size v7 (iN (M' ++ [0])) by rw [show iN (M' ++ [0]) = iN M' ++ [(0 : Int)] by simp [iN]]; exact ho7)
            have hsl : slen v7 = M'.length + 1 := by
              obtain ⟨ao8, c8, e8⟩ := HO7.out.reads.len0
              rw [e8, iN_len, List.length_append]
              rfl
            have HB7 := hid ((HB2.out.alloc hsz (.cells #[.int .i64 0] 3)).grown hg7 (by simp; omega) (fun k' hk' => HO2.out.block_ge k' hk'))
            clear ho7 hg7
            go_wp2
            go_roundw
            case rel => exact ⟨M' ++ [0], HO7.out, fun i' => by rw [getD_app0]; exact HC1.out i', by rw [List.length_append, List.length_singleton]; omega, fun y hy => by rw [List.length_append]; have := HC3.out y hy; omega, HB7.out⟩
            case measure => rw [hsl]; show _ < 16 - M'.length; omega
        · have hleI : ¬ (M'.length : Int) ≤ (x : Int) := by omega
          have hxM : x < M'.length := by omega
          have hxMI : (x : Int) < (M'.length : Int) := by omega
          obtain ⟨gm, cm, hvm, hcm, hmm, hcl⟩ := HO2.out.form (by rw [iN_len]; omega)
          rw [iN_len] at hvm
          injection hvm with e1 e2 e3
          subst e1 e3
          have k0 := hcl x (by rw [iN_len]; exact hxM)
          rw [iN_at M' x _ hxM, ← gN M' x hxM] at k0
          have f0 := HO2.out.own x
          have hgb : w.heap.size ≤ gm := HO2.out.block_ge gm rfl
          have hy16 : M'.getD x 0 ≤ 24 := by
            rw [HC1.out x]
            exact Nat.le_trans List.count_le_length (by rw [List.length_take]; omega)
          have HO9 := hid (show OI (wr.setCell ⟨gm, x, none⟩ (.int .i64 (((M'.getD x 0 : Nat) : Int) + 1))) w.heap.size (.slice (some ⟨gm, 0, none⟩) M'.length c9) (iN (M'.set x (M'.getD x 0 + 1))) by
            have := HO2.out.set (i := x) (((M'.getD x 0 : Nat) : Int) + 1)
            rw [show ((M'.getD x 0 : Nat) : Int) + 1 = ((M'.getD x 0 + 1 : Nat) : Int) by omega, iN_set] at this
            rw [show ((M'.getD x 0 : Nat) : Int) + 1 = ((M'.getD x 0 + 1 : Nat) : Int) by omega]
            exact this)
          have HB9 := hid (HB2.out.setCell (p := ⟨gm, x, none⟩) hgb (.int .i64 (((M'.getD x 0 : Nat) : Int) + 1)))
          have HCt9 := hid (show CtOf (L.take (i + 1)) (M'.set x (M'.getD x 0 + 1)) by rw [HT.out]; exact ctof_up HC1.out hc2 HC3.out hxM)
          have hne : ¬ g = gm := by
            have : g < w.heap.size := cell_ltB HC0.out
            omega
          clear hcl hle e2
          generalize M'.getD x 0 = y at *
          go_wp2
          go_roundw
          case rel => exact ⟨i + 1, _, by omega, by go_num, HO9.out, HCt9.out, HB9.out⟩
          case measure => simp [intOf]; omega
    · have hI : ¬ (i : Int) < (L.length : Int) := by omega
      obtain rfl : i = L.length := by omega
      have HC2 := hid (show CtOf L M by have := HCt.out; rwa [List.take_length] at this)
      go_wp2
      go_ret
      exact ⟨⟨_, M, rfl, HO.out, HC2.out⟩, HB.out⟩
end Go.Proofs.Ytaiccmbhdgecgaa
