/-
  'larderref01.CrcJoin': ways of 1, 2, 4, .. bytes.
-/
import Derived.Test.YtbmnkedbpomnkaaTwice
namespace Go.Proofs.Ytbmnkedbpomnkaa
open Go.RowKit
attribute [local go_sem ↓] exec_way

/-- where each bit goes in m steps -/
def wayL (m : Nat) : List Nat := (List.range 32).map fun i => Poly.itr m (2 ^ i)
/-- the first k entries of the way of one byte -/
def initL (k : Nat) : List Nat := (List.range 32).map fun i => if i < k then Poly.itr 8 (2 ^ i) else 0

theorem wayL_length (m : Nat) : (wayL m).length = 32 := by simp [wayL]
theorem initL_length (k : Nat) : (initL k).length = 32 := by simp [initL]

theorem two_lt (i : Nat) (h : i < 32) : 2 ^ i < 4294967296 := Nat.pow_lt_pow_right (by decide) h

theorem wayL_at (m i : Nat) (h : i < 32) : (wayL m).getD i 0 = Poly.itr m (2 ^ i) := by
  simp [wayL, h]

theorem wayL_lt (m i : Nat) : (wayL m).getD i 0 < 4294967296 := by
  by_cases h : i < 32
  · rw [wayL_at m i h]
    exact Poly.itr_lt m _ (two_lt i h)
  · simp [wayL, h]

theorem initL_next (k : Nat) : initL (k + 1) = (initL k).set k (Poly.itr 8 (2 ^ k)) := by
  unfold initL
  apply List.ext_getElem
  · simp
  · intro i h1 h2
    simp only [List.getElem_map, List.getElem_range, List.getElem_set]
    by_cases e : k = i
    · subst e; simp
    · rw [if_neg e]
      by_cases hl : i < k
      · rw [if_pos hl, if_pos (by omega)]
      · rw [if_neg hl, if_neg (by omega)]

theorem initL_all : initL 32 = wayL 8 := by
  unfold initL wayL
  apply List.map_congr_left
  intro i hi
  rw [if_pos (List.mem_range.1 hi)]

theorem initL_zero : rowC (initL 0) = zeroC := by
  unfold zeroC
  congr 1

theorem goTo_way (m c : Nat) : ∀ k, k ≤ 32 → goTo (wayL m) c k = Poly.itr m (c % 2 ^ k) := by
  intro k
  induction k with
  | zero => intro _; simp [goTo, Nat.mod_one, Poly.itr_zero]
  | succ k ih =>
    intro hk
    unfold goTo
    rw [ih (by omega), wayL_at m k (by omega), ← Poly.itr_xor]
    have e : c % 2 ^ (k + 1) = if c.testBit k then c % 2 ^ k ^^^ 2 ^ k else c % 2 ^ k := by
      apply Nat.eq_of_testBit_eq
      intro j
      rw [Nat.testBit_mod_two_pow]
      by_cases ht : c.testBit k
      · rw [if_pos ht, Nat.testBit_xor, Nat.testBit_mod_two_pow, Nat.testBit_two_pow]
        by_cases e : k = j
        · subst e; simp [ht]
        · by_cases hj : j < k
          · simp [hj, e, show j < k + 1 by omega]
          · simp [hj, e, show ¬ j < k + 1 by omega]
      · rw [if_neg ht, Nat.testBit_mod_two_pow]
        by_cases e : k = j
        · subst e; simp [ht]
        · by_cases hj : j < k
          · simp [hj, show j < k + 1 by omega]
          · simp [hj, show ¬ j < k + 1 by omega]
    rw [e]
    split <;> rfl

theorem gone_way (m c : Nat) (hc : c < 4294967296) : goTo (wayL m) c 32 = Poly.itr m c := by
  rw [goTo_way m c 32 (Nat.le_refl _), Nat.mod_eq_of_lt hc]

theorem twice_way (m : Nat) : outL (wayL m) 32 = wayL (m + m) := by
  unfold outL
  conv => rhs; unfold wayL
  apply List.map_congr_left
  intro i hi
  have hi := List.mem_range.1 hi
  rw [if_pos hi, wayL_at m i hi, gone_way m _ (Poly.itr_lt m _ (two_lt i hi)), Poly.itr_add]

/-- n bytes 0 behind a register are a product -/
theorem itr_one_pw (n : Nat) : Poly.pw 8388608 n = Poly.itr (8 * n) Poly.one := by
  induction n with
  | zero => rfl
  | succ n ih =>
    have e1 : (8388608 : Nat) = Poly.itr 8 Poly.one := by decide
    have hm : ∀ k a b, Poly.itr k (Poly.mul a b) = Poly.mul a (Poly.itr k b) := by
      intro k a b
      induction k with
      | zero => rfl
      | succ k ih => simp only [Poly.itr, ih]; exact (Poly.mulTo_mv a _ 32).symm
    show Poly.mul (Poly.pw 8388608 n) 8388608 = _
    rw [ih]
    conv => lhs; rw [e1]
    rw [← hm, Poly.mul_one _ (Poly.itr_lt _ _ Poly.one_lt), show 8 * (n + 1) = 8 + 8 * n by omega, Poly.itr_add]

theorem itr_mul (a n : Nat) (ha : a < 4294967296) : Poly.itr (8 * n) a = Poly.mul a (Poly.pw 8388608 n) := by
  have hm : ∀ k a b, Poly.itr k (Poly.mul a b) = Poly.mul a (Poly.itr k b) := by
    intro k a b
    induction k with
    | zero => rfl
    | succ k ih => simp only [Poly.itr, ih]; exact (Poly.mulTo_mv a _ 32).symm
  rw [itr_one_pw, ← hm, Poly.mul_one a ha]

/-- one round -/
theorem join_round (m N A : Nat) : Poly.itr (m * N) A = if N % 2 = 1 then Poly.itr ((m + m) * (N / 2)) (Poly.itr m A) else Poly.itr ((m + m) * (N / 2)) A := by
  split
  · rw [← Poly.itr_add]
    congr 1
    have e : N = 2 * (N / 2) + 1 := by omega
    conv => lhs; rw [e]
    rw [Nat.mul_add, Nat.mul_one, ← Nat.mul_assoc, Nat.mul_two]
  · congr 1
    have e : N = 2 * (N / 2) := by omega
    conv => lhs; rw [e]
    rw [← Nat.mul_assoc, Nat.mul_two]

theorem setCells_there {g : Nat} {t : TypeId} : ∀ (vs : List Value) (o : Nat) (w : World) (cs : Array Value), w.heap[g]? = some (.cells cs t (0, 0)) →
    ∃ c', (w.setCells g o vs).heap[g]? = some (.cells c' t (0, 0)) ∧ c'.size = cs.size
  | [], _, _, cs, h => ⟨cs, h, rfl⟩
  | v :: r, o, w, cs, h => by
    have h1 := heap_setCell_same w g o cs t v h
    obtain ⟨c', h2, h3⟩ := setCells_there (g := g) (t := t) r (o + 1) (w.setCell ⟨g, o, none⟩ v) _ h1
    exact ⟨c', h2, by rw [h3]; simp⟩

/-- a whole block written over -/
theorem setCells_row {w : World} {g : Nat} {t : TypeId} {cs : Array Value} (h : w.heap[g]? = some (.cells cs t (0, 0))) (R : Array Value) (hs : cs.size = R.size) :
    (w.setCells g 0 R.toList).heap[g]? = some (.cells R t (0, 0)) := by
  obtain ⟨c', h1, h2⟩ := setCells_there (g := g) (t := t) R.toList 0 w cs h
  have hth : w.there g 0 R.toList.length := by
    intro j hj
    rw [Nat.zero_add, cell_of_row _ _ _ _ _ _ h, frozen_of_row _ _ _ _ _ h]
    rw [Array.length_toList] at hj
    exact ⟨by simp [hs, hj], rfl⟩
  have hr := World.rangeAt_setCells_same w g 0 R.toList hth
  rw [h1]
  congr 2
  apply Array.ext
  · omega
  · intro i hi1 hi2
    have h3 := hr i R[i] (by simp [hi2])
    rw [Nat.zero_add, cell_of_row _ _ _ _ _ _ h1] at h3
    simp [hi1] at h3
    exact h3


theorem onL_one (c : Nat) : onL c [0] = Poly.itr 8 c := by
  unfold onL
  simp

theorem retj {k1 k2 : IntKind} {a b a' b' : Int} (h1 : a = a') (h2 : b = b') :
    Ending.returned (.tuple #[.int k1 a, .int k2 b]) = .returned (.tuple #[.int k1 a', .int k2 b']) := by rw [h1, h2]

theorem way_ptr {W : World} {g : Nat} {f : List Nat} (h : W.heap[g]? = some (.cells (rowC f) 32 (0, 0))) (hf : f.length = 32) :
    WayPtr W (.pointer (some ⟨g, 0, none⟩)) ∧ wayOf W (.pointer (some ⟨g, 0, none⟩)) = .agg (rowC f) := by
  refine ⟨⟨_, rfl, _, h, by rw [rowC_size, hf]⟩, ?_⟩
  show Value.agg (match W.heap[g]? with | some (.cells c _ _) => c | _ => #[]) = _
  rw [h]

theorem rowC_one (f : List Nat) : (rowC f).all (·.oneCell') = true := by simp [rowC, Value.oneCell']

theorem way_there {W : World} {g : Nat} {f f' : List Nat} (h : W.heap[g]? = some (.cells (rowC f) 32 (0, 0))) (hf : f.length = f'.length) : W.there g 0 (rowC f').size := by
  intro j hj
  rw [rowC_size] at hj
  rw [Nat.zero_add, cell_of_row _ _ _ _ _ _ h, frozen_of_row _ _ _ _ _ h, rowC_at _ j (by omega)]
  exact ⟨rfl, rfl⟩

theorem on_zero (k : Nat) (hk : k < 32) (w : World) :
    Calls Try.prog 9 #[.int .u32 (2 ^ k % 4294967296), .slice (some ⟨w.heap.size, 0, none⟩) 1 1] (w.alloc (.cells #[.int .u8 0] 5)) fun e w' => e = .returned (.int .u32 (Poly.itr 8 (2 ^ k) : Nat)) ∧ w' = w.alloc (.cells #[.int .u8 0] 5) := by
  have h2 := two_lt k hk
  have e : (2 : Int) ^ k % 4294967296 = ((2 ^ k : Nat) : Int) := by
    have e2 : (2 : Int) ^ k = ((2 ^ k : Nat) : Int) := by simp
    rw [e2]
    exact Int.emod_eq_of_lt (Int.natCast_nonneg _) (Int.ofNat_lt.2 h2)
  rw [e, ← onL_one]
  exact on_some w.heap.size 0 1 [0] (2 ^ k) _ h2 (by simp) (fun j hj => by
    have : j = 0 := by simpa using hj
    subst this
    simp)

set_option maxRecDepth 100000 in
set_option maxHeartbeats 2000000 in
theorem refJoin_yes (a b n : Nat) (w : World) (ha : a < 4294967296) (hb : b < 4294967296) (hn : n ≤ 1099511627776) :
    Calls Try.prog 6 #[.int .u32 a, .int .u32 b, .int .i64 n] w fun e w' => e = .returned (.tuple #[.int .u32 (Poly.itr (8 * n) a ^^^ b : Nat), .int .i64 0]) ∧ Below w.heap.size w w' := by
  go_enter Try.func6, Try.ntmps6
  go_wp2
  go_loopw [9] (fun i wr => ∃ k : Nat, k ≤ 32 ∧ i = .int .i64 k ∧ Hid (wr.heap[w.heap.size]? = some (.cells (rowC (initL k)) 32 (0, 0))) ∧ Below w.heap.size w wr) (fun i _ => 32 - (intOf i).toNat)
  case atStart =>
    refine ⟨0, by omega, rfl, ?_, (Below.refl _ _).alloc (Nat.le_refl _) _⟩
    show _ = _
    rw [initL_zero]
    exact heap_new_at w (.cells zeroC 32) _ rfl
  case round =>
    obtain ⟨k, hk, rfl, HW, hbl⟩ := hrel
    have hsz : w.heap.size < wr.heap.size := (Array.getElem?_eq_some_iff.1 HW.out).1
    by_cases hlt : k < 32
    · have hlt' : (k : Int) < 32 := by omega
      have hc := fun O => World.cell?_of_block (w := wr) (w' := wr.alloc O) (a := ⟨w.heap.size, k, none⟩) (Below.heap_alloc wr O _ hsz)
      have hfz := fun O => World.frozen?_of_block (w := wr) (w' := wr.alloc O) (a := ⟨w.heap.size, k, none⟩) (Below.heap_alloc wr O _ hsz)
      rw [cell_of_row _ _ _ _ _ _ HW.out, rowC_at _ k (by rw [initL_length]; exact hlt)] at hc
      rw [frozen_of_row _ _ _ _ _ HW.out] at hfz
      generalize (initL k).getD k 0 = z at hc
      have HO : Hid (_) := on_zero k hlt wr
      go_wp2_with fail
      refine Calls.mono HO.out ?_
      rintro e w' ⟨rfl, rfl⟩
      go_wp2
      go_roundw
      case rel =>
        refine ⟨k + 1, by omega, by go_num, ?_, ?_⟩
        · show _ = _
          rw [Below.heap_alloc _ _ _ (by simp [World.setCell]; omega), heap_setCell_same _ _ _ _ _ _ HW.out, initL_next, rowC_set]
        · exact (hbl.setCell (by simp) _).alloc (by simp [World.setCell]; omega) _
      case measure => simp [intOf]; omega
    · have e : k = 32 := by omega
      subst e
      rw [initL_all] at HW
      go_wp2
      clear hlt hk
      go_loopw [0, 2] (fun x c wr => ∃ A N m : Nat, A < 4294967296 ∧ N ≤ n ∧ x = .int .u32 A ∧ c = .int .i64 N ∧ Hid (wr.heap[w.heap.size]? = some (.cells (rowC (wayL m)) 32 (0, 0))) ∧ Below w.heap.size w wr ∧ Hid (Poly.itr (m * N) A = Poly.itr (8 * n) a)) (fun _ c _ => (intOf c).toNat)
      case atStart => exact ⟨a, n, 8, ha, Nat.le_refl _, rfl, rfl, HW, hbl, rfl⟩
      case round =>
        obtain ⟨A, N, m, hA, hN, rfl, rfl, HW, hbl, HE⟩ := hrel
        have hsz : w.heap.size < wr.heap.size := (Array.getElem?_eq_some_iff.1 HW.out).1
        by_cases hpos : 0 < N
        · obtain ⟨p1, p2⟩ := way_ptr HW.out (wayL_length m)
          have HJ : Hid (_) := (join_round m N A).symm.trans HE.out
          by_cases hodd : N % 2 = 1
          · have hod : ((N : Int) % 2 == 1) = true := by simp; omega
            have HW1 : Hid ((wr.alloc (.cells (rowC (wayL m)) 32)).heap[w.heap.size]? = some (.cells (rowC (wayL m)) 32 (0, 0))) := by
              show _ = _
              rw [Below.heap_alloc _ _ _ hsz]
              exact HW.out
            obtain ⟨q1, q2⟩ := way_ptr HW1.out (wayL_length m)
            have HG : Hid (_) := gone_any (wayL m) A wr (wayL_length m) (wayL_lt m) hA
            rw [gone_way m A hA] at HG
            have HT : Hid (_) := twice_any (wayL m) (wr.alloc (.cells (rowC (wayL m)) 32)) (wayL_length m) (wayL_lt m)
            rw [twice_way m] at HT
            rw [if_pos hodd] at HJ
            have hA' := Poly.itr_lt m A hA
            have HO : Hid (_) := hodd
            clear hodd
            go_wp2_with fail
            refine Calls.mono HG.out ?_
            rintro e w' ⟨rfl, rfl⟩
            go_wp2_with fail
            refine Calls.mono HT.out ?_
            rintro e w2 ⟨rfl, hb2⟩
            have HW2 : Hid (w2.heap[w.heap.size]? = some (.cells (rowC (wayL m)) 32 (0, 0))) := by
              show _ = _
              rw [hb2.block _ (by simp; omega)]
              exact HW1.out
            have hth := way_there (f' := wayL (m + m)) HW2.out (by rw [wayL_length, wayL_length])
            have HS : Hid (_) := setCells_row HW2.out (rowC (wayL (m + m))) (by rw [rowC_size, rowC_size, wayL_length, wayL_length])
            have hB2 := (hbl.alloc (by omega) (.cells (rowC (wayL m)) 32)).trans (hb2.mono (by simp; omega))
            have hi : (Try.prog.info? 32).map (·.size) = some (rowC (wayL (m + m))).size := by rw [wayInfo, rowC_size, wayL_length]
            have h1 := rowC_one (wayL (m + m))
            obtain ⟨R, hR⟩ : ∃ R, R = rowC (wayL (m + m)) := ⟨_, rfl⟩
            rw [← hR] at hth HS hi h1 ⊢
            have HR : Hid (_) := hR
            clear hR hb2 p1 p2 q1 q2 HW HW1 HW2 HT HG hbl
            have HI : Hid (_) := hi
            clear hi
            have HN2 : Hid (Value.int .i64 ((N : Int) / 2) = .int .i64 ((N / 2 : Nat) : Int)) := by show _ = _; go_num
            have HRel : Hid (∃ A' N' m' : Nat, A' < 4294967296 ∧ N' ≤ n ∧ Value.int .u32 (Poly.itr m A : Nat) = .int .u32 A' ∧ Value.int .i64 ((N : Int) / 2) = .int .i64 N' ∧ Hid ((w2.setCells w.heap.size 0 R.toList).heap[w.heap.size]? = some (.cells (rowC (wayL m')) 32 (0, 0))) ∧ Below w.heap.size w (w2.setCells w.heap.size 0 R.toList) ∧ Hid (Poly.itr (m' * N') A' = Poly.itr (8 * n) a)) := by
              refine ⟨Poly.itr m A, N / 2, m + m, by assumption, by omega, rfl, HN2.out, ?_, below_setCells hB2 (Nat.le_refl _) _ _, HJ⟩
              rw [← HR.out]
              exact HS
            go_wp2_with (refine wpList_store_mid rfl 32 (.tmp 8) (.tmp 37) rfl w.heap.size 0 R rfl rfl hth HI.out h1 ?_)
            go_roundw
            case rel =>
              (repeat apply Exists.intro)
              exact ⟨HRel.out, rfl⟩
            case measure => simp [intOf]; omega
          · have hod : ((N : Int) % 2 == 1) = false := by simp; omega
            have HT : Hid (_) := twice_any (wayL m) wr (wayL_length m) (wayL_lt m)
            rw [twice_way m] at HT
            rw [if_neg hodd] at HJ
            have HO : Hid (_) := hodd
            clear hodd
            go_wp2_with fail
            refine Calls.mono HT.out ?_
            rintro e w2 ⟨rfl, hb2⟩
            have HW2 : Hid (w2.heap[w.heap.size]? = some (.cells (rowC (wayL m)) 32 (0, 0))) := by
              show _ = _
              rw [hb2.block _ hsz]
              exact HW.out
            have hth := way_there (f' := wayL (m + m)) HW2.out (by rw [wayL_length, wayL_length])
            have HS : Hid (_) := setCells_row HW2.out (rowC (wayL (m + m))) (by rw [rowC_size, rowC_size, wayL_length, wayL_length])
            have hB2 := hbl.trans (hb2.mono (by omega))
            have hi : (Try.prog.info? 32).map (·.size) = some (rowC (wayL (m + m))).size := by rw [wayInfo, rowC_size, wayL_length]
            have h1 := rowC_one (wayL (m + m))
            obtain ⟨R, hR⟩ : ∃ R, R = rowC (wayL (m + m)) := ⟨_, rfl⟩
            rw [← hR] at hth HS hi h1 ⊢
            have HR : Hid (_) := hR
            clear hR hb2 p1 p2 HW HW2 HT hbl
            have HI : Hid (_) := hi
            clear hi
            have HN2 : Hid (Value.int .i64 ((N : Int) / 2) = .int .i64 ((N / 2 : Nat) : Int)) := by show _ = _; go_num
            have HRel : Hid (∃ A' N' m' : Nat, A' < 4294967296 ∧ N' ≤ n ∧ Value.int .u32 (A : Nat) = .int .u32 A' ∧ Value.int .i64 ((N : Int) / 2) = .int .i64 N' ∧ Hid ((w2.setCells w.heap.size 0 R.toList).heap[w.heap.size]? = some (.cells (rowC (wayL m')) 32 (0, 0))) ∧ Below w.heap.size w (w2.setCells w.heap.size 0 R.toList) ∧ Hid (Poly.itr (m' * N') A' = Poly.itr (8 * n) a)) := by
              refine ⟨A, N / 2, m + m, by assumption, by omega, rfl, HN2.out, ?_, below_setCells hB2 (Nat.le_refl _) _ _, HJ⟩
              rw [← HR.out]
              exact HS
            go_wp2_with (refine wpList_store_mid rfl 32 (.tmp 8) (.tmp 37) rfl w.heap.size 0 R rfl rfl hth HI.out h1 ?_)
            go_roundw
            case rel =>
              (repeat apply Exists.intro)
              exact ⟨HRel.out, rfl⟩
            case measure => simp [intOf]; omega
        · have e : N = 0 := by omega
          subst e
          go_wp2
          go_ret2
          have h := HE.out
          rw [Nat.mul_zero] at h
          have h2 : A = Poly.itr (8 * n) a := h
          exact ⟨retj (by rw [u32_xor_nat _ _ hA hb, h2]) rfl, hbl⟩
end Go.Proofs.Ytbmnkedbpomnkaa
