/-
  spared: how many bytes of each loose write a power failure leaves.
-/
import Derived.Test.YtjaopckdhohpbaaDoorDk9
namespace Go.Proofs.YtjaopckdhohpbaaDoor
open Go.RowKit
set_option maxRecDepth 100000

def ic (R : List Int) : List Value := R.map fun z => .int .i64 z
theorem ic_at (R : List Int) (j : Nat) (h : j < R.length) : (ic R)[j]? = some (.int .i64 R[j]) := by simp [ic, h]
/-- a list of ints that reads so -/
def RI (w : World) (v : Value) (R : List Int) : Prop := ∃ ao c, v = .slice ao R.length c ∧ R.length ≤ c ∧ ∀ i (hi : i < R.length), ∃ g off, ao = some ⟨g, off, none⟩ ∧ w.cell? ⟨g, off + i, none⟩ = some (.int .i64 R[i])
theorem RI.below {w w' : World} {v : Value} {R : List Int} (h : RI w v R) (hb : Below w.heap.size w w') : RI w' v R := by
  obtain ⟨ao, c, hv, hc, hr⟩ := h
  refine ⟨ao, c, hv, hc, fun i hi => ?_⟩
  obtain ⟨g, off, ha, hc⟩ := hr i hi
  exact ⟨g, off, ha, below_cells hb _ _ hc⟩
theorem intinfo : (Tryd.prog.info? 3).map (fun i => (i.zero, i.size, i.bytes)) = some (some (.int .i64 0), 1, 8) := by kernel_rfl
theorem made_i (n : Nat) : madeCells #[.int .i64 0] n = (ic (List.replicate n 0)).toArray := by
  apply Array.ext
  · rw [size_madeCells]; simp [ic]
  · intro i h1 h2
    simp [madeCells, ic, Nat.mod_one]
def mkI (a b : Value) : Sem Value := Instr.makeSlice 25 a b
theorem mki_op (a b : Value) : Instr.makeSlice 25 a b = mkI a b := rfl
theorem run_mkI (n : Nat) (hn : n ≤ 1000000) (w : World) : (mkI (.int .i64 (n : Int)) (.int .i64 (n : Int))).run Tryd.prog w = .ok (.slice (some ⟨w.heap.size, 0, none⟩) n n) (w.alloc (.cells (ic (List.replicate n 0)).toArray 3)) := by
  obtain ⟨i, hi, hz, hs, hb⟩ := info_parts intinfo
  have := run_make (P := Tryd.prog) w 25 3 i _ Tryd.underlying25 hi hz .i64 .i64 (n : Int) (n : Int) (by omega) (by omega) (by rw [hb]; omega) (by omega)
  unfold mkI
  rw [this, hs, Nat.mul_one]
  simp only [Int.toNat_natCast]
  rw [show (Value.int IntKind.i64 0).cells = #[.int .i64 0] from rfl, made_i]
attribute [local go_sem ↓] mki_op
/-- of loose write i so many bytes -/
def spr (K : List Int) (T B : Int) (i : Nat) : Int := if (i : Int) ∈ K then 128 else if (i : Int) = T then B else 0
def sprL (K : List Int) (T B : Int) (k : Nat) : List Int := (List.range k).map (spr K T B)
theorem sprL_len (K : List Int) (T B : Int) (k : Nat) : (sprL K T B k).length = k := by simp [sprL]
theorem sprL_at (K : List Int) (T B : Int) (k i : Nat) (h : i < (sprL K T B k).length) : (sprL K T B k)[i] = spr K T B i := by simp [sprL]
theorem sprL_first (T B : Int) (k : Nat) (h : 0 ≤ T ∧ T < (k : Int)) : (ic (List.replicate k 0)).set T.toNat (.int .i64 B) = ic (sprL [] T B k) := by
  unfold ic
  rw [← List.map_set]
  congr 1
  apply List.ext_getElem
  · simp [sprL]
  · intro i h1 h2
    rw [List.getElem_set, sprL_at]
    unfold spr
    simp only [List.not_mem_nil, if_false, List.getElem_replicate]
    by_cases e : T.toNat = i
    · rw [if_pos e, if_pos (by omega)]
    · rw [if_neg e, if_neg (by omega)]
theorem sprL_none (T B : Int) (k : Nat) (h : ¬ (0 ≤ T ∧ T < (k : Int))) : List.replicate k 0 = sprL [] T B k := by
  apply List.ext_getElem
  · simp [sprL]
  · intro i h1 h2
    rw [sprL_at]
    unfold spr
    simp only [List.not_mem_nil, if_false, List.getElem_replicate]
    rw [if_neg (by simp at h1; omega)]
theorem sprL_in (K : List Int) (T B x : Int) (k : Nat) (h : 0 ≤ x ∧ x < (k : Int)) : (ic (sprL K T B k)).set x.toNat (.int .i64 128) = ic (sprL (K ++ [x]) T B k) := by
  unfold ic
  rw [← List.map_set]
  congr 1
  apply List.ext_getElem
  · simp [sprL]
  · intro i h1 h2
    rw [List.getElem_set, sprL_at, sprL_at]
    unfold spr
    simp only [List.mem_append, List.mem_singleton]
    by_cases e : x.toNat = i
    · rw [if_pos e, if_pos (.inr (by omega))]
    · rw [if_neg e]
      by_cases hm : (i : Int) ∈ K
      · rw [if_pos hm, if_pos (.inl hm)]
      · rw [if_neg (show ¬ ((i : Int) ∈ K ∨ (i : Int) = x) from fun hh => hh.elim hm (fun h' => by omega)), if_neg hm]
theorem sprL_out (K : List Int) (T B x : Int) (k : Nat) (h : ¬ (0 ≤ x ∧ x < (k : Int))) : sprL K T B k = sprL (K ++ [x]) T B k := by
  apply List.ext_getElem
  · simp [sprL]
  · intro i h1 h2
    rw [sprL_at, sprL_at]
    unfold spr
    simp only [List.mem_append, List.mem_singleton]
    have hi : i < k := by simpa [sprL] using h1
    by_cases hm : (i : Int) ∈ K
    · rw [if_pos hm, if_pos (.inl hm)]
    · rw [if_neg (show ¬ ((i : Int) ∈ K ∨ (i : Int) = x) from fun hh => hh.elim hm (fun h' => by omega)), if_neg hm]
set_option maxHeartbeats 4000000 in
theorem spared_any (kv : Value) (K : List Int) (T B : Int) (k : Nat) (w : World) (hK : RI w kv K) (hk : k ≤ 1000000) (hKl : K.length ≤ 9223372036854775807) :
    Calls Tryd.prog 34 #[.agg #[kv, .int .i64 T, .int .i64 B], .int .i64 (k : Int)] w fun e w' => (∃ g, e = .returned (.slice (some ⟨g, 0, none⟩) k k) ∧ w.heap.size ≤ g ∧ w'.heap[g]? = some (.cells (ic (sprL K T B k)).toArray 3 (0, 0))) ∧ Below w.heap.size w w' := by
  obtain ⟨ao, c, rfl, hc, hcell⟩ := hK
  have hm := run_mkI k hk
  have bA := (Below.refl w.heap.size w).alloc (Nat.le_refl _) (.cells #[.slice ao K.length c, .int .i64 T, .int .i64 B] 33)
  have hA := heap_alloc_new w (.cells #[.slice ao K.length c, .int .i64 T, .int .i64 B] 33)
  obtain ⟨W, hW⟩ : ∃ W, w.alloc (.cells #[.slice ao K.length c, .int .i64 T, .int .i64 B] 33) = W := ⟨_, rfl⟩
  rw [hW] at bA hA
  have bB := (Below.refl W.heap.size W).alloc (Nat.le_refl _) (.cells (ic (List.replicate k 0)).toArray 3)
  have hB := heap_alloc_new W (.cells (ic (List.replicate k 0)).toArray 3)
  obtain ⟨V, hV⟩ : ∃ V, W.alloc (.cells (ic (List.replicate k 0)).toArray 3) = V := ⟨_, rfl⟩
  rw [hV] at bB hB
  have hwW : w.heap.size < W.heap.size := (Array.getElem?_eq_some_iff.1 hA).1
  have hWV : W.heap.size < V.heap.size := (Array.getElem?_eq_some_iff.1 hB).1
  have hA2 := (bB.block _ hwW).trans hA
  have d0 : V.cell? ⟨w.heap.size, 0, none⟩ = some (.slice ao K.length c) := by rw [cell_of_row V _ 0 _ _ _ hA2]; rfl
  have d1 : V.cell? ⟨w.heap.size, 1, none⟩ = some (.int .i64 T) := by rw [cell_of_row V _ 1 _ _ _ hA2]; rfl
  have d2 : V.cell? ⟨w.heap.size, 2, none⟩ = some (.int .i64 B) := by rw [cell_of_row V _ 2 _ _ _ hA2]; rfl
  have HCl := hid hcell
  have HA2 := hid hA2
  have HBV := hid hB
  have BV := hid (bA.trans (bB.mono (Nat.le_of_lt hwW)))
  clear hcell bA bB hA hB hA2
  by_cases hT0 : 0 ≤ T
  · by_cases hT1 : T < (k : Int)
    · obtain ⟨tq, rfl⟩ : ∃ tq : Nat, T = (tq : Int) := ⟨T.toNat, by omega⟩
      have hqk : tq < k := by omega
      have c0 : V.cell? ⟨W.heap.size, tq, none⟩ = some (.int .i64 0) := by
        rw [cell_of_row V _ tq _ _ _ HBV.out]
        simp only [List.getElem?_toArray]
        rw [ic_at _ tq (by simpa using hqk)]
        simp
      have f0 : V.frozen? ⟨W.heap.size, tq, none⟩ = false := by simp [World.frozen?, HBV.out]
      have HX := hid (show (V.setCell ⟨W.heap.size, tq, none⟩ (.int .i64 B)).heap[W.heap.size]? = some (.cells (ic (sprL [] (tq : Int) B k)).toArray 3 (0, 0)) by
        rw [heap_setCell_same V W.heap.size tq _ _ _ HBV.out, List.setIfInBounds_toArray, ← sprL_first (tq : Int) B k ⟨hT0, hT1⟩]
        simp)
      have BX := hid (BV.out.setCell (p := ⟨W.heap.size, tq, none⟩) (Nat.le_of_lt hwW) (.int .i64 B))
      have hne : w.heap.size ≠ W.heap.size := by omega
      go_enter Tryd.func34, Tryd.ntmps34
      go_wp2_with fail
      clear d0 d1 d2
      go_loopw [28] (fun i wx => ∃ j : Nat, j ≤ K.length ∧ i = .int .i64 (j : Int) ∧ wx.heap[W.heap.size]? = some (.cells (ic (sprL (K.take j) (tq : Int) B k)).toArray 3 (0, 0)) ∧ Below w.heap.size w wx) (fun i _ => K.length - (intOf i).toNat)
      case atStart => exact ⟨0, by omega, rfl, by rw [List.take_zero]; exact HX.out, BX.out⟩
      case round =>
        obtain ⟨j, hj, rfl, hh, hb⟩ := hrel
        have HH := hid hh
        have HB := hid hb
        clear hh hb
        by_cases hlt : j < K.length
        · have hI : (j : Int) < (K.length : Int) := by omega
          obtain ⟨g, off, hao, hx⟩ := HCl.out j hlt
          subst hao
          have hx := below_cells HB.out _ _ hx
          have htk : K.take (j + 1) = K.take j ++ [K[j]] := by rw [List.take_add_one, List.getElem?_eq_getElem hlt]; rfl
          obtain ⟨x, hxe⟩ : ∃ x, K[j] = x := ⟨_, rfl⟩
          rw [hxe] at hx htk
          have HTK := hid htk
          clear hxe htk
          by_cases h0 : 0 ≤ x
          · by_cases h1 : x < (k : Int)
            · obtain ⟨q, rfl⟩ : ∃ q : Nat, x = (q : Int) := ⟨x.toNat, by omega⟩
              have hqk : q < k := by omega
              have c0 : wr.cell? ⟨W.heap.size, q, none⟩ = some (.int .i64 (spr (K.take j) (tq : Int) B q)) := by
                rw [cell_of_row wr _ q _ _ _ HH.out]
                simp only [List.getElem?_toArray]
                rw [ic_at _ q (by rw [sprL_len]; exact hqk), sprL_at]
              have f0 : wr.frozen? ⟨W.heap.size, q, none⟩ = false := by simp [World.frozen?, HH.out]
              have HN := hid (show (wr.setCell ⟨W.heap.size, q, none⟩ (.int .i64 128)).heap[W.heap.size]? = some (.cells (ic (sprL (K.take (j + 1)) (tq : Int) B k)).toArray 3 (0, 0)) by
                rw [heap_setCell_same wr W.heap.size q _ _ _ HH.out, List.setIfInBounds_toArray, HTK.out, ← sprL_in (K.take j) (tq : Int) B (q : Int) k ⟨h0, h1⟩]
                simp)
              have BN := hid (HB.out.setCell (p := ⟨W.heap.size, q, none⟩) (Nat.le_of_lt hwW) (.int .i64 128))
              go_wp2
              go_roundw
              case rel => exact ⟨j + 1, by omega, by go_num, HN.out, BN.out⟩
              case measure => simp [intOf]; omega
            · have HN := hid (show wr.heap[W.heap.size]? = some (.cells (ic (sprL (K.take (j + 1)) (tq : Int) B k)).toArray 3 (0, 0)) by
                rw [HTK.out, ← sprL_out (K.take j) (tq : Int) B x k (fun h => h1 h.2)]
                exact HH.out)
              go_wp2
              go_roundw
              case rel => exact ⟨j + 1, by omega, by go_num, HN.out, HB.out⟩
              case measure => simp [intOf]; omega
          · have HN := hid (show wr.heap[W.heap.size]? = some (.cells (ic (sprL (K.take (j + 1)) (tq : Int) B k)).toArray 3 (0, 0)) by
              rw [HTK.out, ← sprL_out (K.take j) (tq : Int) B x k (fun h => h0 h.1)]
              exact HH.out)
            go_wp2
            go_roundw
            case rel => exact ⟨j + 1, by omega, by go_num, HN.out, HB.out⟩
            case measure => simp [intOf]; omega
        · have hI : ¬ (j : Int) < (K.length : Int) := by omega
          rw [List.take_of_length_le (by omega)] at HH
          go_wp2
          go_ret
          exact ⟨⟨W.heap.size, rfl, Nat.le_of_lt hwW, HH.out⟩, HB.out⟩
    · have HX := HBV
      rw [sprL_none T B k (fun h => hT1 h.2)] at HX
      have BX := BV
      go_enter Tryd.func34, Tryd.ntmps34
      go_wp2_with fail
      clear d0 d1 d2
      go_loopw [28] (fun i wx => ∃ j : Nat, j ≤ K.length ∧ i = .int .i64 (j : Int) ∧ wx.heap[W.heap.size]? = some (.cells (ic (sprL (K.take j) T B k)).toArray 3 (0, 0)) ∧ Below w.heap.size w wx) (fun i _ => K.length - (intOf i).toNat)
      case atStart => exact ⟨0, by omega, rfl, by rw [List.take_zero]; exact HX.out, BX.out⟩
      case round =>
        obtain ⟨j, hj, rfl, hh, hb⟩ := hrel
        have HH := hid hh
        have HB := hid hb
        clear hh hb
        by_cases hlt : j < K.length
        · have hI : (j : Int) < (K.length : Int) := by omega
          obtain ⟨g, off, hao, hx⟩ := HCl.out j hlt
          subst hao
          have hx := below_cells HB.out _ _ hx
          have htk : K.take (j + 1) = K.take j ++ [K[j]] := by rw [List.take_add_one, List.getElem?_eq_getElem hlt]; rfl
          obtain ⟨x, hxe⟩ : ∃ x, K[j] = x := ⟨_, rfl⟩
          rw [hxe] at hx htk
          have HTK := hid htk
          clear hxe htk
          by_cases h0 : 0 ≤ x
          · by_cases h1 : x < (k : Int)
            · obtain ⟨q, rfl⟩ : ∃ q : Nat, x = (q : Int) := ⟨x.toNat, by omega⟩
              have hqk : q < k := by omega
              have c0 : wr.cell? ⟨W.heap.size, q, none⟩ = some (.int .i64 (spr (K.take j) T B q)) := by
                rw [cell_of_row wr _ q _ _ _ HH.out]
                simp only [List.getElem?_toArray]
                rw [ic_at _ q (by rw [sprL_len]; exact hqk), sprL_at]
              have f0 : wr.frozen? ⟨W.heap.size, q, none⟩ = false := by simp [World.frozen?, HH.out]
              have HN := hid (show (wr.setCell ⟨W.heap.size, q, none⟩ (.int .i64 128)).heap[W.heap.size]? = some (.cells (ic (sprL (K.take (j + 1)) T B k)).toArray 3 (0, 0)) by
                rw [heap_setCell_same wr W.heap.size q _ _ _ HH.out, List.setIfInBounds_toArray, HTK.out, ← sprL_in (K.take j) T B (q : Int) k ⟨h0, h1⟩]
                simp)
              have BN := hid (HB.out.setCell (p := ⟨W.heap.size, q, none⟩) (Nat.le_of_lt hwW) (.int .i64 128))
              go_wp2
              go_roundw
              case rel => exact ⟨j + 1, by omega, by go_num, HN.out, BN.out⟩
              case measure => simp [intOf]; omega
            · have HN := hid (show wr.heap[W.heap.size]? = some (.cells (ic (sprL (K.take (j + 1)) T B k)).toArray 3 (0, 0)) by
                rw [HTK.out, ← sprL_out (K.take j) T B x k (fun h => h1 h.2)]
                exact HH.out)
              go_wp2
              go_roundw
              case rel => exact ⟨j + 1, by omega, by go_num, HN.out, HB.out⟩
              case measure => simp [intOf]; omega
          · have HN := hid (show wr.heap[W.heap.size]? = some (.cells (ic (sprL (K.take (j + 1)) T B k)).toArray 3 (0, 0)) by
              rw [HTK.out, ← sprL_out (K.take j) T B x k (fun h => h0 h.1)]
              exact HH.out)
            go_wp2
            go_roundw
            case rel => exact ⟨j + 1, by omega, by go_num, HN.out, HB.out⟩
            case measure => simp [intOf]; omega
        · have hI : ¬ (j : Int) < (K.length : Int) := by omega
          rw [List.take_of_length_le (by omega)] at HH
          go_wp2
          go_ret
          exact ⟨⟨W.heap.size, rfl, Nat.le_of_lt hwW, HH.out⟩, HB.out⟩
  · have HX := HBV
    rw [sprL_none T B k (fun h => hT0 h.1)] at HX
    have BX := BV
    go_enter Tryd.func34, Tryd.ntmps34
    go_wp2_with fail
    clear d0 d1 d2
    go_loopw [28] (fun i wx => ∃ j : Nat, j ≤ K.length ∧ i = .int .i64 (j : Int) ∧ wx.heap[W.heap.size]? = some (.cells (ic (sprL (K.take j) T B k)).toArray 3 (0, 0)) ∧ Below w.heap.size w wx) (fun i _ => K.length - (intOf i).toNat)
    case atStart => exact ⟨0, by omega, rfl, by rw [List.take_zero]; exact HX.out, BX.out⟩
    case round =>
      obtain ⟨j, hj, rfl, hh, hb⟩ := hrel
      have HH := hid hh
      have HB := hid hb
      clear hh hb
      by_cases hlt : j < K.length
      · have hI : (j : Int) < (K.length : Int) := by omega
        obtain ⟨g, off, hao, hx⟩ := HCl.out j hlt
        subst hao
        have hx := below_cells HB.out _ _ hx
        have htk : K.take (j + 1) = K.take j ++ [K[j]] := by rw [List.take_add_one, List.getElem?_eq_getElem hlt]; rfl
        obtain ⟨x, hxe⟩ : ∃ x, K[j] = x := ⟨_, rfl⟩
        rw [hxe] at hx htk
        have HTK := hid htk
        clear hxe htk
        by_cases h0 : 0 ≤ x
        · by_cases h1 : x < (k : Int)
          · obtain ⟨q, rfl⟩ : ∃ q : Nat, x = (q : Int) := ⟨x.toNat, by omega⟩
            have hqk : q < k := by omega
            have c0 : wr.cell? ⟨W.heap.size, q, none⟩ = some (.int .i64 (spr (K.take j) T B q)) := by
              rw [cell_of_row wr _ q _ _ _ HH.out]
              simp only [List.getElem?_toArray]
              rw [ic_at _ q (by rw [sprL_len]; exact hqk), sprL_at]
            have f0 : wr.frozen? ⟨W.heap.size, q, none⟩ = false := by simp [World.frozen?, HH.out]
            have HN := hid (show (wr.setCell ⟨W.heap.size, q, none⟩ (.int .i64 128)).heap[W.heap.size]? = some (.cells (ic (sprL (K.take (j + 1)) T B k)).toArray 3 (0, 0)) by
              rw [heap_setCell_same wr W.heap.size q _ _ _ HH.out, List.setIfInBounds_toArray, HTK.out, ← sprL_in (K.take j) T B (q : Int) k ⟨h0, h1⟩]
              simp)
            have BN := hid (HB.out.setCell (p := ⟨W.heap.size, q, none⟩) (Nat.le_of_lt hwW) (.int .i64 128))
            go_wp2
            go_roundw
            case rel => exact ⟨j + 1, by omega, by go_num, HN.out, BN.out⟩
            case measure => simp [intOf]; omega
          · have HN := hid (show wr.heap[W.heap.size]? = some (.cells (ic (sprL (K.take (j + 1)) T B k)).toArray 3 (0, 0)) by
              rw [HTK.out, ← sprL_out (K.take j) T B x k (fun h => h1 h.2)]
              exact HH.out)
            go_wp2
            go_roundw
            case rel => exact ⟨j + 1, by omega, by go_num, HN.out, HB.out⟩
            case measure => simp [intOf]; omega
        · have HN := hid (show wr.heap[W.heap.size]? = some (.cells (ic (sprL (K.take (j + 1)) T B k)).toArray 3 (0, 0)) by
            rw [HTK.out, ← sprL_out (K.take j) T B x k (fun h => h0 h.1)]
            exact HH.out)
          go_wp2
          go_roundw
          case rel => exact ⟨j + 1, by omega, by go_num, HN.out, HB.out⟩
          case measure => simp [intOf]; omega
      · have hI : ¬ (j : Int) < (K.length : Int) := by omega
        rw [List.take_of_length_le (by omega)] at HH
        go_wp2
        go_ret
        exact ⟨⟨W.heap.size, rfl, Nat.le_of_lt hwW, HH.out⟩, HB.out⟩
end Go.Proofs.YtjaopckdhohpbaaDoor
