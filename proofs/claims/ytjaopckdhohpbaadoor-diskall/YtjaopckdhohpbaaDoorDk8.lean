/-
  Sectors of one byte; the operations up to the last flush.
-/
import Derived.Test.YtjaopckdhohpbaaDoorDk7
namespace Go.Proofs.YtjaopckdhohpbaaDoor
open Go.RowKit
set_option maxRecDepth 100000
attribute [local go_sem ↓] mk_op

def fil (b : UInt8) (k : Nat) : List UInt8 := List.replicate k b ++ zs (128 - k)
theorem fil_len (b : UInt8) (k : Nat) (h : k ≤ 128) : (fil b k).length = 128 := by simp [fil, zs]; omega
theorem fil_set (b : UInt8) (k : Nat) (h : k < 128) : (bc (fil b k)).set k (.int .u8 (b.toNat : Int)) = bc (fil b (k + 1)) := by
  unfold bc
  rw [← List.map_set]
  congr 1
  unfold fil zs
  obtain ⟨m, hm⟩ : ∃ m, 128 - k = m + 1 := ⟨128 - k - 1, by omega⟩
  rw [hm, show 128 - (k + 1) = m by omega, List.set_append_right _ _ (by simp), List.length_replicate, Nat.sub_self, List.replicate_succ, List.set_cons_zero, List.replicate_succ', List.append_assoc]
  rfl
def one (b : UInt8) : List UInt8 := List.replicate 128 b
set_option maxHeartbeats 2000000 in
theorem full_any (b : UInt8) (w : World) : Calls Tryd.prog 18 #[.int .u8 (b.toNat : Int)] w fun e w' => (∃ g, e = .returned (.slice (some ⟨g, 0, none⟩) 128 128) ∧ Reads w' (.slice (some ⟨g, 0, none⟩) 128 128) (one b)) ∧ Below w.heap.size w w' := by
  have hm := run_mkB 128 (by omega)
  have bA := (Below.refl w.heap.size w).alloc (Nat.le_refl _) (.cells (bc (zs 128)).toArray 5)
  have HA := hid (heap_alloc_new w (.cells (bc (zs 128)).toArray 5))
  obtain ⟨W, hW⟩ : ∃ W, w.alloc (.cells (bc (zs 128)).toArray 5) = W := ⟨_, rfl⟩
  rw [hW] at bA HA
  have HB := hid bA
  clear bA
  rw [show ((128 : Nat) : Int) = 128 from rfl] at hm
  go_enter Tryd.func18, Tryd.ntmps18
  go_wp2_with fail
  clear hW hm
  go_loopw [4] (fun i wx => ∃ k : Nat, k ≤ 128 ∧ i = .int .i64 (k : Int) ∧ wx.heap[w.heap.size]? = some (.cells (bc (fil b k)).toArray 5 (0, 0)) ∧ Below w.heap.size w wx) (fun i _ => 128 - (intOf i).toNat)
  case atStart => exact ⟨0, by omega, rfl, HA.out, HB.out⟩
  case round =>
    obtain ⟨k, hk, rfl, hh, hb⟩ := hrel
    have hl := fil_len b k hk
    by_cases hlt : k < 128
    · have hI : (k : Int) < 128 := by omega
      have c0 : wr.cell? ⟨w.heap.size, k, none⟩ = some (.int .u8 (((fil b k)[k]'(by omega)).toNat : Int)) := by
        rw [cell_of_row wr _ k _ _ _ hh]
        simp only [List.getElem?_toArray]
        exact bc_at _ k (by omega)
      have f0 : wr.frozen? ⟨w.heap.size, k, none⟩ = false := by simp [World.frozen?, hh]
      have HN := hid (show (wr.setCell ⟨w.heap.size, k, none⟩ (.int .u8 (b.toNat : Int))).heap[w.heap.size]? = some (.cells (bc (fil b (k + 1))).toArray 5 (0, 0)) by
        rw [heap_setCell_same wr w.heap.size k _ _ _ hh, List.setIfInBounds_toArray, fil_set b k hlt])
      have BN := hid (hb.setCell (p := ⟨w.heap.size, k, none⟩) (Nat.le_refl _) (.int .u8 (b.toNat : Int)))
      clear hh hb
      go_wp2
      go_roundw
      case rel => exact ⟨k + 1, by omega, by go_num, HN.out, BN.out⟩
      case measure => simp [intOf]; omega
    · have hI : ¬ (k : Int) < 128 := by omega
      have hk2 : k = 128 := by omega
      subst hk2
      have HR := hid (reads_row hh)
      have B1 := hid hb
      rw [hl] at HR
      have he : fil b 128 = one b := by simp [fil, one, zs]
      rw [he] at HR
      clear hh hb
      go_wp2
      go_ret
      exact ⟨⟨_, rfl, HR.out⟩, B1.out⟩
/-- up to the last flush of the first n -/
def brr (O : List Opn) : Nat → Nat
  | 0 => 0
  | n + 1 => if O[n]? = some flO then n + 1 else brr O n
theorem brr_le (O : List Opn) (n : Nat) : brr O n ≤ n := by
  induction n with
  | zero => simp [brr]
  | succ n ih => unfold brr; split <;> omega
theorem DK.opR {w : World} {base d f s cap : Nat} {tail : List Value} {F S : List UInt8} {dv : Value} {O : List Opn} (h : DK w base d f s cap tail F S dv O) (i : Nat) (hi : i < O.length) : ∃ g c, dv = .slice (some ⟨g, 0, none⟩) O.length c ∧ O.length ≤ c ∧ base ≤ g ∧ w.rangeAt g (i * 129) (opc O[i]) := by
  rcases h.own.2 with ⟨_, h0⟩ | ⟨g, c, cur, hv, hb, hg, hn, hm, hs, ht⟩
  · omega
  · refine ⟨g, c, hv, hn, hb, fun j v hv => ?_⟩
    have hlo := h.op _ (List.getElem_mem hi)
    have hj : j < 129 := by
      have := (List.getElem?_eq_some_iff.1 hv).1
      rwa [opc_len hlo] at this
    rw [cell_of_row w g _ _ _ _ hg]
    have e1 : cur[i * 129 + j]? = (cur.toList.take (O.length * 129))[i * 129 + j]? := by
      rw [List.getElem?_take, if_pos (by omega)]
      simp
    rw [e1, ht]
    have hL : O = O.take i ++ O[i] :: O.drop (i + 1) := by rw [List.getElem_cons_drop, List.take_append_drop]
    have hfl : ∀ L : List Opn, (∀ o ∈ L, o.2.length = 128) → (L.flatMap opc).length = L.length * 129 := by
      intro L hL
      induction L with
      | nil => rfl
      | cons x t ih => rw [List.flatMap_cons, List.length_append, opc_len (hL x (by simp)), ih (fun o ho => hL o (by simp [ho]))]; simp; omega
    have hti := hfl (O.take i) (fun o ho => h.op o (List.mem_of_mem_take ho))
    rw [List.length_take, show min i O.length = i by omega] at hti
    have e2 : O.flatMap opc = (O.take i).flatMap opc ++ (opc O[i] ++ (O.drop (i + 1)).flatMap opc) := by
      conv => lhs; rw [hL]
      rw [List.flatMap_append, List.flatMap_cons]
    rw [e2, List.getElem?_append_right (by omega), hti, show i * 129 + j - i * 129 = j by omega, List.getElem?_append_left (by rw [opc_len hlo]; exact hj)]
    exact hv
end Go.Proofs.YtjaopckdhohpbaaDoor
