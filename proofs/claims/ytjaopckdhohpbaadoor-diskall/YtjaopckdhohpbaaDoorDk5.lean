/-
  How many sectors; what is read; a write.
-/
import Derived.Test.YtjaopckdhohpbaaDoorDk4
import Derived.Deep.WholeRow
namespace Go.Proofs.YtjaopckdhohpbaaDoor
open Go.RowKit
set_option maxRecDepth 100000

theorem ret_int {k : IntKind} {a b : Int} (h : a = b) : Ending.returned (.int k a) = .returned (.int k b) := by rw [h]
theorem sectors_any (base d f s cap : Nat) (tail : List Value) (F S : List UInt8) (dv : Value) (O : List Opn) (w : World) (h : DK w base d f s cap tail F S dv O) :
    Calls Tryd.prog 44 #[.pointer (some ⟨d, 0, none⟩)] w fun e w' => e = .returned (.int .i64 ((F.length / 128 : Nat) : Int)) ∧ w' = w := by
  obtain ⟨c0, c1, c2, c3⟩ := h.cells
  have hF := h.fm
  clear h
  go_enter Tryd.func44, Tryd.ntmps44
  go_wp2
  go_ret
  exact ⟨ret_int (by omega), rfl⟩
theorem has_any (base d f s cap n : Nat) (tail : List Value) (F S : List UInt8) (dv : Value) (O : List Opn) (w : World) (h : DK w base d f s cap tail F S dv O) (hn : n < F.length / 128) :
    Calls Tryd.prog 36 #[.pointer (some ⟨d, 0, none⟩), .int .i64 (n : Int)] w fun e w' => e = .returned (.bool true) ∧ w' = w := by
  have HS := hid (sectors_any base d f s cap tail F S dv O w h)
  have hnI : (n : Int) < ((F.length / 128 : Nat) : Int) := by omega
  clear h
  generalize ((F.length / 128 : Nat) : Int) = q at *
  go_enter Tryd.func36, Tryd.ntmps36
  go_wp2_with fail
  refine HS.out.mono ?_
  rintro e w' ⟨rfl, rfl⟩
  go_wp2
  go_ret
  exact ⟨rfl, rfl⟩
theorem Reads.here {w : World} {v : Value} {l : List UInt8} (h : Reads w v l) (hl : 0 < l.length) : ∃ b off cap, v = .slice (some ⟨b, off, none⟩) l.length cap ∧ l.length ≤ cap ∧ ∀ j (hj : j < l.length), w.cell? ⟨b, off + j, none⟩ = some (.int .u8 (l[j].toNat : Int)) := by
  rcases h with ⟨rfl, _⟩ | h
  · simp at hl
  · exact h
theorem Reads.src {w : World} {b off : Nat} {l : List UInt8} (h : ∀ j (hj : j < l.length), w.cell? ⟨b, off + j, none⟩ = some (.int .u8 (l[j].toNat : Int))) : ∀ j v, (bc l)[j]? = some v → w.cell? ((⟨b, off, none⟩ : Addr).add j) = some v := fun j v hv => by
  have hj : j < l.length := by
    have := (List.getElem?_eq_some_iff.1 hv).1
    rwa [bc_length] at this
  rw [bc_at l j hj] at hv
  cases hv
  rw [Addr.add_lit]
  exact h j hj
theorem zero_op (w : World) : (zeroValue 75).run Tryd.prog w = .ok (.agg (opc (0, zer)).toArray) w := by
  obtain ⟨i, hi, hz, hs, _⟩ := info_parts opinfo
  simp [zeroValue, typeInfo, hi, hz]
def opStore (a : Addr) (v : Value) : Sem Unit := storeVar 75 a v
theorem storeVar_op (a : Addr) (v : Value) : storeVar 75 a v = opStore a v := rfl
theorem run_opStore {w : World} {c K : List Value} (hc : c.length = 129) (hK : K.length = 129) (h1 : ∀ u ∈ K, u.oneCell' = true) : (opStore ⟨w.heap.size, 0, none⟩ (.agg K.toArray)).run Tryd.prog (w.alloc (.cells c.toArray 75)) = .ok () (w.alloc (.cells K.toArray 75)) := by
  unfold opStore
  exact run_storeVar_new w _ _ _ (by rw [op_info]; simp [hK]) (by simp [hc, hK]) (all_oneCell_toArray h1)
attribute [local go_sem ↓] loadVar_op storeVar_op
attribute [local go_sem] run_opLoad
set_option maxHeartbeats 4000000 in
theorem write_any (base d f s cap n : Nat) (tail : List Value) (F S B : List UInt8) (dv pv : Value) (O : List Opn) (w : World) (hfl : HasFl w) (h : DK w base d f s cap tail F S dv O) (hO : O.length < 65536) (hp : Reads w pv B) (hB : B.length = 128) (hn : n < F.length / 128) (hFS : F.length = S.length) (hbase : base ≤ w.heap.size) (hb0 : 0 < base) :
    Calls Tryd.prog 17 #[.pointer (some ⟨d, 0, none⟩), .int .i64 (n : Int), pv] w fun e w' => e = .returned (.int .i64 0) ∧ (∃ dv', DK w' base d f s cap tail F (splice S (n * 128) B) dv' (O ++ [((n : Int), B)])) ∧ Below base w w' := by
  have HS := hid (has_any base d f s cap n tail F S dv O w h hn)
  obtain ⟨b, off, pc, rfl, hpc, hcell⟩ := hp.here (by omega)
  have hbe : ((B.length : Int) != 128) = false := by simp; omega
  have HD := hid h
  have HF := hid hfl
  have bA : ∀ o, Below w.heap.size w (w.alloc o) := fun o => (Below.refl _ _).alloc (Nat.le_refl _) o
  have HSrc := hid (fun o => Reads.src (w := w.alloc o) (b := b) (off := off) (l := B) (fun j hj => below_cells (bA o) _ _ (hcell j hj)))
  clear h hp hfl hcell
  go_enter Tryd.func17, Tryd.ntmps17
  go_wp2_with fail
  refine HS.out.mono ?_
  rintro e wz ⟨rfl, hwz⟩
  have hws := hwz.symm
  clear hwz HS
  subst hws
  have z1 := zero_op
  have z2 : opc (0, zer) ≠ [] := by simp [opc]
  have z3 : (opc (0, zer)).set 0 (.int .i64 (n : Int)) = opc ((n : Int), zer) := by simp [opc]
  have z4 := run_opStore (w := w) (c := opc (0, zer)) (K := opc ((n : Int), zer)) (opc_len rfl) (opc_len rfl) (opc_one _)
  have z5 := opc_len (o := ((n : Int), zer)) rfl
  have hcp : (Builtin.copy_ #[34, 34] 3 #[.slice (some ⟨w.heap.size, 1, none⟩) 128 128, .slice (some ⟨b, off, none⟩) 128 pc]).run Tryd.prog (w.alloc (.cells (opc ((n : Int), zer)).toArray 75)) = .ok (goInt 128) (w.alloc (.cells (opc ((n : Int), B)).toArray 75)) := by
    have hr := run_copy_row (P := Tryd.prog) (w.alloc (.cells (opc ((n : Int), zer)).toArray 75)) 34 34 3 5 w.heap.size 1 128 128 ⟨b, off, none⟩ 128 pc (opc ((n : Int), zer)).toArray 75 (bc B) Tryd.underlying34 u8_one (heap_alloc_new _ _) (by rw [bc_length, hB]; rfl) (HSrc.out _) (by rw [bc_length, hB]; simp [z5]) (bc_one B)
    rw [hr, World.setRow_alloc_new, bc_length, hB]
    have e1 : (opc ((n : Int), zer)).toArray.toList.take 1 = [.int .i64 (n : Int)] := by simp [opc]
    have e2 : (opc ((n : Int), zer)).toArray.toList.drop (1 + 128) = [] := List.drop_of_length_le (by simp [z5])
    rw [e1, e2, List.append_nil]
    rfl
  generalize opc (0, zer) = Z at *
  generalize hOZ : opc ((n : Int), zer) = OZ at *
  have hR := rdO_is (w := w.alloc (.cells (opc ((n : Int), B)).toArray 75)) (p := w.heap.size) (off := 0) (cs := opc ((n : Int), B)) (fun j v hv => by
    rw [cell_of_row _ w.heap.size (0 + j) (opc ((n : Int), B)).toArray _ (0, 0) (heap_alloc_new _ _)]
    simpa using hv) (opc_len hB)
  obtain ⟨hR1, hR2⟩ := hR
  have HDo := hid (do_write base d f s cap n tail F S B dv O _ (HF.out.below (bA (.cells (opc ((n : Int), B)).toArray 75))) (HD.out.below (bA _)) hO hB (by omega) (Nat.le_trans hbase (bA _).size) hb0)
  have BA := hid ((bA (.cells (opc ((n : Int), B)).toArray 75)).mono hbase)
  clear bA
  go_wp2_with fail
  refine HDo.out.mono ?_
  rintro e w' ⟨rfl, hdk, hb⟩
  have H1 := hid hdk
  have B1 := hid (BA.out.trans hb)
  clear hdk hb
  go_wp2
  go_ret
  exact ⟨rfl, H1.out, B1.out⟩
set_option maxHeartbeats 4000000 in
theorem flush_any (base d f s cap : Nat) (tail : List Value) (F S : List UInt8) (dv : Value) (O : List Opn) (w : World) (hfl : HasFl w) (h : DK w base d f s cap tail F S dv O) (hO : O.length < 65536) (hbase : base ≤ w.heap.size) (hb0 : 0 < base) :
    Calls Tryd.prog 26 #[.pointer (some ⟨d, 0, none⟩)] w fun e w' => e = .returned (.int .i64 0) ∧ (∃ dv', DK w' base d f s cap tail F S dv' (O ++ [flO])) ∧ Below base w w' := by
  have hR := rdO_is (fl_range hfl) (opc_len (o := flO) rfl)
  obtain ⟨hR1, hR2⟩ := hR
  have HDo := hid (do_flush base d f s cap tail F S dv O w hfl h hO hbase hb0)
  clear h hfl
  generalize opc flO = FL at *
  go_enter Tryd.func26, Tryd.ntmps26
  go_wp2_with fail
  refine HDo.out.mono ?_
  rintro e w' ⟨rfl, hdk, hb⟩
  have H1 := hid hdk
  have B1 := hid hb
  clear hdk hb
  go_wp2
  go_ret
  exact ⟨rfl, H1.out, B1.out⟩
end Go.Proofs.YtjaopckdhohpbaaDoor
