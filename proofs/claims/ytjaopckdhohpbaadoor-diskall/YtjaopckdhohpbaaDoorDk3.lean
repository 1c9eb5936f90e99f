/-
  A write laid over an image.
-/
import Derived.Test.YtjaopckdhohpbaaDoorDk2
import Derived.Laws.AppendOwn
namespace Go.Proofs.YtjaopckdhohpbaaDoor
open Go.RowKit
set_option maxRecDepth 100000

theorem gb_of {w w' : World} {row : Option Nat} (h : Below w.heap.size w w') : w.grownBy w' row := ⟨h.os, h.tape, h.output, h.size, fun k hk _ => h.block k hk⟩
theorem gb_trans {a c d : World} {row : Option Nat} (h : a.grownBy c row) (h' : c.grownBy d row) : a.grownBy d row := ⟨h'.os.trans h.os, h'.tape.trans h.tape, h'.output.trans h.output, Nat.le_trans h.size h'.size, fun k hk hr => (h'.block k (Nat.lt_of_lt_of_le hk h.size) hr).trans (h.block k hk hr)⟩
theorem gb_setRow (w : World) (g : Nat) (c : Array Value) : w.grownBy (w.setRow g c) (some g) := ⟨rfl, rfl, rfl, by simp [World.setRow], fun k _ hr => setRow_other w g k c (fun e => hr (by rw [e]))⟩
theorem step_copy_row {P : Program} {ops : Array Oper} {o : Oper} {a : Act} {w : World} {K : Act → World → Prop} {Q : Exit → Act → World → Prop} {E : Prop} (hgd : o.guard = none) (d s : Operand) (dT sT : TypeId)
    (ho : o.op = .call { callee := .builtin .copy, args := #[d, s], argTypes := #[dT, sT] }) (elem : TypeId) (hu : P.underlying dT = some (.slice elem)) (hsz : (P.info? elem).map (·.size) = some 1)
    (g off dLen dCap : Nat) (ad : Addr) (sLen sCap : Nat) (hd : a.eval d = .slice (some ⟨g, off, none⟩) dLen dCap) (hs : a.eval s = .slice (some ad) sLen sCap)
    (cur : Array Value) (t : TypeId) (hg : w.heap[g]? = some (.cells cur t (0, 0))) (cs : List Value) (hn : cs.length = Nat.min sLen dLen)
    (hsrc : ∀ j v, cs[j]? = some v → w.cell? (ad.add j) = some v) (hfit : off + cs.length ≤ cur.size) (h1 : ∀ v ∈ cs, v.oneCell' = true)
    (h : K (a.put o.dst (goInt cs.length)) (w.setRow g (cur.toList.take off ++ (cs ++ cur.toList.drop (off + cs.length))).toArray)) :
    if Region.wanted o (yielded ops a.tmps) = true then Oper.wp P o a w K Q else E := by
  have hw : Region.wanted o (yielded ops a.tmps) = true := by simp [Region.wanted, hgd]
  rw [if_pos hw]
  have hrun := run_copy_row (P := P) w dT sT o.type elem g off dLen dCap ad sLen sCap cur t cs hu hsz hg hn hsrc hfit h1
  unfold Oper.wp
  simp [execOp, ho, resolve, invoke, builtin, hd, hs, hrun, Result.andThen]
  exact h

theorem cell_setRow_other (w : World) (g k off : Nat) (c : Array Value) (h : k ≠ g) : (w.setRow g c).cell? ⟨k, off, none⟩ = w.cell? ⟨k, off, none⟩ := by
  simp only [World.cell?, setRow_other w g k c h]
theorem bc_take {B : List UInt8} {sz j : Nat} {v : Value} (h : (bc (B.take sz))[j]? = some v) : (bc B)[j]? = some v := by
  unfold bc at h ⊢
  rw [List.map_take, List.getElem?_take] at h
  split at h
  · exact h
  · cases h
theorem u8_one : (Tryd.prog.info? 5).map (·.size) = some 1 := by kernel_rfl
set_option maxHeartbeats 4000000 in
theorem lay_write (p off s n N cap sz : Nat) (B : List UInt8) (cur : List Value) (w : World) (hf : HasFl w) (hp : w.rangeAt p off (opc ((n : Int), B))) (hB : B.length = 128) (hps : p ≠ s) (hs : w.heap[s]? = some (.cells cur.toArray 5 (0, 0)))
    (hn : (n + 1) * 128 ≤ N) (hN : N ≤ cap) (hc : cap ≤ 9223372036854775807) (hl : N ≤ cur.length) (hz : sz ≤ 128) :
    Calls Tryd.prog 33 #[.pointer (some ⟨p, off, none⟩), .slice (some ⟨s, 0, none⟩) N cap, .int .i64 (sz : Int)] w fun e w' => e = .returned (.tuple #[]) ∧ w'.heap[s]? = some (.cells (splice cur (n * 128) (bc (B.take sz))).toArray 5 (0, 0)) ∧ w.grownBy w' (some s) := by
  have K1 := hid (show ∀ w', (∃ n, w' = w.drewN n) → (Instr.loadAt 75 (.pointer (some ⟨p, off, none⟩))).run Tryd.prog w' = .ok (.agg (opc ((n : Int), B)).toArray) w' from fun w' ⟨k, h⟩ => by rw [h]; exact op_load (range_drewN hp k) hB)
  have K2 := hid (show ∀ w', (∃ n, w' = w.drewN n) → (Instr.loadAt 75 (.pointer (some ⟨0, 0, none⟩))).run Tryd.prog w' = .ok (.agg (opc flO).toArray) w' from fun w' ⟨k, h⟩ => by rw [h]; exact op_load (range_drewN (fl_range hf) k) rfl)
  have K3 := hid (eq_write ((n : Int), B) (show (n : Int) ≠ -1 by omega))
  have c0 : w.cell? ⟨p, off, none⟩ = some (.int .i64 (n : Int)) := by simpa using hp 0 _ rfl
  have HR := hid (show w.rangeAt p (off + 1) (bc B) from fun j v hv => by
    have := hp (j + 1) v (by simpa [opc] using hv)
    rw [show off + 1 + j = off + (j + 1) by omega]
    exact this)
  have HS := hid hs
  clear hp hf hs
  generalize (opc flO).toArray = FL at *
  generalize (opc ((n : Int), B)).toArray = OL at *
  go_enter Tryd.func33, Tryd.ntmps33
  go_wp2_with fail
  refine wp_region_quiet_lit (by kernel_rfl) (by kernel_rfl) ?_
  go_big_quiet_step (fail)
  go_big_quiet_step (fail)
  (go_big_quiet_want; refine quiet_load 75 _ rfl ⟨p, off, none⟩ rfl _ K1.out ?_; simp only [Act.put, List.setIfInBounds_toArray, List.set_cons_zero, List.set_cons_succ]; go_big_quiet_on)
  (go_big_quiet_want; refine quiet_load 75 _ rfl ⟨0, 0, none⟩ rfl _ K2.out ?_; simp only [Act.put, List.setIfInBounds_toArray, List.set_cons_zero, List.set_cons_succ]; go_big_quiet_on)
  (go_big_quiet_want; refine quiet_neq 75 _ _ _ rfl OL FL rfl rfl op_guard false K3.out ?_; simp only [Act.put, List.setIfInBounds_toArray, List.set_cons_zero, List.set_cons_succ]; go_big_quiet_on)
  refine wpQuiet_nil ?_
  intro _ hw'
  obtain ⟨nq, hw''⟩ := hw'
  subst hw''
  have c1 : (w.drewN nq).cell? ⟨p, off, none⟩ = some (.int .i64 (n : Int)) := by rw [cell_drewN]; exact c0
  have HB := hid (below_drewN (Below.refl w.heap.size w) nq)
  have H2 := hid (show (w.drewN nq).heap[s]? = some (.cells cur.toArray 5 (0, 0)) from (HB.out.block s (Array.getElem?_eq_some_iff.1 HS.out).1).trans HS.out)
  have HR2 := hid (range_drewN HR.out nq)
  have HG := hid (gb_of (row := some s) HB.out)
  clear K1 K2 K3 c0 HR HS HB
  generalize w.drewN nq = W at *
  go_wp2_with fail
  have hmin : (bc (B.take sz)).length = Nat.min sz 128 := by
    rw [bc_length, List.length_take, hB]
  have hlen : (bc (B.take sz)).length = sz := by rw [bc_length, List.length_take, hB]; omega
  have hsz0 : (sz : Int) ≤ 128 := by omega
  have c2 : W.drew.cell? ⟨p, off, none⟩ = some (.int .i64 (n : Int)) := c1
  have HC2 := hid c2
  go_region_held3 (fun w' => w'.cell? ⟨p, off, none⟩ = some (.int .i64 (n : Int))) (first | exact HC2.out | (rw [cell_setRow_other _ _ _ _ _ hps]; exact HC2.out)) (first
    | (go_at_call 37; refine (sector_any s 0 n N cap _ (by omega) hc).mono ?_; rintro e w' ⟨rfl, rfl⟩)
    | (refine step_copy_row rfl (.tmp 16) (.tmp 22) 34 34 rfl 5 Tryd.underlying34 u8_one s (n * 128) 128 128 ⟨p, off + 1, none⟩ sz sz rfl rfl cur.toArray 5 H2.out (bc (B.take sz)) hmin (fun j v hv => by rw [Addr.add_lit]; exact HR2.out j v (bc_take hv)) (by rw [hlen]; simp; omega) (bc_one _) ?_))
  go_wp2
  go_end0
  refine ⟨rfl, ?_, gb_trans HG.out (gb_trans (gb_of ((Below.refl _ _).drew)) (gb_setRow _ _ _))⟩
  have := setRow_heap W.drew s cur.toArray (splice cur (n * 128) (bc (B.take sz))).toArray 5 (0, 0) H2.out
  simpa [splice, hlen] using this
end Go.Proofs.YtjaopckdhohpbaaDoor
