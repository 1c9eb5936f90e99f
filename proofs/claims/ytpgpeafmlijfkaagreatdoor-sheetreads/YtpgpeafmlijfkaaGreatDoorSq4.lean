/-
  Sheets: the Reader's steps: a byte added, a cell ended. Laid by v18.py and mksq4.py.
-/
import Derived.Test.YtpgpeafmlijfkaaGreatDoorSq3
namespace Go.Proofs.YtpgpeafmlijfkaaGreatDoor
open Go.RowKit
set_option maxRecDepth 100000
set_option linter.unusedVariables false
set_option linter.unusedSimpArgs false

/-- the variables of reading -/
def gls : List Nat := [2, 6, 1, 7, 8, 9, 10, 3, 4, 0]
/-- the variables of reading hold errors of errors.New's make, each in its block -/
structure HE (A : Nat → Addr) (w : World) : Prop where
  e1 : w.cell? ⟨2, 0, none⟩ = some (.iface 208 (.pointer (some (A 1))))
  e2 : w.cell? ⟨6, 0, none⟩ = some (.iface 208 (.pointer (some (A 2))))
  e3 : w.cell? ⟨1, 0, none⟩ = some (.iface 208 (.pointer (some (A 3))))
  e4 : w.cell? ⟨7, 0, none⟩ = some (.iface 208 (.pointer (some (A 4))))
  e5 : w.cell? ⟨8, 0, none⟩ = some (.iface 208 (.pointer (some (A 5))))
  e6 : w.cell? ⟨9, 0, none⟩ = some (.iface 208 (.pointer (some (A 6))))
  e7 : w.cell? ⟨10, 0, none⟩ = some (.iface 208 (.pointer (some (A 7))))
  e8 : w.cell? ⟨3, 0, none⟩ = some (.iface 208 (.pointer (some (A 8))))
  e9 : w.cell? ⟨4, 0, none⟩ = some (.iface 208 (.pointer (some (A 9))))
  e20 : w.cell? ⟨0, 0, none⟩ = some (.iface 208 (.pointer (some (A 20))))
theorem HE.kept {A : Nat → Addr} {G : Nat → Prop} {w w' : World} (h : HE A w) (hk : Kg G w w') (hG : ∀ k, k ∈ gls → G k) : HE A w' where
  e1 := hk.cell (p := ⟨2, 0, none⟩) (hG _ (by decide)) h.e1
  e2 := hk.cell (p := ⟨6, 0, none⟩) (hG _ (by decide)) h.e2
  e3 := hk.cell (p := ⟨1, 0, none⟩) (hG _ (by decide)) h.e3
  e4 := hk.cell (p := ⟨7, 0, none⟩) (hG _ (by decide)) h.e4
  e5 := hk.cell (p := ⟨8, 0, none⟩) (hG _ (by decide)) h.e5
  e6 := hk.cell (p := ⟨9, 0, none⟩) (hG _ (by decide)) h.e6
  e7 := hk.cell (p := ⟨10, 0, none⟩) (hG _ (by decide)) h.e7
  e8 := hk.cell (p := ⟨3, 0, none⟩) (hG _ (by decide)) h.e8
  e9 := hk.cell (p := ⟨4, 0, none⟩) (hG _ (by decide)) h.e9
  e20 := hk.cell (p := ⟨0, 0, none⟩) (hG _ (by decide)) h.e20
theorem HE.lt {A : Nat → Addr} {w : World} (h : HE A w) : ∀ k, k ∈ gls → k < w.heap.size := by
  intro k hk
  simp only [gls, List.mem_cons, List.not_mem_nil, or_false] at hk
  rcases hk with rfl | rfl | rfl | rfl | rfl | rfl | rfl | rfl | rfl | rfl
  · exact World.block_lt_of_cell? _ _ h.e1
  · exact World.block_lt_of_cell? _ _ h.e2
  · exact World.block_lt_of_cell? _ _ h.e3
  · exact World.block_lt_of_cell? _ _ h.e4
  · exact World.block_lt_of_cell? _ _ h.e5
  · exact World.block_lt_of_cell? _ _ h.e6
  · exact World.block_lt_of_cell? _ _ h.e7
  · exact World.block_lt_of_cell? _ _ h.e8
  · exact World.block_lt_of_cell? _ _ h.e9
  · exact World.block_lt_of_cell? _ _ h.e20
/-- what every step leans on -/
structure Lea (A : Nat → Addr) (G : Nat → Prop) (w : World) : Prop where
  er : HE A w
  gl : ∀ k, k ∈ gls → G k
theorem Lea.kept {A : Nat → Addr} {G : Nat → Prop} {w w' : World} (h : Lea A G w) (hk : Kg G w w') : Lea A G w' := ⟨h.er.kept hk h.gl, h.gl⟩

/-- what a step comes to -/
def Stp (A : Nat → Addr) (G : Nat → Prop) (w : World) (b : Nat) (s : Rs) (e : Ending) (w' : World) : Prop := e = .returned (.tuple #[]) ∧ RX A G w' b s ∧ Kg G w w'
theorem RX.drew {A : Nat → Addr} {G : Nat → Prop} {w : World} {b : Nat} {s : Rs} (h : RX A G w b s) : RX A G w.drew b s := by
  obtain ⟨bp, bv, cv, tv, V, h⟩ := h
  exact ⟨bp, bv, cv, tv, V, ⟨h.gs, h.nb, h.nbv, h.ncv, h.ntv, h.top, h.bpo, h.bz, h.buf, h.cel, h.tol, ⟨h.rws.len, h.rws.row⟩, h.ap, h.vlt, h.dis⟩⟩
theorem Kg.of_drew {G : Nat → Prop} {w w' : World} (h : Kg G w.drew w') : Kg G w w' := ⟨h.os, h.tape, h.output, h.size, h.block⟩

set_option maxHeartbeats 2000000 in
theorem add_any (A : Nat → Addr) (G : Nat → Prop) (b : Nat) (s : Rs) (c : UInt8) (w : World) (hl : s.cur.length ≤ 4096) (hE : Lea A G w) (h : RX A G w b s) :
    Calls Tryz.prog 87 #[.pointer (some ⟨b, 0, none⟩), .int .i64 (c.toNat : Int)] w fun e w' => Stp A G w b (s.add c) e w' := by
  have hd := RX.drew h
  obtain ⟨bp, bv, cv, tv, V, h⟩ := h
  obtain ⟨ao, cp, rfl⟩ := own_slice h.buf
  have HLn := hid (fun w' (hw : w' = w) => hw ▸ len_raw b ao s.cur.length cp w h.top)
  have c2 := h.top.c2
  have c3 := h.top.c3
  have g5 := hE.er.e5
  by_cases h4 : s.cur.length = 4096
  · have hb : ((s.cur.length : Int) == 4096) = true := by rw [h4]; rfl
    have HF := hid (fail_any A G b s 5 (by decide) s.hp w.drew hd)
    have HS := hid (show s.add c = s.fail 5 s.hp by unfold Rs.add; rw [if_pos h4])
    clear h h4 hd
    go_enter Tryz.func87, Tryz.ntmps87
    go_wp2_with fail
    refine Calls.mono (HLn.out _ rfl) ?_
    rintro e w1 ⟨rfl, rfl⟩
    go_wp2_with fail
    go_region_with (go_at_call 59; refine Calls.mono HF.out ?_; rintro e w' ⟨rfl, hx, hk⟩)
    all_goals (go_wp2; go_end0; exact ⟨rfl, by rw [HS.out]; exact hx, hk.of_drew⟩)
  · have hb : ((s.cur.length : Int) == 4096) = false := by rw [beq_eq_false_iff_ne]; omega
    have HW := hid (writeByte_raw b s.cur c (c.toNat : Int) w h.bpo h.top h.buf rfl (by omega))
    have HS := hid (show s.add c = { s with cur := s.cur ++ [c] } by unfold Rs.add; rw [if_neg h4])
    have HM := hid h
    have hc8 : ((c.toNat : Int)) < 256 := by have := c.toNat_lt; omega
    clear h h4 hd
    go_enter Tryz.func87, Tryz.ntmps87
    go_wp2_with fail
    refine Calls.mono (HLn.out _ rfl) ?_
    rintro e w1 ⟨rfl, rfl⟩
    go_wp2_with fail
    refine Calls.mono HW.out ?_
    rintro e w' ⟨rfl, u, h1, ho1, hk1, hu1, hos, htp, hout, hsz⟩
    go_wp2
    go_end0
    rw [HS.out]
    have hM := HM.out
    have ne1 : ∀ {e n : Nat} {v : Value} {xs : List Value}, w1.ownsRow 0 e 1 v n xs → 77 ≠ e → 5 ≠ e → w'.ownsRow 0 e 1 v n xs := fun {e n v xs} ho hn1 hn2 => own_of ho fun g hg => hk1 g (World.ownsRow.lt ho g hg).2 (fun e => own_ne ho hM.top hn1 (e ▸ hg)) (fun e => own_two hM.buf ho hn2 g e hg)
    have hG : ∀ k, G k → w'.heap[k]? = w1.heap[k]? := fun k hk => hk1 k (hM.gs k hk) (fun e => hM.nb (e ▸ hk)) (fun e => hM.nbv k e hk)
    refine ⟨rfl, ⟨.pointer (some ⟨b, 10, none⟩), u, cv, tv, V, ?_⟩, ⟨hos, htp, hout, hsz, hG⟩⟩
    exact { gs := fun k hk => Nat.lt_of_lt_of_le (hM.gs k hk) hsz, nb := hM.nb,
            nbv := fun g hg hk => by
              rcases hu1 with hu | ⟨g', hg', hge⟩
              · exact hM.nbv g (hu ▸ hg) hk
              · rw [hg'] at hg
                cases hg
                exact absurd (hM.gs _ hk) (by omega),
            ncv := hM.ncv, ntv := hM.ntv, top := h1, bpo := .inr rfl, bz := fun hz => by simp at hz, buf := by simpa using ho1,
            cel := ne1 hM.cel (by decide) (by decide), tol := ne1 hM.tol (by decide) (by decide), rws := ⟨hM.rws.len, fun j hj hv => ne1 (hM.rws.row j hj hv) (by decide) (by decide)⟩, ap := hM.ap, vlt := hM.vlt, dis := hM.dis }
end Go.Proofs.YtpgpeafmlijfkaaGreatDoor
