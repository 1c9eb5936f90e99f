/-
  codec's forms with a reader: key, newReader, a line.
-/
import Derived.Test.YtfhicemfhkhjaabCr1
namespace Go.Proofs.Ytfhicemfhkhjaab
open Go.RowKit
set_option maxRecDepth 100000

/-- a reader as a carrier -/
abbrev ir (rb : Nat) : Value := .iface 96 (.pointer (some ⟨rb, 0, none⟩))
theorem nr_text (wb : Nat) (w : World) : (nilAhead 292 96 (.pointer (some ⟨wb, 0, none⟩)) "larder/codec.text").run Try.prog w = .ok (some false) w := by kernel_rfl
theorem nr_whole (wb : Nat) (w : World) : (nilAhead 292 96 (.pointer (some ⟨wb, 0, none⟩)) "larder/codec.whole").run Try.prog w = .ok (some false) w := by kernel_rfl
theorem nr_count (wb : Nat) (w : World) : (nilAhead 292 96 (.pointer (some ⟨wb, 0, none⟩)) "larder/codec.count").run Try.prog w = .ok (some false) w := by kernel_rfl
theorem mr_text (v : Value) (w : World) : (Go.method 292 96 v "larder/codec.text").run Try.prog w = .ok (123, v) w := by kernel_rfl
theorem mr_whole (v : Value) (w : World) : (Go.method 292 96 v "larder/codec.whole").run Try.prog w = .ok (124, v) w := by kernel_rfl
theorem mr_count (v : Value) (w : World) : (Go.method 292 96 v "larder/codec.count").run Try.prog w = .ok (121, v) w := by kernel_rfl
theorem mr_key (v : Value) (w : World) : (Go.method 292 96 v "larder/codec.key").run Try.prog w = .ok (122, v) w := by kernel_rfl
/-- a new reader of the bytes l, which lie at v -/
def RN (w : World) (rb : Nat) (v : Value) (most : Nat) : Prop := w.heap[rb]? = some (.cells #[v, .int .i64 0, .int .i64 (most : Int)] 148 (0, 0))
def Nw (v : Value) (n most : Nat) (w : World) (e : Ending) (w' : World) : Prop := (n ≤ most ∧ e = .returned (.pointer (some ⟨w.heap.size, 0, none⟩)) ∧ w' = w.alloc (.cells #[v, .int .i64 0, .int .i64 (most : Int)] 148)) ∨ (most < n ∧ e = flt 1 0 ∧ w' = w)
set_option maxHeartbeats 400000 in
theorem dnew_any (v : Value) (l : List UInt8) (most : Nat) (w : World) (hr : Reads w v l) :
    Calls Try.prog 41 #[v, .int .i64 (most : Int)] w fun e w' => Nw v l.length most w e w' := by
  obtain ⟨ao, cap, rfl⟩ := hr.form
  clear hr
  go_enter Try.func41, Try.ntmps41
  by_cases h : l.length ≤ most
  · have hI : ¬ (most : Int) < (l.length : Int) := by omega
    go_wp2
    go_ret
    exact .inl ⟨h, rfl, rfl⟩
  · have hI : (most : Int) < (l.length : Int) := by omega
    go_wp2
    exact ⟨rfl, .inr ⟨by omega, rfl, rfl⟩⟩
set_option maxHeartbeats 400000 in
theorem dkey_nil (k : UInt8) (ao : Option Addr) (cap rb most : Nat) (w : World) (h : RN w rb (.slice ao 0 cap) most) :
    Calls Try.prog 122 #[.pointer (some ⟨rb, 0, none⟩), .int .u8 (k.toNat : Int)] w fun e w' => e = flt 3 0 ∧ w' = w := by
  have c0 : w.cell? ⟨rb, 0, none⟩ = some (.slice ao 0 cap) := by rw [Lib.cell_of_heap h]; rfl
  clear h
  go_enter Try.func122, Try.ntmps122
  go_wp2
  exact ⟨rfl, rfl, rfl⟩
set_option maxHeartbeats 400000 in
theorem dkey_any (k : UInt8) (rb b off cap most : Nat) (l : List UInt8) (w : World) (h : RN w rb (.slice (some ⟨b, off, none⟩) l.length cap) most) (hc : l.length ≤ cap) (h0 : 0 < l.length) (hne : b ≠ rb) (hb : ∀ j (hj : j < l.length), w.cell? ⟨b, off + j, none⟩ = some (.int .u8 (l[j].toNat : Int))) :
    Calls Try.prog 122 #[.pointer (some ⟨rb, 0, none⟩), .int .u8 (k.toNat : Int)] w fun e w' => (l[0] = k ∧ e = .returned (.tuple #[]) ∧ RD w' rb b off cap l 1 most ∧ w' = w.setCell ⟨rb, 1, none⟩ (.int .i64 1)) ∨ (l[0] ≠ k ∧ e = flt 90 0 ∧ w' = w) := by
  have c0 : w.cell? ⟨rb, 0, none⟩ = some (.slice (some ⟨b, off, none⟩) l.length cap) := by rw [Lib.cell_of_heap h]; rfl
  have c1 : w.cell? ⟨rb, 1, none⟩ = some (.int .i64 0) := by rw [Lib.cell_of_heap h]; rfl
  have f1 : w.frozen? ⟨rb, 1, none⟩ = false := Lib.frozen_of_heap h 1
  have d0 : w.cell? ⟨b, off, none⟩ = some (.int .u8 (l[0].toNat : Int)) := hb 0 h0
  have hI : (0 : Int) < (l.length : Int) := by omega
  have hz : ((l.length : Int) == 0) = false := beq_eq_false_iff_ne.2 (by omega)
  have HR := hid (show RD (w.setCell ⟨rb, 1, none⟩ (.int .i64 1)) rb b off cap l 1 most from ⟨heap_setCell_same w rb 1 _ _ (.int .i64 1) h, hc, by omega, hne, fun j hj => by
    rw [World.cell?_setCell_other _ _ _ _ (fun e => hne (by injection e with e; exact e.symm))]
    exact hb j hj⟩)
  clear h hb
  by_cases hk : l[0] = k
  · have hb : ((l[0].toNat : Int) == (k.toNat : Int)) = true := by simp [hk]
    have HK := hid hk
    generalize l[0].toNat = x at *
    clear hk
    go_enter Try.func122, Try.ntmps122
    go_wp2
    go_end0
    exact .inl ⟨HK.out, rfl, HR.out, rfl⟩
  · have hb : ((l[0].toNat : Int) == (k.toNat : Int)) = false := by
      simp only [beq_eq_false_iff_ne, ne_eq]
      intro e
      exact hk (UInt8.toNat_inj.1 (by omega))
    have HK := hid hk
    generalize l[0].toNat = x at *
    clear hk
    go_enter Try.func122, Try.ntmps122
    go_wp2
    exact ⟨rfl, .inr ⟨HK.out, rfl, rfl⟩⟩
theorem RD.put {w : World} {rb b off cap i most : Nat} {l : List UInt8} (h : RD w rb b off cap l i most) (q k : Nat) (p : Addr) (u : Value) (hk : k ≤ l.length) (hp : p.block ≠ rb) (hb : p.block ≠ b) : RD (((w.drewN q).setCell ⟨rb, 1, none⟩ (.int .i64 (k : Int))).setCell p u) rb b off cap l k most := by
  have h1 : ((w.drewN q).setCell ⟨rb, 1, none⟩ (.int .i64 (k : Int))).heap[rb]? = some (.cells #[.slice (some ⟨b, off, none⟩) l.length cap, .int .i64 (k : Int), .int .i64 (most : Int)] 148 (0, 0)) := heap_setCell_same (w.drewN q) rb 1 _ _ (.int .i64 (k : Int)) h.top
  refine ⟨(heap_setCell_other _ p rb u (fun e => hp e.symm)).trans h1, h.room, hk, h.ne, fun j hj => ?_⟩
  rw [World.cell?_setCell_other _ _ _ _ (fun e => hb (by rw [e])), World.cell?_setCell_other _ _ _ _ (fun e => h.ne (by injection e with e; exact e.symm))]
  exact h.bytes j hj
theorem at_le {l : List UInt8} {i n : Nat} (hi : i ≤ l.length) (hn : n ≤ (l.drop i).length) : i + n ≤ l.length := by
  rw [List.length_drop] at hn
  omega
/-- nothing but the blocks rb and g has turned -/
structure Tb (rb g : Nat) (w w' : World) : Prop where
  os : w'.os = w.os
  tape : w'.tape = w.tape
  output : w'.output = w.output
  size : w.heap.size ≤ w'.heap.size
  block : ∀ k, k < w.heap.size → k ≠ rb → k ≠ g → w'.heap[k]? = w.heap[k]?
theorem Tb.drewN (rb g : Nat) (w : World) (q : Nat) : Tb rb g w (w.drewN q) := ⟨rfl, rfl, rfl, Nat.le_refl _, fun _ _ _ _ => rfl⟩
theorem Tb.trans {rb g : Nat} {w w1 w2 : World} (h : Tb rb g w w1) (k : Tb rb g w1 w2) : Tb rb g w w2 :=
  ⟨k.os.trans h.os, k.tape.trans h.tape, k.output.trans h.output, Nat.le_trans h.size k.size, fun j hj h1 h2 => (k.block j (Nat.lt_of_lt_of_le hj h.size) h1 h2).trans (h.block j hj h1 h2)⟩
theorem Tb.set {rb g : Nat} (w : World) (p : Addr) (u : Value) (hp : p.block = rb ∨ p.block = g) : Tb rb g w (w.setCell p u) :=
  ⟨rfl, rfl, rfl, by simp, fun j _ h1 h2 => heap_setCell_other w p j u (fun e => by rcases hp with h | h <;> omega)⟩
theorem Tb.put {rb g : Nat} (w : World) (q : Nat) (p : Addr) (u x : Value) (hp : p.block = g) : Tb rb g w (((w.drewN q).setCell ⟨rb, 1, none⟩ x).setCell p u) :=
  ((Tb.drewN rb g w q).trans (Tb.set _ ⟨rb, 1, none⟩ x (.inl rfl))).trans (Tb.set _ p u (.inr hp))
/-- a line that is read from place i on: the error, its place or where it ends, its code, its number -/
def fLn (l : List UInt8) (most i : Nat) : Nat × Nat × List UInt8 × Int :=
  if (tx (l.drop i) most).2.2 ≠ 0 then ((tx (l.drop i) most).2.2, i + (tx (l.drop i) most).2.1, [], 0)
  else ((rd (l.drop (i + (tx (l.drop i) most).2.1)) 0 0).2.2, i + (tx (l.drop i) most).2.1 + (rd (l.drop (i + (tx (l.drop i) most).2.1)) 0 0).2.1, (tx (l.drop i) most).1, unfI (rd (l.drop (i + (tx (l.drop i) most).2.1)) 0 0).1)
theorem fLn_ok {l : List UInt8} {most i : Nat} (h : (tx (l.drop i) most).2.2 = 0) : fLn l most i = ((rd (l.drop (i + (tx (l.drop i) most).2.1)) 0 0).2.2, i + (tx (l.drop i) most).2.1 + (rd (l.drop (i + (tx (l.drop i) most).2.1)) 0 0).2.1, (tx (l.drop i) most).1, unfI (rd (l.drop (i + (tx (l.drop i) most).2.1)) 0 0).1) := if_neg (fun e => e h)
theorem fLn_no {l : List UInt8} {most i : Nat} (h : (tx (l.drop i) most).2.2 ≠ 0) : fLn l most i = ((tx (l.drop i) most).2.2, i + (tx (l.drop i) most).2.1, [], 0) := if_pos h
/-- behind a line that is read into the cells at g, o -/
def Dl (rb b off cap : Nat) (l : List UInt8) (i most g o : Nat) (w : World) (e : Ending) (w' : World) : Prop :=
  Tb rb g w w' ∧ (((fLn l most i).1 = 0 ∧ e = .returned (.tuple #[]) ∧ RD w' rb b off cap l (fLn l most i).2.1 most ∧ ∃ q a, w' = ((((w.drewN q).setCell ⟨rb, 1, none⟩ a).setCell ⟨g, o, none⟩ (.string ⟨(fLn l most i).2.2.1.toArray⟩)).setCell ⟨rb, 1, none⟩ (.int .i64 ((fLn l most i).2.1 : Int))).setCell ⟨g, o + 1, none⟩ (.int .i64 (fLn l most i).2.2.2))
  ∨ ((fLn l most i).1 ≠ 0 ∧ e = flt ((fLn l most i).1 : Int) ((fLn l most i).2.1 : Int)))
set_option maxHeartbeats 1000000 in
theorem dline_any (cb g o : Nat) (s0 : ByteArray) (n0 : Int) (w : World) {rb b off cap i most : Nat} {l : List UInt8} (h : RD w rb b off cap l i most) (hcp : l.length ≤ 100000000000000) (hm : most ≤ 1000000000)
    (hcb : w.cell? ⟨cb, 0, none⟩ = some (ir rb)) (hcw : cb ≠ rb ∧ cb ≠ g) (c0 : w.cell? ⟨g, o, none⟩ = some (.string s0)) (c1 : w.cell? ⟨g, o + 1, none⟩ = some (.int .i64 n0)) (f0 : w.frozen? ⟨g, o, none⟩ = false) (f1 : w.frozen? ⟨g, o + 1, none⟩ = false) (hg : g ≠ rb ∧ g ≠ b) :
    Calls Try.prog 94 #[.pointer (some ⟨g, o, none⟩), .pointer (some ⟨cb, 0, none⟩)] w fun e w' => Dl rb b off cap l i most g o w e w' := by
  have hmf : ∀ (fn : Fn) (first cap : Array Value) (w : World), (Instr.makeFunc fn first cap).run Try.prog w = .ok (.func fn first cap) w := fun _ _ _ _ => rfl
  have HT := hid (fun q => dtext_any ⟨g, o, none⟩ s0 (w.drewN q) (h.drewN q) hcp hm c0 f0 hg.1)
  have hle := at_le h.at' (tx_le (l.drop i) most)
  have H := hid h
  have HCB := hid hcb
  have HCW := hid hcw
  have HG := hid hg
  have HC1 := hid c1
  have HF1 := hid f1
  have hna := nr_text rb
  have hme := mr_text
  clear h c0 c1 f0 f1 hcw hg
  go_enter Try.func94, Try.ntmps94
  go_wp2_with fail
  refine wp_region_any (by kernel_rfl) ?_
  try (change wpAny _ _ _ _ _ _ _ (World.drew _))
  refine wpAny_take (i := 1) (v := .pointer (some ⟨g, o, none⟩)) rfl (by kernel_rfl) (by kernel_rfl) (by kernel_rfl) (fun _ _ _ h => h) (Or.inl ⟨by rfl, by intro w; go_simp⟩) ?_
  refine wpAny_take (i := 2) (v := .pointer (some ⟨g, o, none⟩)) rfl (by kernel_rfl) (by kernel_rfl) (by kernel_rfl) (fun _ _ _ h => h) (Or.inl ⟨by rfl, by intro w; go_simp⟩) ?_
  refine wpAny_take (i := 3) (v := .pointer (some ⟨g, o, none⟩)) rfl (by kernel_rfl) (by kernel_rfl) (by kernel_rfl) (fun _ _ _ h => h) (Or.inl ⟨by rfl, by intro w; go_simp⟩) ?_
  refine wpAny_ready (rs := [0]) (by kernel_rfl) (by simp) ?_
  refine AllReady.cons rfl (fun K hK => ?_) AllReady.nil
  go_simp
  refine hK _ _ ?_
  clear hK K
  refine wpAny_ready (rs := [4]) (by kernel_rfl) (by simp) ?_
  refine AllReady.cons rfl (fun K hK => ?_) AllReady.nil
  go_simp
  refine hK _ _ ?_
  clear hK K
  refine wpAny_take (i := 5) (v := .func (.method "larder/codec.text") #[ir rb] #[]) rfl (by kernel_rfl) (by kernel_rfl) (by kernel_rfl) (fun _ _ _ h => h) (Or.inl ⟨by rfl, by intro w; go_simp⟩) ?_
  refine wpAny_take (i := 6) (v := ir rb) rfl (by kernel_rfl) (by kernel_rfl) (by kernel_rfl) (fun _ _ _ h => h) (Or.inl ⟨by rfl, by intro w; go_simp⟩) ?_
  refine wpAny_ready (rs := [7]) (by kernel_rfl) (by simp) ?_
  refine AllReady.cons rfl (fun K hK => ?_) AllReady.nil
  go_simp
  go_wp2_with fail
  refine (HT.out _).mono ?_
  rintro e w2 ⟨q, ⟨he, rfl, hw2⟩ | ⟨he, rfl, hw2⟩⟩
  · have hR2 : RD w2 rb b off cap l (i + (tx (l.drop i) most).2.1) most := by rw [hw2]; exact (H.out.drewN 1).put q _ ⟨g, o, none⟩ _ hle HG.out.1 HG.out.2
    have hT2 : Tb rb g w w2 := (Tb.drewN rb g w 1).trans (by rw [hw2]; exact Tb.put _ q ⟨g, o, none⟩ _ _ rfl)
    have hcb2 : w2.cell? ⟨cb, 0, none⟩ = some (ir rb) := by
      rw [hw2, World.cell?_setCell_other _ _ _ _ (fun e => HCW.out.2 (by injection e with e; exact e.symm)), World.cell?_setCell_other _ _ _ _ (fun e => HCW.out.1 (by injection e with e; exact e.symm))]
      exact HCB.out
    have c12 : w2.cell? ⟨g, o + 1, none⟩ = some (.int .i64 n0) := by
      rw [hw2, World.cell?_setCell_other _ _ _ _ (fun e => by injection e with _ e; omega), World.cell?_setCell_other _ _ _ _ (fun e => HG.out.1 (by injection e with e; exact e.symm))]
      exact HC1.out
    have f12 : w2.frozen? ⟨g, o + 1, none⟩ = false := by rw [hw2]; simpa using HF1.out
    have HT2 := hid (fun q => dwhole_any ⟨g, o + 1, none⟩ n0 (w2.drewN q) (hR2.drewN q) hcp c12 f12 HG.out.1)
    have hle2 := at_le hR2.at' (show (rd (l.drop (i + (tx (l.drop i) most).2.1)) 0 0).2.1 ≤ _ by have := rd_le (l.drop (i + (tx (l.drop i) most).2.1)) 0 0; omega)
    have HR2 := hid hR2
    have HTb := hid hT2
    have HW2 := hid hw2
    have HE := hid he
    have hna := nr_whole rb
    have hme := mr_whole
    clear hR2 hT2 c12 f12 hw2 he HT hcb
    go_wp2_with fail
    refine wpAny_done (by kernel_rfl) ?_ _
    go_wp2_with fail
    refine wp_region_any (by kernel_rfl) ?_
    try (change wpAny _ _ _ _ _ _ _ (World.drew _))
    refine wpAny_take (i := 1) (v := .pointer (some ⟨g, o, none⟩)) rfl (by kernel_rfl) (by kernel_rfl) (by kernel_rfl) (fun _ _ _ h => h) (Or.inl ⟨by rfl, by intro w; go_simp⟩) ?_
    refine wpAny_take (i := 2) (v := .pointer (some ⟨g, o, none⟩)) rfl (by kernel_rfl) (by kernel_rfl) (by kernel_rfl) (fun _ _ _ h => h) (Or.inl ⟨by rfl, by intro w; go_simp⟩) ?_
    refine wpAny_take (i := 3) (v := .pointer (some ⟨g, o + 1, none⟩)) rfl (by kernel_rfl) (by kernel_rfl) (by kernel_rfl) (fun _ _ _ h => h) (Or.inl ⟨by rfl, by intro w; go_simp⟩) ?_
    refine wpAny_ready (rs := [0]) (by kernel_rfl) (by simp) ?_
    refine AllReady.cons rfl (fun K hK => ?_) AllReady.nil
    go_simp
    refine hK _ _ ?_
    clear hK K
    refine wpAny_ready (rs := [4]) (by kernel_rfl) (by simp) ?_
    refine AllReady.cons rfl (fun K hK => ?_) AllReady.nil
    go_simp
    refine hK _ _ ?_
    clear hK K
    refine wpAny_take (i := 5) (v := .func (.method "larder/codec.whole") #[ir rb] #[]) rfl (by kernel_rfl) (by kernel_rfl) (by kernel_rfl) (fun _ _ _ h => h) (Or.inl ⟨by rfl, by intro w; go_simp⟩) ?_
    refine wpAny_take (i := 6) (v := ir rb) rfl (by kernel_rfl) (by kernel_rfl) (by kernel_rfl) (fun _ _ _ h => h) (Or.inl ⟨by rfl, by intro w; go_simp⟩) ?_
    refine wpAny_ready (rs := [7]) (by kernel_rfl) (by simp) ?_
    refine AllReady.cons rfl (fun K hK => ?_) AllReady.nil
    go_simp
    go_wp2_with fail
    refine (HT2.out _).mono ?_
    rintro e w3 ⟨q3, ⟨he3, rfl, hw3⟩ | ⟨he3, rfl, hw3⟩⟩
    · have HF := hid (show Dl rb b off cap l i most g o w (.returned (.tuple #[])) w3 by
        unfold Dl
        rw [fLn_ok HE.out]
        refine ⟨HTb.out.trans ((Tb.drewN rb g w2 1).trans (by rw [hw3]; exact Tb.put _ q3 ⟨g, o + 1, none⟩ _ _ rfl)), .inl ⟨he3, rfl, ?_, 1 + q + 1 + q3, .int .i64 ((i + (tx (l.drop i) most).2.1 : Nat) : Int), ?_⟩⟩
        · rw [hw3]
          exact (HR2.out.drewN 1).put q3 _ ⟨g, o + 1, none⟩ _ hle2 HG.out.1 HG.out.2
        · rw [hw3, HW2.out, World.drewN_drewN, World.drewN_drewN]
          have : ∀ (W : World) (a : Addr) (u : Value) (k : Nat), (W.setCell a u).drewN k = (W.drewN k).setCell a u := fun _ _ _ _ => rfl
          rw [this, this, World.drewN_drewN, Nat.add_assoc (1 + q) 1 q3])
      clear hw3
      go_wp2_with fail
      refine wpAny_done (by kernel_rfl) ?_ _
      go_wp2_with fail
      go_end0
      exact HF.out
    · have HF := hid (show Dl rb b off cap l i most g o w (flt ((rd (l.drop (i + (tx (l.drop i) most).2.1)) 0 0).2.2 : Int) ((i + (tx (l.drop i) most).2.1 + (rd (l.drop (i + (tx (l.drop i) most).2.1)) 0 0).2.1 : Nat) : Int)) w3 by
        unfold Dl
        rw [fLn_ok HE.out]
        exact ⟨HTb.out.trans ((Tb.drewN rb g w2 1).trans (by rw [hw3]; exact Tb.drewN _ _ _ _)), .inr ⟨he3, rfl⟩⟩)
      clear hw3
      go_wp2_with fail
      exact ⟨rfl, HF.out⟩
  · have HF := hid (show Dl rb b off cap l i most g o w (flt ((tx (l.drop i) most).2.2 : Int) ((i + (tx (l.drop i) most).2.1 : Nat) : Int)) w2 by
      unfold Dl
      rw [fLn_no he]
      exact ⟨(Tb.drewN rb g w 1).trans (by rw [hw2]; exact Tb.drewN _ _ _ _), .inr ⟨he, rfl⟩⟩)
    clear hw2
    go_wp2_with fail
    exact ⟨rfl, HF.out⟩
end Go.Proofs.Ytfhicemfhkhjaab
