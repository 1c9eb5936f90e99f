/-
  codec's writer: room, put.
-/
import Derived.Test.YtfhicemfhkhjaabTexts
import Derived.Deep.QuietTactic
import Derived.BigQuiet
import Derived.WalkSmall
import Derived.Maps.AppendAt
import Derived.Lib.Builder
import Derived.Laws.OwnMore
import Derived.Laws.Closers25b
namespace Go.Proofs.Ytfhicemfhkhjaab
open Go.RowKit
set_option maxRecDepth 100000

theorem hid {p : Prop} (h : p) : Hid p := h
/-- a writer in block wb: its bytes l, of which there may be most; they lie behind it -/
def WR (w : World) (wb : Nat) (v : Value) (l : List UInt8) (most : Nat) : Prop := w.heap[wb]? = some (.cells #[v, .int .i64 (most : Int)] 86 (0, 0)) ∧ Owns w (wb + 1) v l
/-- nothing but the writer and its bytes has turned; its bytes lie where they lay, or in a new block -/
structure WS (wb : Nat) (v : Value) (w : World) (v' : Value) (w' : World) : Prop where
  os : w'.os = w.os
  tape : w'.tape = w.tape
  output : w'.output = w.output
  size : w.heap.size ≤ w'.heap.size
  block : ∀ k, k < w.heap.size → k ≠ wb → v.ownBlock ≠ some k → w'.heap[k]? = w.heap[k]?
  own : ∀ g, v'.ownBlock = some g → v.ownBlock = some g ∨ w.heap.size ≤ g
theorem WS.refl (wb : Nat) (v : Value) (w : World) : WS wb v w v w := ⟨rfl, rfl, rfl, Nat.le_refl _, fun _ _ _ _ => rfl, fun _ h => .inl h⟩
theorem WS.drewN (wb : Nat) (v : Value) (w : World) (n : Nat) : WS wb v w v (w.drewN n) := ⟨rfl, rfl, rfl, Nat.le_refl _, fun _ _ _ _ => rfl, fun _ h => .inl h⟩
theorem WS.below {wb : Nat} {v : Value} {w w' : World} (h : Below w.heap.size w w') : WS wb v w v w' := ⟨h.os, h.tape, h.output, h.size, fun k hk _ _ => h.block k hk, fun _ h => .inl h⟩
theorem WS.trans {wb : Nat} {v v1 v2 : Value} {w w1 w2 : World} (h : WS wb v w v1 w1) (k : WS wb v1 w1 v2 w2) : WS wb v w v2 w2 := by
  refine ⟨k.os.trans h.os, k.tape.trans h.tape, k.output.trans h.output, Nat.le_trans h.size k.size, fun j hj h1 h2 => ?_, fun g hg => ?_⟩
  · refine (k.block j (Nat.lt_of_lt_of_le hj h.size) h1 fun e => ?_).trans (h.block j hj h1 h2)
    rcases h.own j e with e2 | e2
    · exact h2 e2
    · omega
  · rcases k.own g hg with e | e
    · exact h.own g e
    · exact .inr (Nat.le_trans h.size e)
theorem WR.lt {w : World} {wb most : Nat} {v : Value} {l : List UInt8} (h : WR w wb v l most) : wb < w.heap.size := (Array.getElem?_eq_some_iff.1 h.1).1
theorem WR.later {w w' : World} {wb most : Nat} {v : Value} {l : List UInt8} (h : WR w wb v l most) (k : Below w.heap.size w w') : WR w' wb v l most :=
  ⟨(k.block wb h.lt).trans h.1, World.ownsRow.kept h.2 (show w.grownBy w' none from ⟨k.os, k.tape, k.output, k.size, fun j hj _ => k.block j hj⟩) (by cases v.ownBlock <;> simp)⟩
/-- what a writer or a reader gives up with -/
abbrev flt (k p : Int) : Ending := .panicked [{ v := .iface 127 (.agg #[.int .i64 k, .int .i64 p]), recovered := false }]
set_option maxHeartbeats 400000 in
theorem room_any (more : Nat) (w : World) {wb most : Nat} {v : Value} {l : List UInt8} (h : WR w wb v l most) (hm : most ≤ 1000000000) (hmo : more ≤ 1000000000000000) :
    Calls Try.prog 116 #[.pointer (some ⟨wb, 0, none⟩), .int .i64 (more : Int)] w fun e w' => e = (if l.length + more ≤ most then .returned (.tuple #[]) else flt 1 0) ∧ ∃ n, w' = w.drewN n := by
  obtain ⟨h1, h2⟩ := h
  have c0 : w.cell? ⟨wb, 0, none⟩ = some v := by rw [Lib.cell_of_heap h1]; rfl
  have c1 : w.cell? ⟨wb, 1, none⟩ = some (.int .i64 (most : Int)) := by rw [Lib.cell_of_heap h1]; rfl
  obtain ⟨ao, cap, hv⟩ := h2.reads.form
  subst hv
  have hll : l.length ≤ 9223372036854775807 := by
    rcases h2.2 with ⟨_, h0⟩ | ⟨g, cap, cur, _, _, _, hn, hm, _⟩
    · omega
    · unfold maxLen at hm; omega
  clear h1 h2
  go_enter Try.func116, Try.ntmps116
  by_cases hfit : l.length + more ≤ most
  · have hI : ¬ (most : Int) - (l.length : Int) < (more : Int) := by omega
    rw [if_pos hfit]
    go_wp2
    go_quiet (fail)
    go_wp2
    go_end0
    exact ⟨rfl, nq, rfl⟩
  · have hI : (most : Int) - (l.length : Int) < (more : Int) := by omega
    rw [if_neg hfit]
    go_wp2
    go_quiet (fail)
    go_wp2
    exact ⟨rfl, rfl, nq, rfl⟩
theorem byteinfo : (Try.prog.info? 5).map (fun i => (i.zero, i.size, i.bytes)) = some (some (.int .u8 0), 1, 1) := by kernel_rfl
/-- what is behind a write of the bytes m: they stand behind the others, or the writer gives up -/
def Wp (wb : Nat) (v : Value) (l : List UInt8) (most : Nat) (m : List UInt8) (r : Ending) (w : World) (e : Ending) (w' : World) : Prop :=
  ∃ v', WS wb v w v' w' ∧ ((l.length + m.length ≤ most ∧ e = r ∧ WR w' wb v' (l ++ m) most) ∨ (most < l.length + m.length ∧ e = flt 1 0))
set_option maxHeartbeats 800000 in
theorem put_any (vb : Value) (m : List UInt8) (w : World) {wb most : Nat} {v : Value} {l : List UInt8} (h : WR w wb v l most) (hm : most ≤ 1000000000) (hb : Reads w vb m) (h0 : m ≠ []) (hmo : m.length ≤ 1000000000000000) :
    Calls Try.prog 114 #[.pointer (some ⟨wb, 0, none⟩), vb] w fun e w' => Wp wb v l most m (.returned (.tuple #[])) w e w' := by
  have HR := hid (room_any m.length w h hm hmo)
  have H := hid h
  rcases hb with ⟨rfl, _⟩ | ⟨b, off, cap, rfl, hl, hcell⟩
  · exact (h0 rfl).elim
  have HC := hid hcell
  clear hcell h h0
  go_enter Try.func114, Try.ntmps114
  by_cases hfit : l.length + m.length ≤ most
  · rw [if_pos hfit] at HR
    go_wp2_with fail
    refine Calls.mono HR.out ?_
    rintro e w1 ⟨rfl, n1, rfl⟩
    obtain ⟨W, hW⟩ : ∃ W, w.drewN n1 = W := ⟨_, rfl⟩
    have HW := hid (show WR W wb v l most by rw [← hW]; exact H.out)
    have HWS := hid (show WS wb v w v W by rw [← hW]; exact WS.drewN _ _ _ _)
    have HCW := hid (show ∀ j u, (bc m)[j]? = some u → W.cell? ((⟨b, off, none⟩ : Addr).add j) = some u from fun j u hj => by
      have hj' : j < m.length := by
        have := (List.getElem?_eq_some_iff.1 hj).1
        simpa [bc_length] using this
      rw [bc_at m j hj'] at hj
      cases hj
      rw [Addr.add_lit, ← hW]
      exact HC.out j hj')
    rw [hW]
    have c0 : W.cell? ⟨wb, 0, none⟩ = some v := by rw [Lib.cell_of_heap HW.out.1]; rfl
    have f0 : W.frozen? ⟨wb, 0, none⟩ = false := Lib.frozen_of_heap HW.out.1 0
    have hlt := HW.out.lt
    obtain ⟨i0, hi0, hz0, hz1, hz2⟩ := info_parts byteinfo
    have HI := hid hi0
    clear hi0 HC HR H hW
    go_wp2_with (at_builtin; refine wpList_append_own_at _ rfl _ _ 47 rfl (wb + 1) 5 i0 (.int .u8 0) 1 1 Try.underlying47 HI.out hz0 hz1 hz2 rfl (by decide) _ _ _ rfl HW.out.2 ⟨b, off, none⟩ m.length cap (bc m) rfl (by rw [bc_length, Nat.mul_one]) HCW.out (bc_one m) ?m1 ?m2 ?m3 ?hnext)
    case m1 => unfold maxLen; omega
    case m2 => omega
    case m3 => omega
    case hnext =>
      intro v' w2 hown' hgrow _ hloc
      have h1 : w2.heap[wb]? = some (.cells #[v, .int .i64 (most : Int)] 86 (0, 0)) := by
        refine (hgrow.block wb hlt fun e => ?_).trans HW.out.1
        have := HW.out.2.block_ge wb e.symm
        omega
      have hO : Owns w2 (wb + 1) v' (l ++ m) := by
        unfold Owns
        rw [bc_append, List.length_append]
        exact hown'
      have f2 : w2.frozen? ⟨wb, 0, none⟩ = false := Lib.frozen_of_heap h1 0
      have c2 : w2.cell? ⟨wb, 0, none⟩ = some v := by rw [Lib.cell_of_heap h1]; rfl
      have HR3 := hid (show WR (w2.setCell ⟨wb, 0, none⟩ v') wb v' (l ++ m) most from ⟨heap_setCell_same w2 wb 0 _ _ v' h1, ownsRow_setCell_below hO (by show wb < wb + 1; omega) v'⟩)
      have HS3 := hid (show WS wb v W v' (w2.setCell ⟨wb, 0, none⟩ v') from ⟨hgrow.os, hgrow.tape, hgrow.output, Nat.le_trans hgrow.size (by simp), fun k hk h1 h2 => (heap_setCell_other w2 ⟨wb, 0, none⟩ k v' h1).trans (hgrow.block k hk (fun e => h2 e.symm)), fun g hg => by
        rcases hloc with e | e
        · exact .inl (e ▸ hg)
        · rw [e] at hg
          exact .inr (by simp at hg; omega)⟩)
      obtain ⟨ao', cap', hv'⟩ := hO.reads.form
      rw [List.length_append] at hv'
      clear h1 hO hown' hgrow hloc c0 f0
      subst hv'
      go_wp2
      go_end0
      exact ⟨_, HWS.out.trans HS3.out, .inl ⟨hfit, rfl, HR3.out⟩⟩
  · rw [if_neg hfit] at HR
    go_wp2_with fail
    refine Calls.mono HR.out ?_
    rintro e w1 ⟨rfl, n1, rfl⟩
    go_wp2
    exact ⟨rfl, v, WS.drewN _ _ _ _, .inr ⟨by omega, rfl⟩⟩
set_option maxHeartbeats 400000 in
theorem wkey_any (k : UInt8) (w : World) {wb most : Nat} {v : Value} {l : List UInt8} (h : WR w wb v l most) (hm : most ≤ 1000000000) :
    Calls Try.prog 111 #[.pointer (some ⟨wb, 0, none⟩), .int .u8 (k.toNat : Int)] w fun e w' => Wp wb v l most [k] (.returned (.tuple #[])) w e w' := by
  obtain ⟨W, hW⟩ : ∃ W, w.alloc (.cells #[.int .u8 (k.toNat : Int)] 5) = W := ⟨_, rfl⟩
  have hB : Below w.heap.size w W := by rw [← hW]; exact (Below.refl _ _).alloc (Nat.le_refl _) _
  have HWS := hid (WS.below (wb := wb) (v := v) hB)
  have HP := hid (put_any (.slice (some ⟨w.heap.size, 0, none⟩) 1 1) [k] W (h.later hB) hm (by rw [← hW]; exact reads_one w k _ rfl) (by simp) (by simp))
  clear h hB
  go_enter Try.func111, Try.ntmps111
  go_wp2_with fail
  try rw [hW]
  refine Calls.mono HP.out ?_
  rintro e w2 ⟨v', hs, ⟨hf, rfl, hr⟩ | ⟨hf, rfl⟩⟩
  · go_wp2
    go_end0
    exact ⟨v', HWS.out.trans hs, .inl ⟨hf, rfl, hr⟩⟩
  · go_wp2
    exact ⟨rfl, v', HWS.out.trans hs, .inr ⟨hf, rfl⟩⟩
set_option maxHeartbeats 400000 in
theorem wwhole_any (p : Addr) (n : Int) (w : World) {wb most : Nat} {v : Value} {l : List UInt8} (h : WR w wb v l most) (hm : most ≤ 1000000000) (hp : w.cell? p = some (.int .i64 n)) (h0 : -9223372036854775808 ≤ n) (h1 : n ≤ 9223372036854775807) :
    Calls Try.prog 113 #[.pointer (some ⟨wb, 0, none⟩), .pointer (some p)] w fun e w' => Wp wb v l most (grp (foldI n)) (.returned (.tuple #[])) w e w' := by
  have HP := hid (putInt_any (.slice none 0 0) [] n w (Reads.nil w) h0 h1 (by simp))
  have H := hid h
  clear h
  go_enter Try.func113, Try.ntmps113
  go_wp2_with fail
  refine Calls.mono HP.out ?_
  rintro e w1 ⟨v1, rfl, ho, hb⟩
  have HWS := hid (WS.below (wb := wb) (v := v) hb)
  have HPu := hid (put_any v1 (grp (foldI n)) w1 (H.out.later hb) hm ho.reads (by have := grp_pos (foldI n); intro e; rw [e] at this; simp at this) (by have := grp_le (foldI n) (foldI_lt n h0 h1); omega))
  clear ho hb HP
  go_wp2_with fail
  refine Calls.mono HPu.out ?_
  rintro e w2 ⟨v', hs, ⟨hf, rfl, hr⟩ | ⟨hf, rfl⟩⟩
  · go_wp2
    go_end0
    exact ⟨v', HWS.out.trans hs, .inl ⟨hf, rfl, hr⟩⟩
  · go_wp2
    exact ⟨rfl, v', HWS.out.trans hs, .inr ⟨hf, rfl⟩⟩
set_option maxHeartbeats 400000 in
theorem wcount_any (n : Nat) (w : World) {wb most : Nat} {v : Value} {l : List UInt8} (h : WR w wb v l most) (hm : most ≤ 1000000000) (hn : n ≤ 9223372036854775807) :
    Calls Try.prog 110 #[.pointer (some ⟨wb, 0, none⟩), .int .i64 (n : Int)] w fun e w' => Wp wb v l most (grp n) (.returned (.int .i64 (n : Int))) w e w' := by
  have HP := hid (putUint_any (.slice none 0 0) [] n w (Reads.nil w) (by omega) (by simp))
  have H := hid h
  clear h
  go_enter Try.func110, Try.ntmps110
  go_wp2_with fail
  refine Calls.mono HP.out ?_
  rintro e w1 ⟨v1, rfl, ho, hb⟩
  have HWS := hid (WS.below (wb := wb) (v := v) hb)
  have HPu := hid (put_any v1 (grp n) w1 (H.out.later hb) hm ho.reads (by have := grp_pos n; intro e; rw [e] at this; simp at this) (by have := grp_le n (by omega); omega))
  clear ho hb HP
  go_wp2_with fail
  refine Calls.mono HPu.out ?_
  rintro e w2 ⟨v', hs, ⟨hf, rfl, hr⟩ | ⟨hf, rfl⟩⟩
  · go_wp2
    go_ret
    exact ⟨v', HWS.out.trans hs, .inl ⟨hf, rfl, hr⟩⟩
  · go_wp2
    exact ⟨rfl, v', HWS.out.trans hs, .inr ⟨hf, rfl⟩⟩
set_option maxHeartbeats 800000 in
theorem wtext_any (p : Addr) (s : ByteArray) (w : World) {wb most : Nat} {v : Value} {l : List UInt8} (h : WR w wb v l most) (hm : most ≤ 1000000000) (hp : w.cell? p = some (.string s)) (hs : s.size ≤ 1000000000000) :
    Calls Try.prog 112 #[.pointer (some ⟨wb, 0, none⟩), .pointer (some p)] w fun e w' => Wp wb v l most (grp s.size ++ s.data.toList) (.returned (.tuple #[])) w e w' := by
  have HR := hid (room_any s.size w h hm (by omega))
  have HP := hid (fun n => putText_any (.slice none 0 0) [] s (w.drewN n) (Reads.nil _) (by simp; omega))
  have H := hid h
  have hgl := grp_le s.size (by omega)
  have hdl : s.data.toList.length = s.size := rfl
  have hml : (grp s.size ++ s.data.toList).length = (grp s.size).length + s.size := by rw [List.length_append, hdl]
  clear h
  go_enter Try.func112, Try.ntmps112
  by_cases hfit : l.length + s.size ≤ most
  · rw [if_pos hfit] at HR
    go_wp2_with fail
    refine Calls.mono HR.out ?_
    rintro e w1 ⟨rfl, n1, rfl⟩
    have HP1 := hid (HP.out n1)
    clear HP HR
    go_wp2_with fail
    refine Calls.mono HP1.out ?_
    rintro e w2 ⟨v1, rfl, ho, hb⟩
    have HWS := hid ((WS.drewN wb v w n1).trans (WS.below (wb := wb) (v := v) hb))
    have HPu := hid (put_any v1 (grp s.size ++ s.data.toList) w2 (WR.later (w := w.drewN n1) H.out hb) hm ho.reads (by have := grp_pos s.size; intro e; rw [List.append_eq_nil_iff] at e; rw [e.1] at this; simp at this) (by omega))
    clear ho hb HP1
    go_wp2_with fail
    refine Calls.mono HPu.out ?_
    rintro e w3 ⟨v', hs, ⟨hf, rfl, hr⟩ | ⟨hf, rfl⟩⟩
    · go_wp2
      go_end0
      exact ⟨v', HWS.out.trans hs, .inl ⟨hf, rfl, hr⟩⟩
    · go_wp2
      exact ⟨rfl, v', HWS.out.trans hs, .inr ⟨hf, rfl⟩⟩
  · rw [if_neg hfit] at HR
    go_wp2_with fail
    refine Calls.mono HR.out ?_
    rintro e w1 ⟨rfl, n1, rfl⟩
    go_wp2
    exact ⟨rfl, v, WS.drewN _ _ _ _, .inr ⟨by omega, rfl⟩⟩
end Go.Proofs.Ytfhicemfhkhjaab
