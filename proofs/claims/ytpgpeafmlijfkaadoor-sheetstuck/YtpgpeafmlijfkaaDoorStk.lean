/-
  Sheets: a Reader that has a fault, or is done.
-/
import Derived.Test.YtpgpeafmlijfkaaDoorSpx
namespace Go.Proofs.YtpgpeafmlijfkaaDoor
open Go.RowKit
set_option maxRecDepth 100000
set_option linter.unusedVariables false
set_option linter.unusedSimpArgs false

/-- a fault that a byte shows is none of the text's end -/
theorem sj_code (L : List UInt8) (n : Nat) (hn : n ≤ L.length) (h : (sj L n).er ≠ 0) : (sj L n).er ≠ 1 ∧ ((sj L n).er ≤ 8 ∨ (sj L n).er = 20) := by
  obtain ⟨j, j1, j0, jb, js⟩ := sj_first L n h
  have I := ivn L j (by omega) j0
  rw [js]
  rw [sj_succ L j (by omega) j0] at jb ⊢
  unfold Rs.take at jb ⊢
  by_cases hz : (sj L j).sz = 262144
  · rw [if_pos hz]
    exact ⟨by simp [Rs.fail], .inr rfl⟩
  · rw [if_neg hz] at jb ⊢
    have e : (((sj L j).next (some (bt L j))).gone (bt L j)).er = ((sj L j).next (some (bt L j))).er := rfl
    first
      | rw [e] at jb ⊢
      | skip
    rcases next_bad (sj L j) (bt L j) I.md j0 jb with ⟨_, _, a, b⟩ | ⟨_, _, a⟩
    · exact ⟨a, .inl (by have : ((sj L j).next (some (bt L j))).er ≤ 7 := b; exact Nat.le_trans this (by decide))⟩
    · constructor
      · show ((sj L j).next (some (bt L j))).er ≠ 1
        omega
      · left
        show ((sj L j).next (some (bt L j))).er ≤ 8
        omega
theorem fp_le2 (L : List UInt8) (h : (sj L L.length).er ≠ 0) : (sj L L.length).fp.1 ≤ 262200 ∧ (sj L L.length).fp.2 ≤ 262200 := by
  rw [sj_all] at h ⊢
  have e : clP (fdP L) = fdP L := by unfold clP; rw [if_neg h]
  obtain ⟨f, _, h2, h3, _⟩ := first_fault L (by rw [e]; exact h)
  have := plc_le L f
  rw [e] at h3
  rw [h3]
  omega
/-- what a Reader with a fault answers -/
def FeB (A : Nat → Addr) (G : Nat → Prop) (w : World) (b : Nat) (s : Rs) (e : Ending) (w' : World) : Prop :=
  ∃ tv V ev, e = .returned (.tuple #[tv, ev]) ∧ TR w' tv V s.td ∧ FT A w' ev s.er s.fp ∧ RX A (Gs G tv V) w' b { s with td := [] } ∧ Kg G w w'
set_option maxHeartbeats 4000000 in
theorem feed_flt (A : Nat → Addr) (G : Nat → Prop) (b g n cap : Nat) (s : Rs) (w : World) (h : RX A G w b s) (he : s.er ≠ 0) :
    Calls Tryd.prog 6 #[.pointer (some ⟨b, 0, none⟩), .slice (some ⟨g, 0, none⟩) n cap] w fun e w' => FeB A G w b s e w' := by
  have c17 := h.c17
  have c16 := h.c16
  rw [erV_pos A he] at c16
  have HB := hid (begin_old A G b s w h)
  have HTl := hid (tell_any A G b s w h)
  clear h he
  go_enter Tryd.func6, Tryd.ntmps6
  go_wp2_with fail
  refine Calls.mono HB.out ?_
  rintro e w1 ⟨rfl, hw⟩
  replace hw := hw.symm
  subst hw
  go_wp2_with fail
  go_loopw [6] (fun i wr => i = .int .i64 0 ∧ wr = w) (fun _ _ => 0)
  case atStart => exact ⟨rfl, rfl⟩
  case round =>
    obtain ⟨hi, hwr⟩ := hrel
    subst hi
    replace hwr := hwr.symm
    subst hwr
    by_cases h0 : 0 < n
    · have hI : (0 : Int) < (n : Int) := by omega
      have hdI : decide (0 < n) = true := by simp; exact h0
      clear h0
      go_wp2_with fail
      refine Calls.mono HTl.out ?_
      rintro e w2 ⟨tv, V, ev, rfl, ht, hft, hr, hk2, hnv⟩
      obtain ⟨a1, c1, rfl⟩ := own_slice ht.own
      go_wp2
      go_ret2
      unfold FeB
      exact ⟨_, V, _, rfl, ht, hft, hr, hk2⟩
    · have hI : ¬ (0 : Int) < (n : Int) := by omega
      have hdI : decide (0 < n) = false := by simp; omega
      clear h0
      go_wp2_with fail
      refine Calls.mono HTl.out ?_
      rintro e w2 ⟨tv, V, ev, rfl, ht, hft, hr, hk2, hnv⟩
      obtain ⟨a1, c1, rfl⟩ := own_slice ht.own
      go_wp2
      go_ret2
      unfold FeB
      exact ⟨_, V, _, rfl, ht, hft, hr, hk2⟩
/-- what a Reader that is done answers -/
def DnA (A : Nat → Addr) (w : World) (e : Ending) (w' : World) : Prop := ∃ f : Nat, e = .returned (.tuple #[.slice none 0 0, .iface 54 (.pointer (some ⟨f, 0, none⟩))]) ∧ w'.heap[f]? = some (.cells #[.int .i64 0, .int .i64 0, erV A 9] 51 (0, 0)) ∧ Below w.heap.size w w'
theorem dn_new (A : Nat → Addr) (w : World) : (w.alloc (.cells #[.int .i64 0, .int .i64 0, .iface 99 (.pointer (some (A 9)))] 51)).drew.heap[w.heap.size]? = some (.cells #[.int .i64 0, .int .i64 0, erV A 9] 51 (0, 0)) ∧ Below w.heap.size w (w.alloc (.cells #[.int .i64 0, .int .i64 0, .iface 99 (.pointer (some (A 9)))] 51)).drew :=
  ⟨heap_alloc_new w _, by
    have h := (Below.refl w.heap.size w).alloc (Nat.le_refl _) (.cells #[.int .i64 0, .int .i64 0, .iface 99 (.pointer (some (A 9)))] 51)
    exact ⟨h.os, h.tape, h.output, h.size, h.block⟩⟩
set_option maxHeartbeats 4000000 in
theorem feed_dn (A : Nat → Addr) (b g n cap : Nat) (w : World) (hE : HE A w) (h : DnR w b) :
    Calls Tryd.prog 6 #[.pointer (some ⟨b, 0, none⟩), .slice (some ⟨g, 0, none⟩) n cap] w fun e w' => DnA A w e w' := by
  have c17 := h.c17
  have e9 := hE.e9
  have HD := hid (dn_new A w)
  clear h hE
  go_enter Tryd.func6, Tryd.ntmps6
  go_wp2
  go_region
  all_goals go_wp2
  all_goals go_ret2
  all_goals exact ⟨w.heap.size, rfl, HD.out.1, HD.out.2⟩
set_option maxHeartbeats 4000000 in
theorem close_dn (A : Nat → Addr) (b : Nat) (w : World) (hE : HE A w) (h : DnR w b) :
    Calls Tryd.prog 9 #[.pointer (some ⟨b, 0, none⟩)] w fun e w' => DnA A w e w' := by
  have c17 := h.c17
  have e9 := hE.e9
  have HD := hid (dn_new A w)
  clear h hE
  go_enter Tryd.func9, Tryd.ntmps9
  go_wp2
  go_region
  all_goals go_wp2
  all_goals go_ret2
  all_goals exact ⟨w.heap.size, rfl, HD.out.1, HD.out.2⟩
/-- []byte of a text -/
theorem bytes_in (X : ByteArray) (wr W : World) (hW : W = (wr.alloc (.cells (bytesRow X (grownCap wr X.size 0 5)) 5 ((bytesRow X (grownCap wr X.size 0 5)).size, (bytesRow X (grownCap wr X.size 0 5)).size + 1))).drew) : Below wr.heap.size wr W ∧ W.heap.size = wr.heap.size + 1 ∧ BsA W wr.heap.size 0 X.data.toList := by
  have hWz : W.heap.size = wr.heap.size + 1 := by rw [hW]; show (wr.alloc _).heap.size = _; simp
  have hWo : ∀ k, k < wr.heap.size → W.heap[k]? = wr.heap[k]? := fun k hk => by rw [hW]; exact Lib.alloc_old wr _ k hk
  refine ⟨⟨by rw [hW]; rfl, by rw [hW]; rfl, by rw [hW]; rfl, by omega, hWo⟩, hWz, ?_⟩
  intro i hi
  have hnew := heap_alloc_new wr (.cells (bytesRow X (grownCap wr X.size 0 5)) 5 ((bytesRow X (grownCap wr X.size 0 5)).size, (bytesRow X (grownCap wr X.size 0 5)).size + 1))
  have hnew' : W.heap[wr.heap.size]? = some (.cells (bytesRow X (grownCap wr X.size 0 5)) 5 ((bytesRow X (grownCap wr X.size 0 5)).size, (bytesRow X (grownCap wr X.size 0 5)).size + 1)) := by rw [hW]; exact hnew
  rw [Nat.zero_add, Lib.cell_of_heap hnew', bytesRow_at X _ i (by simpa using hi)]
  simp
/-- the Reader behind the whole text, and the error that was told -/
structure SkI (A : Nat → Addr) (w : World) (L : List UInt8) (wr : World) (ev : Value) : Prop where
  ft : FT A wr ev (sj L L.length).er (sj L L.length).fp
  kg : Kg (fun k => k < w.heap.size) w wr
  rx : RX A (Gq w.heap.size (.slice none 0 0) [] ev) wr w.heap.size { sj L L.length with td := [] }
theorem SkI.below {A : Nat → Addr} {w : World} {L : List UInt8} {wr w' : World} {ev : Value} (h : SkI A w L wr ev) (hb : Below wr.heap.size wr w') : SkI A w L w' ev := by
  refine ⟨h.ft.below hb, h.kg.trans ⟨hb.os, hb.tape, hb.output, hb.size, fun k hk => hb.block k (Nat.lt_of_lt_of_le hk h.kg.size)⟩, h.rx.move rfl (fun k hk _ => hb.block k hk) fun k hk => ⟨Nat.lt_of_lt_of_le (h.rx.lt k hk) hb.size, .inl hk⟩⟩
theorem sk_first {A : Nat → Addr} {w : World} {L : List UInt8} {w' : World} {tv2 ev : Value} {V V2 : List Value} {T1 T2 : List (List (List UInt8))} {G : Nat → Prop} (h : FeP A w L w' (.slice none 0 0) tv2 ev L.length V V2 T1 T2 G) : SkI A w L w' ev := by
  refine ⟨h.ft, h.kg, ?_⟩
  have key : ∀ G' : Nat → Prop, RX A G' w' w.heap.size { sj L L.length with td := [] } → (∀ k, k < w.heap.size → G' k) → (∀ k, ev = .iface 54 (.pointer (some ⟨k, 0, none⟩)) → G' k) → RX A (Gq w.heap.size (.slice none 0 0) [] ev) w' w.heap.size { sj L L.length with td := [] } := by
    intro G' hx h1 h2
    refine hx.move rfl (fun k hk _ => rfl) ?_
    rintro k (hk | hk | ⟨v, hv, _⟩ | hk)
    · exact ⟨hx.lt k (h1 k hk), .inl (h1 k hk)⟩
    · simp [Value.ownBlock] at hk
    · simp at hv
    · exact ⟨hx.lt k (h2 k hk), .inl (h2 k hk)⟩
  rcases h.ft with ⟨_, rfl⟩ | ⟨_, f, rfl, hf⟩
  · exact key _ h.rx (fun k hk => .inl (h.gq k (.inl hk))) (fun k hk => by cases hk)
  · refine key _ (h.rx.flt rfl hf) (fun k hk => .inl (.inl (h.gq k (.inl hk)))) (fun k hk => .inr ?_)
    injection hk with _ h2
    injection h2 with h3
    injection h3 with h4
    injection h4 with h5
    exact h5.symm
theorem sk_step {A : Nat → Addr} {w : World} {L : List UInt8} {W w' : World} {ev : Value} {e : Ending} (h : SkI A w L W ev) (hf : FeB A (Gq w.heap.size (.slice none 0 0) [] ev) W w.heap.size { sj L L.length with td := [] } e w') : ∃ a c ev2, e = .returned (.tuple #[.slice a 0 c, ev2]) ∧ FT A w' ev2 (sj L L.length).er (sj L L.length).fp ∧ SkI A w L w' ev := by
  obtain ⟨tv, V, ev2, rfl, ht, hft, hr, hk⟩ := hf
  have hV : V = [] := List.eq_nil_of_length_eq_zero (by rw [ht.rws.len]; rfl)
  subst hV
  obtain ⟨a, c, rfl⟩ := own_slice ht.own
  refine ⟨a, c, ev2, rfl, hft, ⟨?_, h.kg.trans (hk.mono fun k hk => .inl hk), ?_⟩⟩
  · rcases h.ft with h0 | ⟨h1, f, rfl, h3⟩
    · exact .inl h0
    · exact .inr ⟨h1, f, rfl, (hk.block f (.inr (.inr (.inr rfl)))).trans h3⟩
  · exact hr.move rfl (fun k hk _ => rfl) fun k hk => ⟨hr.lt k (.inl hk), .inl (.inl hk)⟩
theorem DnR.below {w w' : World} {b : Nat} (h : DnR w b) (hb : Below w.heap.size w w') : DnR w' b := (hb.block b h.lt).trans h
end Go.Proofs.YtpgpeafmlijfkaaDoor
