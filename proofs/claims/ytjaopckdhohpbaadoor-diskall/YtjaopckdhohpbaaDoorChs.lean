/-
  Disk: Choices.
-/
import Derived.Test.YtjaopckdhohpbaaDoorChr
import Derived.Test.YtjaopckdhohpbaaDoorDk7
namespace Go.Proofs.YtjaopckdhohpbaaDoor
open Go.RowKit Go.Shelf
set_option maxRecDepth 100000
set_option linter.unusedVariables false
set_option linter.unusedSimpArgs false
attribute [local go_sem] Oper.semAt_some

set_option maxHeartbeats 4000000 in
theorem ch_seq (g k B0 : Nat) (w : World) (hk : k ≤ 10) (bg : g < B0) (hx : IBox w g (k : Int)) : SeqV 29 #[.pointer (some ⟨g, 0, none⟩)] B0 (chA k).length (DcV k) w := fun l J Jx W hW hB hJ hJx hY h0 => by
  have HX := hid (fun wr (hk : KpB B0 W wr) => show IBox wr g (k : Int) from (hk _ bg).trans ((hW.block _ bg).trans hx))
  have HY := hid hY
  have HW1 := hid (whole_any k B0 l hk J Jx W.heap.size W hB (Nat.le_refl _) hY h0)
  have HT := hid (fun W2 (h2 : B0 ≤ W2.heap.size) (h3 : W.heap.size ≤ W2.heap.size) (h4 : J (2 ^ k) W2) => torn_any k B0 l hk J Jx W.heap.size W2 h2 h3 hY h4)
  clear hJ hJx hY hW hx h0
  have c1 := (HX.out W (KpB.refl _ _)).facts.1
  refine callsIn_of_wp Tryd.func29 rfl trivial ?_ rfl
  simp only [Tryd.ntmps29, List.size_toArray, List.length_cons, List.length_nil, Nat.reduceAdd, Nat.reduceSub, Array.replicate_succ, Array.replicate_zero, List.push_toArray, List.append_toArray, List.nil_append, List.cons_append]
  gi_wp2_with fail
  refine ⟨trivial, (callsIn_wide.2 (callsIn_wide.1 HW1.out)).mono ?_⟩
  rintro e W1 (⟨rfl, hJ1, hk1, hz1⟩ | ⟨rfl, n, hx1⟩)
  · have c2 := (HX.out W1 hk1).facts.1
    have HT1 := hid (HT.out W1 (by omega) hz1 hJ1)
    clear hJ1 hk1 hz1 HT c1
    gi_wp2_with fail
    refine ⟨trivial, (callsIn_wide.2 (callsIn_wide.1 HT1.out)).mono ?_⟩
    rintro e W2 (⟨rfl, hJ2, hk2, hz2⟩ | ⟨rfl, n, hx2⟩)
    · have HJ2 := hid hJ2
      clear hJ2 hk2 hz2
      gi_wp2
      go_end0
      exact ⟨⟨_, rfl⟩, .inl HJ2.out⟩
    · have HX2 := hid hx2
      clear hx2
      gi_wp2
      go_end0
      exact ⟨⟨_, rfl⟩, .inr ⟨_, HX2.out⟩⟩
  · have HX1 := hid hx1
    clear hx1 c1
    gi_wp2
    refine ⟨trivial, ?_⟩
    gi_wp2
    go_end0
    exact ⟨⟨_, rfl⟩, .inr ⟨_, HX1.out⟩⟩
set_option maxHeartbeats 4000000 in
theorem choices_any (base d f s cap n k : Nat) (tail : List Value) (F S : List UInt8) (dv : Value) (O : List Opn) (w : World) (hfl : HasFl w) (h : DK w base d f s cap tail F S dv O) (hok : OkO F.length O) (hn : n ≤ O.length) (hO : O.length ≤ 65536) (hk : n - brr O n = k) (hk10 : k ≤ 10) :
    Calls Tryd.prog 8 #[.pointer (some ⟨d, 0, none⟩), .int .i64 (n : Int)] w fun e w' => (∃ g, e = .returned (.func (.func 29) #[] #[.pointer (some ⟨g, 0, none⟩)]) ∧ IBox w' g (k : Int) ∧ w.heap.size ≤ g) ∧ Below w.heap.size w w' := by
  have hmf : ∀ (fn : Fn) (first cap : Array Value) (w : World), (Instr.makeFunc fn first cap).run Tryd.prog w = .ok (.func fn first cap) w := fun _ _ _ _ => rfl
  obtain ⟨ao, oc, rfl⟩ := h.form
  obtain ⟨c0, c1, c2, c3⟩ := h.cells
  have HS := hid (split_any base d f s cap n tail F S _ O w hfl h hok hn hO)
  have hbr := brr_le O n
  have hl2 : ((O.take n).drop (brr O n)).length = k := by rw [List.length_drop, List.length_take]; omega
  have hn1 : ¬ (n : Int) < 0 := by omega
  have hn2 : ¬ (O.length : Int) < (n : Int) := by omega
  have hk1 : ¬ (10 : Int) < (k : Int) := by omega
  generalize (O.take n).drop (brr O n) = L2 at *
  generalize O.take (brr O n) = L1 at *
  clear h hfl hok hbr
  go_enter Tryd.func8, Tryd.ntmps8
  go_wp2_with fail
  refine HS.out.mono ?_
  rintro e w1 ⟨⟨sv, lv, rfl, hsv, hlv⟩, hb1⟩
  obtain ⟨sao, sc, rfl, hsv⟩ := hsv
  obtain ⟨lao, lc, rfl, hlv⟩ := hlv
  have B1 := hid hb1
  clear hsv hlv hb1 HS c0 c1 c2 c3
  rw [hl2]
  obtain ⟨W, hW⟩ : ∃ W, w1.alloc (.cells #[.int .i64 (k : Int)] 3) = W := ⟨_, rfl⟩
  have hx : IBox W w1.heap.size (k : Int) := by rw [← hW]; exact heap_alloc_new w1 _
  have q1 := hx.facts.1
  have HRes := hid (And.intro hx (B1.out.trans ((show Below w1.heap.size w1 W by rw [← hW]; exact alloc_below _ _).mono B1.out.size)))
  clear hx
  go_wp2
  go_ret
  exact ⟨⟨_, rfl, HRes.out.1, B1.out.size⟩, HRes.out.2⟩
end Go.Proofs.YtjaopckdhohpbaaDoor
