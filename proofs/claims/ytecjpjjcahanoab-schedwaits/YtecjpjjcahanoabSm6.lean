/-
  Mixed, and the document's.
-/
import Derived.Test.YtecjpjjcahanoabSm5
import Derived.Test.YtecjpjjcahanoabSm3
namespace Go.Proofs.Ytecjpjjcahanoab
open Go.RowKit Go.Shelf
set_option maxRecDepth 100000

theorem mixed_seq (gs gk gn B0 n len kk : Nat) (s : Int) (w : World) (hn : 1 ≤ n) (hn2 : n ≤ 16) (hnl : n ≤ len) (hl2 : len ≤ 1000) (hk : (kk + 1) / 2 = len) (hgs : gs < B0) (hgk : gk < B0) (hgn : gn < B0)
    (h1 : UBox 41 w gs s) (h2 : IBox w gk (kk : Int)) (h3 : IBox w gn (n : Int)) :
    SeqW 50 #[.pointer (some ⟨gs, 0, none⟩), .pointer (some ⟨gk, 0, none⟩), .pointer (some ⟨gn, 0, none⟩)] 2 B0 (mxL s n len 65536) w := fun l J Jx W hW hB hJ hJx hY h0 =>
  mixed1 l gs gk gn B0 n len kk s w hgs hgk hgn hn hn2 hnl hl2 hk J Jx W hW hB hJ hJx hY h0 h1 h2 h3

theorem nothing_seq (B0 : Nat) (w : World) : SeqW 49 #[] 0 B0 [] w := fun l J Jx W hW hB hJ hJx hY h0 => by
  refine callsIn_of_wp Try.func49 rfl trivial ?_ rfl
  simp only [Try.ntmps49, List.size_toArray, List.length_cons, List.length_nil, Nat.reduceAdd, Nat.reduceSub, Array.replicate_succ, Array.replicate_zero, List.push_toArray, List.append_toArray, List.nil_append, List.cons_append]
  have H0 := hid h0
  clear hY hJ h0 hJx
  gi_wp2
  go_end0
  exact ⟨⟨_, rfl⟩, .inl H0.out⟩

/-- Mixed goes over something -/
def okM (n k : Int) : Bool := decide (1 ≤ n ∧ n ≤ 16 ∧ 2 * n - 1 ≤ k ∧ k ≤ 1024)
theorem okM_iff (n k : Int) : okM n k = true ↔ 1 ≤ n ∧ n ≤ 16 ∧ 2 * n - 1 ≤ k ∧ k ≤ 1024 := by simp [okM]
theorem okM_no {n k : Int} (h : ¬ (1 ≤ n ∧ n ≤ 16 ∧ 2 * n - 1 ≤ k ∧ k ≤ 1024)) : okM n k = false := by unfold okM; exact decide_eq_false h
/-- what Mixed answers -/
def MxE (s n k : Int) (w' : World) (e : Ending) : Prop :=
  (okM n k = true ∧ ∃ gs gk gn, e = .returned (.func (.func 50) #[] #[.pointer (some ⟨gs, 0, none⟩), .pointer (some ⟨gk, 0, none⟩), .pointer (some ⟨gn, 0, none⟩)]) ∧ UBox 41 w' gs s ∧ IBox w' gk k ∧ IBox w' gn n) ∨ (okM n k = false ∧ e = .returned (.func (.func 49) #[] #[]))
set_option maxHeartbeats 400000 in
theorem mixed_any (s n k : Int) (w : World) (hk0 : -9223372036854775808 ≤ k ∧ k ≤ 9223372036854775807) :
    Calls Try.prog 23 #[.int .u64 s, .int .i64 n, .int .i64 k] w fun e w' => MxE s n k w' e ∧ Below w.heap.size w w' := by
  have hmf : ∀ (fn : Fn) (first cap : Array Value) (w : World), (Instr.makeFunc fn first cap).run Try.prog w = .ok (.func fn first cap) w := fun _ _ _ _ => rfl
  have HI := hid (isCount_any n)
  obtain ⟨V, hV⟩ : ∃ V, ((w.alloc (.cells #[.int .u64 s] 41)).alloc (.cells #[.int .i64 n] 3)).alloc (.cells #[.int .i64 k] 3) = V := ⟨_, rfl⟩
  have bV := hid (show Below w.heap.size w V by rw [← hV]; exact (((Below.refl _ _).alloc (Nat.le_refl _) _).alloc (by simp) _).alloc (by simp; omega) _)
  have x1 := hid (show UBox 41 V w.heap.size s by
    rw [← hV]
    exact (UBox.later (show UBox 41 (w.alloc (.cells #[.int .u64 s] 41)) w.heap.size s from heap_alloc_new w _) (alloc_below _ _)).later (alloc_below _ _))
  have x2 := hid (show IBox V (w.heap.size + 1) n by
    rw [← hV]
    have h : IBox _ _ n := heap_alloc_new (w.alloc (.cells #[.int .u64 s] 41)) (.cells #[.int .i64 n] 3)
    rw [World.size_alloc] at h
    exact h.later (alloc_below _ _))
  have x3 := hid (show IBox V (w.heap.size + 2) k by
    rw [← hV]
    have h : IBox _ _ k := heap_alloc_new ((w.alloc (.cells #[.int .u64 s] 41)).alloc (.cells #[.int .i64 n] 3)) (.cells #[.int .i64 k] 3)
    rw [World.size_alloc, World.size_alloc] at h
    exact h)
  have c2 := x2.out.facts.1
  have c3 := x3.out.facts.1
  go_enter Try.func23, Try.ntmps23
  by_cases hn : okN n = true
  · obtain ⟨n1, n2⟩ := (okN_iff n).1 hn
    rw [hn] at HI
    clear hn
    by_cases hk1 : 2 * n - 1 ≤ k
    · by_cases hk2 : k ≤ 1024
      · have HN := hid ((okM_iff n k).2 ⟨n1, n2, hk1, hk2⟩)
        go_wp2_with (first
          | (go_at_call 38; refine (HI.out _).mono ?_; rintro e w3 ⟨rfl, rfl⟩))
        go_ret
        exact ⟨.inl ⟨HN.out, _, _, _, rfl, x1.out, x3.out, x2.out⟩, bV.out⟩
      · have HN := hid (okM_no (n := n) (k := k) (by omega))
        go_wp2_with (first
          | (go_at_call 38; refine (HI.out _).mono ?_; rintro e w3 ⟨rfl, rfl⟩))
        go_ret
        exact ⟨.inr ⟨HN.out, rfl⟩, bV.out⟩
    · have HN := hid (okM_no (n := n) (k := k) (by omega))
      go_wp2_with (first
        | (go_at_call 38; refine (HI.out _).mono ?_; rintro e w3 ⟨rfl, rfl⟩))
      go_ret
      exact ⟨.inr ⟨HN.out, rfl⟩, bV.out⟩
  · have HN := hid (okM_no (n := n) (k := k) (fun h => hn ((okN_iff n).2 ⟨h.1, h.2.1⟩)))
    rw [Bool.eq_false_iff.2 hn] at HI
    clear hn
    go_wp2_with (first
      | (go_at_call 38; refine (HI.out _).mono ?_; rintro e w3 ⟨rfl, rfl⟩))
    go_ret
    exact ⟨.inr ⟨HN.out, rfl⟩, bV.out⟩

end Go.Proofs.Ytecjpjjcahanoab
