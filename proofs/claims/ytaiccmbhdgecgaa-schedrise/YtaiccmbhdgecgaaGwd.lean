/-
  SchedRise: the four sequences in one form.
-/
import Derived.Test.YtaiccmbhdgecgaaGwc
namespace Go.Proofs.Ytaiccmbhdgecgaa
open Go.RowKit Go.Shelf
set_option maxRecDepth 100000
set_option linter.unusedVariables false
set_option linter.unusedSimpArgs false
attribute [local go_sem] Oper.semAt_some

theorem seq_notR (fn : Fn) (fi ca : Array Value) (w : World) : (binOp .eql 32 (.func fn fi ca) .nilFunc).run Try.prog w = .ok (.bool false) w := eql_func_nil w Try.underlying32 fn fi ca
theorem whole_any (gf : Nat) (lb : Array Value) (w : World) : Calls Try.prog 17 #[.func (.func gf) #[] lb] w fun e w' => e = .returned (.func (.func gf) #[] lb) ∧ w' = w := by
  have hnn := seq_notR (.func gf) #[] lb
  go_enter Try.func17, Try.ntmps17
  go_wp2
  go_ret
  exact ⟨rfl, rfl⟩
theorem SeqC.mono {gf c Lo B0 n : Nat} {lb : Array Value} {D D' : Nat → World → Value → World → Prop} {w0 : World} (h : SeqC gf lb c Lo B0 n D w0) (hd : ∀ k A v W, k < n → D k A v W → D' k A v W) : SeqC gf lb c Lo B0 n D' w0 :=
  fun l J Jx W a b hJ hJx hY h0 => h l J Jx W a b hJ hJx (fun k v A W1 i1 i2 i3 i4 i5 => hY k v A W1 i1 i2 i3 (hd k A v W1 i2 i4) i5) h0
structure SqG (G : List (List Int)) (gf : Nat) (lb : Array Value) (c Lo B0 : Nat) (w0 : World) : Prop where
  eg : ∀ args w, (callFunc gf args).run Try.prog w = .ok (.enter gf args) w
  sq : SeqC gf lb c Lo B0 G.length (LzD G) w0
theorem SqG.of_few {R : List Int} {mo : Int} {w w' : World} {e : Ending} (h : FwQ R mo w w' e) : ∃ gf lb c, e = .returned (.func (.func gf) #[] lb) ∧ SqG ((GL R mo).map iN) gf lb c w.heap.size w'.heap.size w' := by
  obtain ⟨gf, lb, c, he, hg, hs⟩ := h
  refine ⟨gf, lb, c, he, hg, ?_⟩
  rw [List.length_map]
  refine hs.mono fun k A v W hk hD => ?_
  have e : ((GL R mo).map iN).getD k [] = iN ((GL R mo).getD k []) := by
    rw [List.getD_eq_getElem?_getD, List.getElem?_map, List.getD_eq_getElem?_getD, List.getElem?_eq_getElem hk]
    rfl
  unfold LzD
  rw [e]
  exact Lz.of hD
structure AlG (h d : Int) (G : List (List Int)) : Prop where
  rise : Rsg G
  len : (okA h d = true ∧ G.length = h.toNat ^ d.toNat) ∨ (okA h d = false ∧ G.length = 0)
  each : ∀ k, k < G.length → ((G.getD k []).length : Int) = d
theorem SqG.of_all {h d : Int} {w w' : World} {e : Ending} (hA : AlF h d w w' e) : ∃ gf lb c G, e = .returned (.func (.func gf) #[] lb) ∧ SqG G gf lb c w.heap.size w'.heap.size w' ∧ AlG h d G := by
  rcases hA with ⟨hok, g1, g2, g3, rfl, x1, x2, x3, y1, y2, y3⟩ | ⟨hok, rfl⟩
  · have hk : 1 ≤ h ∧ h ≤ 16 ∧ 0 ≤ d ∧ d ≤ 24 ∧ h.toNat ^ d.toNat ≤ 1048576 := of_decide_eq_true hok
    obtain ⟨H, hH⟩ : ∃ H : Nat, h = (H : Int) := ⟨h.toNat, by omega⟩
    obtain ⟨D, hD⟩ : ∃ D : Nat, d = (D : Int) := ⟨d.toNat, by omega⟩
    subst hH hD
    simp only [Int.toNat_natCast] at hk x1
    have hl : ((List.range (H ^ D)).map fun k => dig H k D).length = H ^ D := by rw [List.length_map, List.length_range]
    have hat : ∀ k, k < H ^ D → ((List.range (H ^ D)).map fun k => dig H k D).getD k [] = dig H k D := fun k hk => by
      rw [List.getD_eq_getElem?_getD, List.getElem?_map, List.getElem?_range hk]
      rfl
    refine ⟨_, _, 0, (List.range (H ^ D)).map fun k => dig H k D, rfl, ⟨enters_of Try.func43 (by kernel_rfl) rfl, ?_⟩, ?_, ?_, ?_⟩
    · rw [hl]
      refine (all_seqC g1 g2 g3 w.heap.size w'.heap.size H D w' (by omega) (by omega) hk.2.2.2.2 ⟨y1, x1.facts.2.2⟩ ⟨y2, x2.facts.2.2⟩ ⟨y3, x3.facts.2.2⟩ x1 x2 x3).mono fun k A v W hk hD => ?_
      unfold LzD
      rw [hat k hk]
      exact Lz.ofw hD
    · unfold Rsg
      rw [List.pairwise_iff_getElem]
      intro i j hi hj hij
      rw [List.getElem_map, List.getElem_map, List.getElem_range, List.getElem_range]
      exact dig_rises H (by omega) D i j hij (by rw [hl] at hj; exact hj)
    · exact .inl ⟨hok, by rw [hl]; simp only [Int.toNat_natCast]⟩
    · intro k hk
      rw [hl] at hk
      rw [hat k hk, dig_len]
  · exact ⟨_, _, 0, [], rfl, ⟨enters_of Try.func38 (by kernel_rfl) rfl, none_seqC _ _ _ _⟩, List.Pairwise.nil, .inr ⟨hok, rfl⟩, fun k hk => absurd hk (Nat.not_lt_zero k)⟩
theorem inB_iN {x : List Nat} (hx : ∀ y ∈ x, y < 16) : inB (iN x) 16 = true := by
  unfold inB
  rw [List.all_eq_true]
  intro a ha
  obtain ⟨y, hy, rfl⟩ := List.mem_map.1 (show a ∈ x.map (fun n : Nat => (n : Int)) from ha)
  have := hx y hy
  simp
  omega
theorem swA_mix {x : List Nat} (hx : ∀ y ∈ x, y < 16) (hl : x.length ≤ 24) {e : Ending} (h : SwA (iN x) e) : e = .returned (.tuple #[.int .i64 (cS x x.length : Int), .int .i64 0]) := by
  rcases h with ⟨h, _⟩ | ⟨_, h, _⟩ | ⟨_, _, L, h1, _, h2⟩
  · rw [inB_iN hx] at h; cases h
  · rw [iN_len] at h; omega
  · rw [iN_inj h1]; exact h2
/-- what the law asks of what Few goes over -/
structure FwG (R : List Int) (mo : Int) (G : List (List Int)) : Prop where
  rise : Rsg G
  each : ∀ k, k < G.length → ∃ x, G.getD k [] = iN x ∧ (∀ y ∈ x, y < 16) ∧ x.length ≤ 24 ∧ ((cS x x.length : Nat) : Int) ≤ mo
  all : mo = 24 → smR R = true → (G.length : Int) = (cntA R).1
  none : (smR R = false ∨ mo < 0) → G.length = 0
  some : smR R = true → 0 ≤ mo → 0 < G.length
  few : G.length ≤ 1048576
theorem fwg (R : List Int) (mo : Int) : FwG R mo ((GL R mo).map iN) := by
  have h := glk R mo
  refine ⟨?_, ?_, ?_, ?_, ?_, ?_⟩
  · unfold Rsg
    rw [List.pairwise_map]
    exact h.rise
  · intro k hk
    rw [List.length_map] at hk
    refine ⟨(GL R mo)[k], ?_, h.each _ (List.getElem_mem _)⟩
    rw [List.getD_eq_getElem?_getD, List.getElem?_map, List.getElem?_eq_getElem hk]
    rfl
  · rw [List.length_map]
    exact h.all
  · intro hx
    rw [List.length_map, h.none hx]
    rfl
  · intro h1 h2
    rw [List.length_map]
    exact List.length_pos_iff.2 (h.some h1 h2)
  · rw [List.length_map]
    exact h.few
theorem want_bad {h d : Int} {G : List (List Int)} (hA : AlG h d G) {M i a : Nat} (hM : max 1 (min h 16) = (M : Int)) (ha : a = M ^ i) (hi : (i : Int) ≤ d ∨ i = 0) (hb : h < 1 ∨ 16 < h ∨ d < 0 ∨ 24 < d ∨ 1048576 < (a : Int)) : G.length = 0 := by
  rcases hA.len with ⟨e1, e2⟩ | ⟨e1, e2⟩
  · exfalso
    have hk : 1 ≤ h ∧ h ≤ 16 ∧ 0 ≤ d ∧ d ≤ 24 ∧ h.toNat ^ d.toNat ≤ 1048576 := of_decide_eq_true e1
    obtain ⟨k1, k2, k3, k4, k5⟩ := hk
    have eM : M = h.toNat := by omega
    have hle : a ≤ h.toNat ^ d.toNat := by
      rw [ha, eM]
      exact Nat.pow_le_pow_right (by omega) (by omega)
    omega
  · exact e2
theorem want_good {h d : Int} {G : List (List Int)} (hA : AlG h d G) {M i a : Nat} (hM : max 1 (min h 16) = (M : Int)) (ha : a = M ^ i) (hi : (i : Int) ≤ d ∨ i = 0) (hb : ¬ (h < 1 ∨ 16 < h ∨ d < 0 ∨ 24 < d ∨ 1048576 < (a : Int))) (hg : ¬ ((i : Int) < d ∧ i ≤ 24 ∧ a ≤ 1048576)) : G.length = a := by
  have eM : M = h.toNat := by omega
  have ei : i = d.toNat := by omega
  rcases hA.len with ⟨e1, e2⟩ | ⟨e1, e2⟩
  · rw [e2, ha, eM, ei]
  · exfalso
    have : okA h d = true := by
      unfold okA
      refine decide_eq_true ⟨by omega, by omega, by omega, by omega, ?_⟩
      rw [← eM, ← ei, ← ha]
      omega
    rw [this] at e1
    cases e1
/-- four loops' deferred calls, taken one behind the other -/
theorem four_k {WF : World} {p1 p2 p3 p4 : Nat} (h1 : p2 < p1) (h2 : p3 < p2) (h3 : p4 < p3) (k1 : WF.heap[p1]? = some (.deferred (some []))) (k2 : WF.heap[p2]? = some (.deferred (some []))) (k3 : WF.heap[p3]? = some (.deferred (some []))) (k4 : WF.heap[p4]? = some (.deferred (some []))) :
    (WF.putObj p1 (.deferred none)).heap[p2]? = some (.deferred (some [])) ∧ ((WF.putObj p1 (.deferred none)).putObj p2 (.deferred none)).heap[p3]? = some (.deferred (some [])) ∧ (((WF.putObj p1 (.deferred none)).putObj p2 (.deferred none)).putObj p3 (.deferred none)).heap[p4]? = some (.deferred (some [])) ∧ Below p4 WF ((((WF.putObj p1 (.deferred none)).putObj p2 (.deferred none)).putObj p3 (.deferred none)).putObj p4 (.deferred none)) :=
  ⟨(World.putObj_heap_other (by omega)).trans k2, (World.putObj_heap_other (by omega)).trans ((World.putObj_heap_other (by omega)).trans k3), (World.putObj_heap_other (by omega)).trans ((World.putObj_heap_other (by omega)).trans ((World.putObj_heap_other (by omega)).trans k4)),
    ⟨rfl, rfl, rfl, by simp, fun g hg => (World.putObj_heap_other (by omega)).trans ((World.putObj_heap_other (by omega)).trans ((World.putObj_heap_other (by omega)).trans (World.putObj_heap_other (by omega))))⟩⟩
end Go.Proofs.Ytaiccmbhdgecgaa
