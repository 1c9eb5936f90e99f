/-
  Books: apartInts: each list has memory of its own.
-/
import Derived.Test.YtaiccmbhdgecgaaBk0
import Derived.Deep.LoopGhost
namespace Go.Proofs.Ytaiccmbhdgecgaa
open Go.RowKit
set_option maxRecDepth 100000
set_option linter.unusedVariables false
set_option linter.unusedSimpArgs false

theorem gb_below {B : Nat} {a w w' : World} {row : Option Nat} (h : Below B a w) (hB : B ≤ a.heap.size) (hg : w.grownBy w' row) (hr : ∀ g, row = some g → B ≤ g) : Below B a w' :=
  ⟨hg.os.trans h.os, hg.tape.trans h.tape, hg.output.trans h.output, Nat.le_trans h.size hg.size, fun k hk => (hg.block k (by have := h.size; omega) (fun e => by have := hr k e.symm; omega)).trans (h.block k hk)⟩
/-- nothing below B, and nothing whose colour is not a list's, has turned -/
structure Bx (B : Nat) (col : Nat → Nat) (w w' : World) : Prop where
  bel : Below B w w'
  oth : ∀ g, g < w.heap.size → col g % 4 ≠ 0 → w'.heap[g]? = w.heap[g]?
theorem Bx.refl (B : Nat) (col : Nat → Nat) (w : World) : Bx B col w w := ⟨Below.refl _ _, fun _ _ _ => rfl⟩
theorem Bx.set {B : Nat} {col : Nat → Nat} {w w' : World} (h : Bx B col w w') {g i : Nat} (hg : B ≤ g) (hc : col g = 4 * i) (k : Nat) (u : Value) : Bx B col w (w'.setCell ⟨g, k, none⟩ u) :=
  ⟨h.bel.setCell (p := ⟨g, k, none⟩) hg u, fun q hq hne => ((gb_set w' g k u).block q (Nat.lt_of_lt_of_le hq h.bel.size) (fun e => by injection e with e; subst e; omega)).trans (h.oth q hq hne)⟩
theorem Bx.later {B : Nat} {col : Nat → Nat} {w w' w2 : World} (h : Bx B col w w') (hB : B ≤ w.heap.size) (hb : Below w'.heap.size w' w2) : Bx B col w w2 :=
  ⟨h.bel.trans (hb.mono (Nat.le_trans hB h.bel.size)), fun q hq hne => (hb.block q (Nat.lt_of_lt_of_le hq h.bel.size)).trans (h.oth q hq hne)⟩
theorem Bx.grown {B : Nat} {col : Nat → Nat} {w w' w2 : World} {row : Option Nat} (h : Bx B col w w') (hB : B ≤ w.heap.size) (hg : w'.grownBy w2 row) (hr : ∀ g, row = some g → B ≤ g ∧ (w.heap.size ≤ g ∨ col g % 4 = 0)) : Bx B col w w2 :=
  ⟨gb_below h.bel hB hg (fun g e => (hr g e).1), fun q hq hne => (hg.block q (Nat.lt_of_lt_of_le hq h.bel.size) (fun e => by rcases (hr q e.symm).2 with h | h <;> omega)).trans (h.oth q hq hne)⟩
def eN (x : Int) : List Value := [.int .i64 x]
theorem eN_len (x : Int) : (eN x).length = 1 := rfl
theorem eN_one (x : Int) : ∀ u ∈ eN x, u.oneCell' = true := by simp [eN, Value.oneCell']
def mkJ (i : Nat) : Int := (i : Int)
theorem iinf : (Try.prog.info? 3).map (fun i => (i.zero, i.size, i.bytes)) = some (some (.int .i64 0), 1, 8) := by kernel_rfl
theorem siinf : (Try.prog.info? 22).map (fun i => (i.zero, i.size, i.bytes)) = some (some (.slice none 0 0), 1, 24) := by kernel_rfl
/-- lists of ints in memory -/
def I1 (col : Nat → Nat) (w : World) (B : Nat) (iv : Value) (V : List Value) (Y : Nat → List Int) : Prop := Ow eV 1 22 col 2 w B iv V ∧ RwG eN 1 3 (fun j => 4 * j) col w B (fun _ => True) V Y
theorem I1.set {col : Nat → Nat} {w : World} {B : Nat} {iv : Value} {V : List Value} {Y : Nat → List Int} (h : I1 col w B iv V Y) (i k : Nat) (hi : i < V.length) (hk : k < (Y i).length) (x : Int) {g n cap : Nat} (hv : V[i] = .slice (some ⟨g, 0, none⟩) n cap) :
    I1 col (w.setCell ⟨g, k, none⟩ (.int .i64 x)) B iv V (fun j => if j = i then (Y i).set k x else Y j) := by
  have ho := h.2 i hi trivial
  have hcg : col g = 4 * i := ho.2 g (by rw [hv]; rfl)
  have gb := gb_set w g k (.int .i64 x)
  refine ⟨h.1.other gb (fun g' e => by cases e; exact hcg) (by (try dsimp only); omega), fun j hj _ => ?_⟩
  by_cases e : j = i
  · subst e
    show Ow eN 1 3 col (4 * j) _ B V[j] (if j = j then (Y j).set k x else Y j)
    rw [if_pos rfl]
    exact ho.set1 eN_len k hk x hv rfl
  · show Ow eN 1 3 col (4 * j) _ B V[j] (if j = i then (Y i).set k x else Y j)
    rw [if_neg e]
    exact (h.2 j hj trivial).other gb (fun g' e => by cases e; exact hcg) (by (try dsimp only); omega)
/-- while the grown lists are gathered -/
def I2 (col : Nat → Nat) (w : World) (B B2 : Nat) (iv mv : Value) (V M : List Value) (Y : Nat → List Int) : Prop := I1 col w B iv V Y ∧ Ow eV 1 22 col 10 w B2 mv M ∧ RwG eN 1 3 (fun j => 4 * j) col w B (fun _ => True) M (fun j => Y j ++ List.replicate 9 (mkJ j))
theorem I2.later {col : Nat → Nat} {w w' : World} {B B2 : Nat} {iv mv : Value} {V M : List Value} {Y : Nat → List Int} (h : I2 col w B B2 iv mv V M Y) (hb : Below w.heap.size w w') : I2 col w' B B2 iv mv V M Y := ⟨⟨h.1.1.later hb, h.1.2.later hb⟩, h.2.1.later hb, h.2.2.later hb⟩
theorem cell_new (w : World) (a : Value) (t : TypeId) (enc : Int → List Value) (x : Int) (hx : enc x = [a]) : ∀ j u, (([x] : List Int).flatMap enc)[j]? = some u → (w.alloc (.cells #[a] t)).cell? ((⟨w.heap.size, 0, none⟩ : Addr).add j) = some u := by
  intro j u hj
  match j, hj with
  | 0, hj => simp [hx] at hj; subst hj; simp [Addr.add]
  | j + 1, hj => simp [hx] at hj
theorem cell_newV (w : World) (a : Value) (t : TypeId) : ∀ j u, (([a] : List Value).flatMap eV)[j]? = some u → (w.alloc (.cells #[a] t)).cell? ((⟨w.heap.size, 0, none⟩ : Addr).add j) = some u := by
  intro j u hj
  match j, hj with
  | 0, hj => simp [eV] at hj; subst hj; simp [Addr.add]
  | j + 1, hj => simp [eV] at hj
theorem Ow.sl {α : Type} {enc : α → List Value} {k : Nat} {t : TypeId} {col : Nat → Nat} {c : Nat} {w : World} {B : Nat} {v : Value} {L : List α} (h : Ow enc k t col c w B v L) : ∃ ao cap, v = .slice ao L.length cap := by
  obtain ⟨ao, cap, e, _⟩ := h.len
  exact ⟨ao, cap, e⟩
/-- an int of a list -/
theorem Ow.atI {col : Nat → Nat} {c : Nat} {w : World} {B : Nat} {v : Value} {L : List Int} (h : Ow eN 1 3 col c w B v L) (i : Nat) (hi : i < L.length) : ∃ g cap, v = .slice (some ⟨g, 0, none⟩) L.length cap ∧ L.length ≤ cap ∧ w.cell? ⟨g, i, none⟩ = some (.int .i64 L[i]) ∧ w.frozen? ⟨g, i, none⟩ = false ∧ B ≤ g := by
  obtain ⟨g, cap, hv, h1, h2, _, _, hq, hf⟩ := Ow.at eN_len h i hi
  refine ⟨g, cap, hv, h1, ?_, hf _, h2⟩
  have := hq 0 (.int .i64 L[i]) rfl
  simpa using this
set_option maxHeartbeats 8000000 in
theorem apInts_any (w : World) (B : Nat) (col : Nat → Nat) (iv : Value) (V : List Value) (X : Nat → List Int) (hI : I1 col w B iv V X) (hB : B ≤ w.heap.size) (hX : ∀ j, (X j).length ≤ 1000000000000) (hl : V.length ≤ 1000000000000) :
    Calls Try.prog 59 #[iv] w fun e w' => e = .returned (.bool true) ∧ Bx B col w w' := by
  obtain ⟨io, ic, hiv⟩ := hI.1.sl
  subst hiv
  have HI := hib hI
  have HX := hib hX
  clear hI hX
  go_enter Try.func59, Try.ntmps59
  go_wp2_with fail
  go_loopg [3] V.length (fun g s3 wr => ∃ (i : Nat) (Y : Nat → List Int), i ≤ V.length ∧ V.length - i ≤ g ∧ s3 = .int .i64 (i : Int) ∧ Hid (I1 col wr B (.slice io V.length ic) V Y) ∧ Hid (∀ a, (Y a).length = (X a).length) ∧ Hid (∀ a, a < i → FilM mkJ a (Y a) (Y a).length) ∧ Hid (Bx B col w wr))
  case atStart => exact ⟨0, X, Nat.zero_le _, Nat.le_refl _, rfl, HI, hib (fun _ => rfl), hib (fun a h => by omega), hib (Bx.refl _ _ _)⟩
  case round =>
    obtain ⟨i, Y, hi, hm, h3, HS, HY, HF, HB⟩ := hrel
    subst h3
    by_cases hlt : i < V.length
    · have hltI : (i : Int) < (V.length : Int) := by omega
      have hdI : decide (i < V.length) = true := by simp; exact hlt
      obtain ⟨gO, hgO⟩ : ∃ gO, gO = gk := ⟨_, rfl⟩
      obtain ⟨bk, kc, hkv, hkc, _⟩ := HS.out.1.cellV i hlt
      injection hkv with e1 _ e3
      subst e1 e3
      obtain ⟨ai, ci, hvi⟩ := (HS.out.2 i hlt trivial).sl
      obtain ⟨N, hN⟩ : ∃ N, N = (X i).length := ⟨_, rfl⟩
      rw [HY.out i, ← hN] at hvi
      have HVI := hib hvi
      have HN := hib hN
      have hNl : N ≤ 1000000000000 := by rw [hN]; exact HX.out i
      have HG := hib (And.intro hgO hm)
      clear hvi hN hgO hm
      go_wp2_with fail
      go_loopg [4] N (fun g s4 wr => ∃ (k : Nat) (Y : Nat → List Int), k ≤ N ∧ N - k ≤ g ∧ s4 = .int .i64 (k : Int) ∧ Hid (I1 col wr B (.slice (some ⟨bk, 0, none⟩) V.length ic) V Y) ∧ Hid (∀ a, (Y a).length = (X a).length) ∧ Hid (∀ a, a < i → FilM mkJ a (Y a) (Y a).length) ∧ Hid (FilM mkJ i (Y i) k) ∧ Hid (Bx B col w wr))
      case atStart => exact ⟨0, Y, Nat.zero_le _, Nat.le_refl _, rfl, HS, HY, HF, hib (fun q h => by omega), HB⟩
      case round =>
        obtain ⟨k, Y2, hk, hm2, h4, HS2, HY2, HF2, HFi, HB2⟩ := hrel
        subst h4
        have ck : wr.cell? ⟨bk, i, none⟩ = some (.slice ai N ci) := by
          obtain ⟨g', c', e, _, hq⟩ := HS2.out.1.cellV i hlt
          cases e
          rw [HVI.out] at hq
          exact hq
        clear HS HY HF HB
        by_cases hk3 : k < N
        · have hkI : (k : Int) < (N : Int) := by omega
          have hdk : decide (k < N) = true := by simp; exact hk3
          obtain ⟨gi, ci', e, hci, hc, hf, hBg⟩ := (HS2.out.2 i hlt trivial).atI k (by rw [HY2.out i, ← HN.out]; exact hk3)
          rw [HVI.out] at e
          injection e with e1 e2 e3
          subst e1 e3
          obtain ⟨z0, hz0⟩ : ∃ z, wr.cell? ⟨gi, k, none⟩ = some (.int .i64 z) := ⟨_, hc⟩
          have hS3 := HS2.out.set i k hlt (by rw [HY2.out i, ← HN.out]; exact hk3) (i : Int) HVI.out
          have HS3 := hib hS3
          have hY3 : ∀ a, ((fun j => if j = i then (Y2 i).set k (i : Int) else Y2 j) a).length = (X a).length := fun a => by
            show (if a = i then (Y2 i).set k (i : Int) else Y2 a).length = _
            by_cases e : a = i
            · subst e; rw [if_pos rfl, List.length_set]; exact HY2.out _
            · rw [if_neg e]; exact HY2.out a
          have hF3 : ∀ a, a < i → FilM mkJ a ((fun j => if j = i then (Y2 i).set k (i : Int) else Y2 j) a) ((fun j => if j = i then (Y2 i).set k (i : Int) else Y2 j) a).length := fun a ha => by
            show FilM mkJ a (if a = i then (Y2 i).set k (i : Int) else Y2 a) (if a = i then (Y2 i).set k (i : Int) else Y2 a).length
            rw [if_neg (by omega)]
            exact HF2.out a ha
          have hFi3 : FilM mkJ i ((fun j => if j = i then (Y2 i).set k (i : Int) else Y2 j) i) (k + 1) := by
            show FilM mkJ i (if i = i then (Y2 i).set k (i : Int) else Y2 i) (k + 1)
            rw [if_pos rfl]
            exact HFi.out.step (by rw [HY2.out i, ← HN.out]; exact hk3)
          have HY3 := hib hY3
          have HF3 := hib hF3
          have HFi3 := hib hFi3
          have HB3 := hib (HB2.out.set hBg ((HS2.out.2 i hlt trivial).2 gi (by rw [HVI.out]; rfl)) k (.int .i64 (i : Int)))
          generalize (fun j => if j = i then (Y2 i).set k (i : Int) else Y2 j) = Y3 at HS3 HY3 HF3 HFi3
          clear hS3 hY3 hF3 hFi3 hc e2 hk3
          go_wp2
          go_roundg (gk - 1)
          case measure => omega
          case rel => exact ⟨k + 1, Y3, by omega, by omega, by first | rfl | go_num, HS3, HY3, HF3, HFi3, HB3⟩
        · have hkI : ¬ (k : Int) < (N : Int) := by omega
          have hdk : decide (k < N) = false := by simp; omega
          have HF3 := hib (show ∀ a, a < i + 1 → FilM mkJ a (Y2 a) (Y2 a).length from fun a ha => by
            by_cases e : a = i
            · subst e
              rw [HY2.out, ← HN.out]
              have : k = N := by omega
              subst this
              exact HFi.out
            · exact HF2.out a (by omega))
          clear hk3 hm2
          go_wp2
          go_roundg (gO - 1)
          case measure => obtain ⟨h1, h2⟩ := HG.out; omega
          case rel => exact ⟨i + 1, Y2, by omega, by obtain ⟨h1, h2⟩ := HG.out; omega, by first | rfl | go_num, HS2, HY2, HF3, HB2⟩
    · have hltI : ¬ (i : Int) < (V.length : Int) := by omega
      have hdI : decide (i < V.length) = false := by simp; omega
      have HFA := hib (show ∀ a, a < V.length → FilM mkJ a (Y a) (Y a).length from fun a ha => HF.out a (by omega))
      clear HF hm hlt
      go_wp2_with fail
      go_loopg [5, 6] V.length (fun g s5 s6 wr => ∃ (q : Nat) (col2 : Nat → Nat) (M : List Value), q ≤ V.length ∧ V.length - q ≤ g ∧ s6 = .int .i64 (q : Int) ∧ Hid (M.length = q) ∧ Hid (∀ g, g < w.heap.size → col2 g = col g) ∧ Hid (I2 col2 wr B w.heap.size (.slice io V.length ic) s5 V M Y) ∧ Hid (Bx B col w wr))
      case atStart => exact ⟨0, col, [], Nat.zero_le _, Nat.le_refl _, rfl, hib rfl, hib (fun _ _ => rfl), hib ⟨HS.out, Ow.nil _ _ _ _, RwG.nil _ _ _ _ _ _ _ _ _⟩, HB⟩
      case round =>
        obtain ⟨q, col2, M, hq, hm, h6, HM, HC2, HS2, HB2⟩ := hrel
        subst h6
        clear HS HB
        obtain ⟨mo, mc, hmv⟩ := HS2.out.2.1.sl
        rw [HM.out] at hmv
        subst hmv
        by_cases hlt : q < V.length
        · have hltI : (q : Int) < (V.length : Int) := by omega
          have hdI : decide (q < V.length) = true := by simp; exact hlt
          obtain ⟨gO, hgO⟩ : ∃ gO, gO = gk := ⟨_, rfl⟩
          obtain ⟨bk, kc, hkv, hkc, ck⟩ := HS2.out.1.1.cellV q hlt
          injection hkv with e1 _ e3
          subst e1 e3
          have hYl : (Y q).length ≤ 1000000000000 := by rw [HY.out q]; exact HX.out q
          obtain ⟨V9, hV9⟩ : ∃ u, u = V[q] := ⟨_, rfl⟩
          rw [← hV9] at ck
          have hOw := HS2.out.1.2 q hlt trivial
          rw [← hV9] at hOw
          have HOw := hib hOw
          have HG := hib (And.intro hgO hm)
          have HV9 := hib hV9
          clear hOw hgO hm hV9
          go_wp2_with fail
          go_loopg [7, 8] 9 (fun g s7 s8 wr => ∃ (k : Nat) (col3 : Nat → Nat), k ≤ 9 ∧ 9 - k ≤ g ∧ s8 = .int .i64 (k : Int) ∧ Hid (∀ g, g < w.heap.size → col3 g = col g) ∧ Hid (I2 col3 wr B w.heap.size (.slice (some ⟨bk, 0, none⟩) V.length ic) (.slice mo q mc) V M Y) ∧ Hid (Ow eN 1 3 col3 (4 * q) wr B s7 (Y q ++ List.replicate k (mkJ q))) ∧ Hid (Bx B col w wr))
          case atStart => exact ⟨0, col2, by omega, by omega, rfl, HC2, HS2, hib (by simpa using HOw.out), HB2⟩
          case round =>
            obtain ⟨k, col3, hk, hm2, h8, HC3, HS3, HO3, HB3⟩ := hrel
            subst h8
            clear HS2 HB2 HOw ck
            obtain ⟨o7, c7, hv7⟩ := HO3.out.sl
            subst hv7
            have hBw : B ≤ wr.heap.size := by have := HB3.out.bel.size; omega
            have hww : w.heap.size ≤ wr.heap.size := HB3.out.bel.size
            by_cases hk9 : k < 9
            · have hkI : (k : Int) < 9 := by omega
              have hdk : decide (k < 9) = true := by simp; exact hk9
              have b1 : Below wr.heap.size wr (wr.alloc (.cells #[.int .i64 (q : Int)] 3)) := (Below.refl _ _).alloc (Nat.le_refl _) _
              have HO4 := hib (HO3.out.later b1)
              have HS4 := hib (HS3.out.later b1)
              have HB4 := hib (HB3.out.later hB b1)
              have hnew := cell_new wr (.int .i64 (q : Int)) 3 eN (mkJ q) rfl
              have HNw := hib hnew
              have hL1 : ((Y q ++ List.replicate k (mkJ q)).length + ([mkJ q] : List Int).length) * 8 ≤ 140737488355328 := by simp; omega
              have hL2 : (Y q ++ List.replicate k (mkJ q)).length + ([mkJ q] : List Int).length ≤ maxLen := by unfold maxLen; simp; omega
              have HL := hib (And.intro hL1 hL2)
              have hBa : B ≤ (wr.alloc (.cells #[.int .i64 (q : Int)] 3)).heap.size := by simp; omega
              have HBa := hib hBa
              clear hnew hL1 hL2 hBa b1 HO3 HS3 HB3
              go_wp2_with (at_builtin; refine wpList_appD iinf Try.underlying22 rfl (by decide) eN_len rfl (.tmp 47) (.tmp 49) rfl rfl HO4.out _ _ _ [mkJ q] rfl rfl (fun x hx => eN_one x) HNw.out HL.out.1 HL.out.2 HBa.out ?n1)
              case n1 =>
              intro v' w5 col4 ho5 hkeep hg5 hr5' hc5'
              have hr5 := fun g e => And.intro (hr5' g e).1 (show g < (wr.alloc (.cells #[.int .i64 (q : Int)] 3)).heap.size by simpa using (hr5' g e).2)
              have hc5 := fun g (h : g < (wr.alloc (.cells #[.int .i64 (q : Int)] 3)).heap.size) => hc5' g (by simpa using h)
              clear hr5' hc5'
              have HO5 := hib (show Ow eN 1 3 col4 (4 * q) w5 B v' (Y q ++ List.replicate (k + 1) (mkJ q)) by rw [List.replicate_succ']; first | exact ho5 | (rw [← List.append_assoc]; exact ho5))
              have HS5 := hib (show I2 col4 w5 B w.heap.size (.slice (some ⟨bk, 0, none⟩) V.length ic) (.slice mo q mc) V M Y from by
                have h4 := HS4.out
                refine ⟨⟨h4.1.1.app hg5 hr5 hc5 (by (try dsimp only); omega), fun j hj _ => ?_⟩, h4.2.1.app hg5 hr5 hc5 (by (try dsimp only); omega), h4.2.2.app hg5 hr5 hc5 (fun j hj _ => by have := HM.out; (try dsimp only); omega)⟩
                by_cases e : j = q
                · subst e
                  exact hkeep _ _ _ (h4.1.2 j hj trivial) (by simp)
                · exact (h4.1.2 j hj trivial).app hg5 hr5 hc5 (by (try dsimp only); omega))
              have HB5 := hib (HB4.out.grown hB hg5 (fun g e => ⟨(HO4.out.lt g (by first | exact e | simpa using e)).1, by
                rcases Nat.lt_or_ge g w.heap.size with h | h
                · right
                  rw [← HC3.out g h, (hr5 g e).1]
                  omega
                · exact .inl h⟩))
              have HC5 := hib (show ∀ g, g < w.heap.size → col4 g = col g from fun g h => (hc5 g (by simp; omega)).trans (HC3.out g h))
              clear ho5 hkeep hg5 hr5 hc5 HO4 HS4 HB4 HNw HL HBa hk9
              obtain ⟨o5, c5, hv5⟩ := HO5.out.sl
              subst hv5
              go_wp2
              go_roundg (gk - 1)
              case measure => omega
              case rel => exact ⟨k + 1, col4, by omega, by omega, by first | rfl | go_num, HC5, HS5, HO5, HB5⟩
            · have hkI : ¬ (k : Int) < 9 := by omega
              have hdk : decide (k < 9) = false := by simp; omega
              have hk0 : k = 9 := by omega
              subst hk0
              have b1 : Below wr.heap.size wr (wr.alloc (.cells #[.slice o7 (Y q ++ List.replicate 9 (mkJ q)).length c7] 22)) := (Below.refl _ _).alloc (Nat.le_refl _) _
              have HO4 := hib (HO3.out.later b1)
              have HS4 := hib (HS3.out.later b1)
              have HB4 := hib (HB3.out.later hB b1)
              have HNw := hib (cell_newV wr (.slice o7 (Y q ++ List.replicate 9 (mkJ q)).length c7) 22)
              have hML := HM.out
              have HL := hib (show (M.length + ([.slice o7 (Y q ++ List.replicate 9 (mkJ q)).length c7] : List Value).length) * 24 ≤ 140737488355328 ∧ M.length + ([.slice o7 (Y q ++ List.replicate 9 (mkJ q)).length c7] : List Value).length ≤ maxLen from ⟨by simp; omega, by unfold maxLen; simp; omega⟩)
              have HBa := hib (show w.heap.size ≤ (wr.alloc (.cells #[.slice o7 (Y q ++ List.replicate 9 (mkJ q)).length c7] 22)).heap.size by simp; omega)
              generalize hln : (Y q ++ List.replicate 9 (mkJ q)).length = ln at *
              have HLn := hib hln
              clear hln b1 HO3 HS3 HB3 hML hk9
              go_wp2_with (at_builtin; refine wpList_appD siinf Try.underlying48 rfl (by decide) eV_len rfl (.tmp 51) (.tmp 53) rfl rfl HS4.out.2.1 _ _ _ [.slice o7 ln c7] rfl rfl (fun x hx => by simp at hx; subst hx; simp [eV, Value.oneCell']) HNw.out HL.out.1 HL.out.2 HBa.out ?n2)
              case n2 =>
              intro v' w5 col4 ho5 hkeep hg5 hr5' hc5'
              have hr5 := fun g e => And.intro (hr5' g e).1 (show g < (wr.alloc (.cells #[.slice o7 ln c7] 22)).heap.size by simpa using (hr5' g e).2)
              have hc5 := fun g (h : g < (wr.alloc (.cells #[.slice o7 ln c7] 22)).heap.size) => hc5' g (by simpa using h)
              clear hr5' hc5'
              have HS5 := hib (show I2 col4 w5 B w.heap.size (.slice (some ⟨bk, 0, none⟩) V.length ic) v' V (M ++ [.slice o7 ln c7]) Y from by
                have h4 := HS4.out
                refine ⟨⟨h4.1.1.app hg5 hr5 hc5 (by (try dsimp only); omega), h4.1.2.app hg5 hr5 hc5 (fun j hj _ => by (try dsimp only); omega)⟩, ho5, RwG.snoc (h4.2.2.app hg5 hr5 hc5 (fun j hj _ => by (try dsimp only); omega)) fun _ => ?_⟩
                have := HO4.out.app hg5 hr5 hc5 (by (try dsimp only); omega)
                rw [HM.out]
                exact this)
              have HB5 := hib (HB4.out.grown hB hg5 (fun g e => by have := (HS4.out.2.1.lt g (by first | exact e | simpa using e)).1; exact ⟨by omega, .inl this⟩))
              have HC5 := hib (show ∀ g, g < w.heap.size → col4 g = col g from fun g h => (hc5 g (by simp; omega)).trans (HC3.out g h))
              have HM5 := hib (show (M ++ [Value.slice o7 ln c7]).length = q + 1 by rw [List.length_append, HM.out]; rfl)
              clear ho5 hkeep hg5 hr5 hc5 HO4 HS4 HB4 HNw HL HBa
              obtain ⟨o5, c5, hv5⟩ := HS5.out.2.1.sl
              subst hv5
              go_wp2
              go_roundg (gO - 1)
              case measure => obtain ⟨h1, h2⟩ := HG.out; omega
              case rel => exact ⟨q + 1, col4, _, by omega, by obtain ⟨h1, h2⟩ := HG.out; omega, by first | rfl | go_num, HM5, HC5, HS5, HB5⟩
        · have hltI : ¬ (q : Int) < (V.length : Int) := by omega
          have hdI : decide (q < V.length) = false := by simp; omega
          have hqV : q = V.length := by omega
          have HMV := hib (show M.length = V.length by rw [HM.out]; exact hqV)
          clear hm hlt
          go_wp2_with fail
          obtain ⟨w6, hw6⟩ : ∃ w6, w6 = wr := ⟨_, rfl⟩
          subst hw6
          go_loopg [9] V.length (fun g s9 wc => ∃ (p : Nat), p ≤ V.length ∧ V.length - p ≤ g ∧ s9 = .int .i64 (p : Int) ∧ wc = w6)
          case atStart => exact ⟨0, Nat.zero_le _, Nat.le_refl _, rfl, rfl⟩
          case round =>
            obtain ⟨p, hp, hm, h9, hwc⟩ := hrel
            subst h9
            replace hwc := hwc.symm
            subst hwc
            by_cases hlt : p < V.length
            · have hltI : (p : Int) < (V.length : Int) := by omega
              have hdI : decide (p < V.length) = true := by simp; exact hlt
              obtain ⟨gO, hgO⟩ : ∃ gO, gO = gk := ⟨_, rfl⟩
              have hltM : p < M.length := by rw [HMV.out]; exact hlt
              obtain ⟨bk, kc, hkv, hkc, ck⟩ := HS2.out.1.1.cellV p hlt
              injection hkv with e1 _ e3
              subst e1 e3
              obtain ⟨bm, kc2, hmv, hkc2, cm⟩ := HS2.out.2.1.cellV p hltM
              injection hmv with e1 e2 e3
              subst e1 e3
              obtain ⟨ap, cp, hvp⟩ := (HS2.out.1.2 p hlt trivial).sl
              obtain ⟨gm, cpm, hmp, hcm, _⟩ := (HS2.out.2.2 p hltM trivial).atI 0 (by simp)
              obtain ⟨N, hN⟩ : ∃ N, N = (Y p).length := ⟨_, rfl⟩
              obtain ⟨N9, hN9⟩ : ∃ N9, N9 = (Y p ++ List.replicate 9 (mkJ p)).length := ⟨_, rfl⟩
              have hN9' : N9 = N + 9 := by rw [hN9, hN]; simp
              rw [← hN] at hvp
              rw [← hN9] at hmp hcm
              have hmore : ∀ k, k < N9 → w6.cell? ⟨gm, k, none⟩ = some (.int .i64 (p : Int)) := by
                intro k hk
                have hk' : k < (Y p ++ List.replicate 9 (mkJ p)).length := by rw [← hN9]; exact hk
                obtain ⟨g', c', e, _, hc, _⟩ := (HS2.out.2.2 p hltM trivial).atI k hk'
                rw [hmp] at e
                injection e with e1
                injection e1 with e1
                injection e1 with e1
                subst e1
                have hf := (HFA.out p hlt).all 9 k (by rw [← hN]; omega)
                rw [List.getElem?_eq_getElem hk'] at hf
                injection hf with hf
                rw [hf] at hc
                exact hc
              have hlist : ∀ k, k < N → ∃ gp, ap = some ⟨gp, 0, none⟩ ∧ N ≤ cp ∧ w6.cell? ⟨gp, k, none⟩ = some (.int .i64 (p : Int)) := by
                intro k hk
                have hk' : k < (Y p).length := by rw [← hN]; exact hk
                obtain ⟨g', c', e, hcc, hc, _⟩ := (HS2.out.1.2 p hlt trivial).atI k hk'
                rw [hvp] at e
                injection e with e1 e2 e3
                subst e3
                have hf := HFA.out p hlt k (by rw [← hN]; exact hk)
                rw [List.getElem?_eq_getElem hk'] at hf
                injection hf with hf
                rw [hf] at hc
                exact ⟨g', e1, by rw [hN]; exact hcc, hc⟩
              rw [hvp] at ck
              rw [hmp] at cm
              have hNb : N ≤ 1000000000000 := by rw [hN, HY.out p]; exact HX.out p
              have HMo := hib hmore
              have HLi := hib hlist
              have HG := hib (And.intro hgO hm)
              have HN9 := hib hN9'
              have hN9b : N9 ≤ 1000000000009 := by omega
              clear hgO hm hmore hlist hvp hmp hN hN9 hN9' e2
              go_wp2_with fail
              go_loopg [10] N9 (fun g s10 wc => ∃ (k : Nat), k ≤ N9 ∧ N9 - k ≤ g ∧ s10 = .int .i64 (k : Int) ∧ wc = w6)
              case atStart => exact ⟨0, Nat.zero_le _, Nat.le_refl _, rfl, rfl⟩
              case round =>
                obtain ⟨k, hk, hm2, h10, hwc⟩ := hrel
                subst h10
                replace hwc := hwc.symm
                subst hwc
                by_cases hk9 : k < N9
                · have hkI : (k : Int) < (N9 : Int) := by omega
                  have hdk : decide (k < N9) = true := by simp; exact hk9
                  have hc1 := HMo.out k hk9
                  by_cases hkN : k < N
                  · have hkNI : (k : Int) < (N : Int) := by omega
                    have hdN : decide (k < N) = true := by simp; exact hkN
                    obtain ⟨gp, hap, hcp, hc2⟩ := HLi.out k hkN
                    subst hap
                    clear hkN hk9
                    go_wp2
                    go_roundg (gk - 1)
                    case measure => omega
                    case rel => exact ⟨k + 1, by omega, by omega, by first | rfl | go_num, rfl⟩
                  · have hkNI : ¬ (k : Int) < (N : Int) := by omega
                    have hdN : decide (k < N) = false := by simp; omega
                    clear hkN hk9
                    go_wp2
                    go_roundg (gk - 1)
                    case measure => omega
                    case rel => exact ⟨k + 1, by omega, by omega, by first | rfl | go_num, rfl⟩
                · have hkI : ¬ (k : Int) < (N9 : Int) := by omega
                  have hdk : decide (k < N9) = false := by simp; omega
                  clear hk9 hm2
                  go_wp2
                  go_roundg (gO - 1)
                  case measure => obtain ⟨h1, h2⟩ := HG.out; omega
                  case rel => exact ⟨p + 1, by omega, by obtain ⟨h1, h2⟩ := HG.out; omega, by first | rfl | go_num, rfl⟩
            · have hltI : ¬ (p : Int) < (V.length : Int) := by omega
              have hdI : decide (p < V.length) = false := by simp; omega
              go_wp2
              go_ret
              exact ⟨rfl, HB2.out⟩
end Go.Proofs.Ytaiccmbhdgecgaa
