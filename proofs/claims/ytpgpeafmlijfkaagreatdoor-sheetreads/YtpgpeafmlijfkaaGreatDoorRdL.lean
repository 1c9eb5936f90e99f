/-
  Sdn: Sheets: a Reader that has a fault, or is done, or is nil (beside the document's side).
  Srs: Sheets: both Readers and the Books beside one another: colours, and what a call leaves as it lies.
  Srt: Sheets: both Readers between two calls: what the calls answer.
  Sru: Sheets: both Readers between two calls: what the document's calls answer.
  Srv: Sheets: what is lent lies in a new block; said; what holds between two rounds of the law.
  LawSRe: SheetReads: the law's walk.
  PcsIn: A script of pieces that came in, with its sizes.
-/
import Derived.Test.YtpgpeafmlijfkaaGreatDoorSfi
import Derived.Test.YtpgpeafmlijfkaaGreatDoorSqn
import Derived.Test.YtpgpeafmlijfkaaGreatDoorSqe
import Derived.Test.YtpgpeafmlijfkaaGreatDoorDsm
import Derived.Test.YtpgpeafmlijfkaaGreatDoorRdB2
import Derived.Test.YtpgpeafmlijfkaaGreatDoorRdD
import Derived.Test.YtpgpeafmlijfkaaGreatDoorSsd
import Derived.Deep.CutRange
import Derived.Deep.DeepCutAuto
import Derived.Deep.LoopGhost
import Derived.OpenShut
import Derived.SizedLaws
import Derived.ProofKit
import Derived.ChangeOld
import Derived.ChangeSame
import Derived.ChangeArms
import Derived.DataReads
namespace Go.Proofs.YtpgpeafmlijfkaaGreatDoor
open Go.RowKit
set_option maxRecDepth 100000
set_option linter.unusedVariables false
set_option linter.unusedSimpArgs false

theorem sj_bdd (L : List UInt8) (j : Nat) : Bdd (sj L j) ∧ (sj L j).sz ≤ 262144 := feed_bdd (L.take j) _ 0 s0 (Nat.le_refl _) s0_bdd (by decide)
theorem sj_bdd0 (L : List UInt8) (j : Nat) : Bdd { sj L j with td := [] } := by
  have h := (sj_bdd L j).1
  exact ⟨h.cur, h.cs, h.rw, Nat.zero_le _, h.l, h.c⟩
/-- a fault that a byte shows is none of the text's end -/
theorem sj_code (L : List UInt8) (n : Nat) (hn : n ≤ L.length) (h : (sj L n).er ≠ 0) : (sj L n).er ≠ 1 ∧ ((sj L n).er ≤ 8 ∨ (sj L n).er = 20) := by
  obtain ⟨j, j1, j0, jb, js⟩ := sj_first L n h
  have I := ivn L j (by omega) j0
  rw [js]
  rw [sj_succ L j (by omega) j0] at jb ⊢
  unfold Rs.take at jb ⊢
  by_cases hz : (sj L j).sz = 262144
  · rw [if_pos hz]
    exact ⟨by simp [Rs.fail], .inr rfl⟩
  · rw [if_neg hz] at jb ⊢
    have e : (((sj L j).next (some (bt L j))).gone (bt L j)).er = ((sj L j).next (some (bt L j))).er := rfl
    first
      | rw [e] at jb ⊢
      | skip
    rcases next_bad (sj L j) (bt L j) I.md j0 jb with ⟨_, _, a, b⟩ | ⟨_, _, a⟩
    · exact ⟨a, .inl (by have : ((sj L j).next (some (bt L j))).er ≤ 7 := b; exact Nat.le_trans this (by decide))⟩
    · constructor
      · show ((sj L j).next (some (bt L j))).er ≠ 1
        omega
      · left
        show ((sj L j).next (some (bt L j))).er ≤ 8
        omega
theorem fp_le2 (L : List UInt8) (h : (sj L L.length).er ≠ 0) : (sj L L.length).fp.1 ≤ 262200 ∧ (sj L L.length).fp.2 ≤ 262200 := by
  rw [sj_all] at h ⊢
  have e : clP (fdP L) = fdP L := by unfold clP; rw [if_neg h]
  obtain ⟨f, _, h2, h3, _⟩ := first_fault L (by rw [e]; exact h)
  have := plc_le L f
  rw [e] at h3
  rw [h3]
  omega
/-- what a Reader with a fault answers -/
def FeN (A : Nat → Addr) (G : Nat → Prop) (w : World) (b : Nat) (s : Rs) (e : Ending) (w' : World) : Prop :=
  ∃ tv V ev, e = .returned (.tuple #[tv, ev]) ∧ TR w' tv V s.td ∧ FT A w' ev s.er s.fp ∧ RX A (Gs G tv V) w' b { s with td := [] } ∧ Kg G w w' ∧ NvD G tv V
set_option maxHeartbeats 4000000 in
theorem feed_fln (A : Nat → Addr) (G : Nat → Prop) (b g n cap : Nat) (s : Rs) (w : World) (h : RX A G w b s) (he : s.er ≠ 0) :
    Calls Tryz.prog 13 #[.pointer (some ⟨b, 0, none⟩), .slice (some ⟨g, 0, none⟩) n cap] w fun e w' => FeN A G w b s e w' := by
  have c17 := h.c17
  have c16 := h.c16
  rw [erV_pos A he] at c16
  have HB := hid (begin_old A G b s w h)
  have HTl := hid (tell_any A G b s w h)
  clear h he
  go_enter Tryz.func13, Tryz.ntmps13
  go_wp2_with fail
  refine Calls.mono HB.out ?_
  rintro e w1 ⟨rfl, hw⟩
  replace hw := hw.symm
  subst hw
  go_wp2_with fail
  go_loopw [6] (fun i wr => i = .int .i64 0 ∧ wr = w) (fun _ _ => 0)
  case atStart => exact ⟨rfl, rfl⟩
  case round =>
    obtain ⟨hi, hwr⟩ := hrel
    subst hi
    replace hwr := hwr.symm
    subst hwr
    by_cases h0 : 0 < n
    · have hI : (0 : Int) < (n : Int) := by omega
      have hdI : decide (0 < n) = true := by simp; exact h0
      clear h0
      go_wp2_with fail
      refine Calls.mono HTl.out ?_
      rintro e w2 ⟨tv, V, ev, rfl, ht, hft, hr, hk2, hnv⟩
      obtain ⟨a1, c1, rfl⟩ := own_slice ht.own
      go_wp2
      go_ret2
      unfold FeN
      exact ⟨_, V, _, rfl, ht, hft, hr, hk2, hnv⟩
    · have hI : ¬ (0 : Int) < (n : Int) := by omega
      have hdI : decide (0 < n) = false := by simp; omega
      clear h0
      go_wp2_with fail
      refine Calls.mono HTl.out ?_
      rintro e w2 ⟨tv, V, ev, rfl, ht, hft, hr, hk2, hnv⟩
      obtain ⟨a1, c1, rfl⟩ := own_slice ht.own
      go_wp2
      go_ret2
      unfold FeN
      exact ⟨_, V, _, rfl, ht, hft, hr, hk2, hnv⟩
/-- what a Reader that is done answers -/
def DnA (A : Nat → Addr) (w : World) (e : Ending) (w' : World) : Prop := ∃ f : Nat, e = .returned (.tuple #[.slice none 0 0, .iface 59 (.pointer (some ⟨f, 0, none⟩))]) ∧ w'.heap[f]? = some (.cells #[.int .i64 0, .int .i64 0, erV A 9] 64 (0, 0)) ∧ Below w.heap.size w w'
theorem dn_new (A : Nat → Addr) (w : World) : (w.alloc (.cells #[.int .i64 0, .int .i64 0, .iface 208 (.pointer (some (A 9)))] 64)).drew.heap[w.heap.size]? = some (.cells #[.int .i64 0, .int .i64 0, erV A 9] 64 (0, 0)) ∧ Below w.heap.size w (w.alloc (.cells #[.int .i64 0, .int .i64 0, .iface 208 (.pointer (some (A 9)))] 64)).drew :=
  ⟨heap_alloc_new w _, by
    have h := (Below.refl w.heap.size w).alloc (Nat.le_refl _) (.cells #[.int .i64 0, .int .i64 0, .iface 208 (.pointer (some (A 9)))] 64)
    exact ⟨h.os, h.tape, h.output, h.size, h.block⟩⟩
set_option maxHeartbeats 4000000 in
theorem feed_dn (A : Nat → Addr) (b g n cap : Nat) (w : World) (hE : HE A w) (h : DnR w b) :
    Calls Tryz.prog 13 #[.pointer (some ⟨b, 0, none⟩), .slice (some ⟨g, 0, none⟩) n cap] w fun e w' => DnA A w e w' := by
  have c17 := h.c17
  have e9 := hE.e9
  have HD := hid (dn_new A w)
  clear h hE
  go_enter Tryz.func13, Tryz.ntmps13
  go_wp2
  go_region
  all_goals go_wp2
  all_goals go_ret2
  all_goals exact ⟨w.heap.size, rfl, HD.out.1, HD.out.2⟩
set_option maxHeartbeats 4000000 in
theorem close_dn (A : Nat → Addr) (b : Nat) (w : World) (hE : HE A w) (h : DnR w b) :
    Calls Tryz.prog 7 #[.pointer (some ⟨b, 0, none⟩)] w fun e w' => DnA A w e w' := by
  have c17 := h.c17
  have e9 := hE.e9
  have HD := hid (dn_new A w)
  clear h hE
  go_enter Tryz.func7, Tryz.ntmps7
  go_wp2
  go_region
  all_goals go_wp2
  all_goals go_ret2
  all_goals exact ⟨w.heap.size, rfl, HD.out.1, HD.out.2⟩
theorem DnR.below {w w' : World} {b : Nat} (h : DnR w b) (hb : Below w.heap.size w w') : DnR w' b := (hb.block b h.lt).trans h
set_option maxHeartbeats 1000000 in
theorem nilRF (v : Value) (w : World) : Calls Tryz.prog 13 #[.pointer none, v] w fun e w' => e = .returned (.tuple #[.slice none 0 0, .nilIface]) ∧ w' = w := by
  go_enter Tryz.func13, Tryz.ntmps13
  go_wp2
  go_ret2
  exact ⟨rfl, rfl⟩
set_option maxHeartbeats 1000000 in
theorem nilRC (w : World) : Calls Tryz.prog 7 #[.pointer none] w fun e w' => e = .returned (.tuple #[.slice none 0 0, .nilIface]) ∧ w' = w := by
  go_enter Tryz.func7, Tryz.ntmps7
  go_wp2
  go_ret2
  exact ⟨rfl, rfl⟩
theorem FT.later {A : Nat → Addr} {w w' : World} {ev : Value} {c : Nat} {p : Nat × Nat} (h : FT A w ev c p) (hb : Below w.heap.size w w') : FT A w' ev c p := by
  rcases h with h | ⟨h1, f, h2, h3⟩
  · exact .inl h
  · exact .inr ⟨h1, f, h2, (hb.block f (Array.getElem?_eq_some_iff.1 h3).1).trans h3⟩
end Go.Proofs.YtpgpeafmlijfkaaGreatDoor

namespace Go.Proofs.YtpgpeafmlijfkaaGreatDoor
open Go.RowKit
set_option maxRecDepth 100000
set_option linter.unusedVariables false
set_option linter.unusedSimpArgs false

/-- a colour of the Books -/
def bkc (c : Nat) : Prop := c % 8 ≠ 6 ∨ c = 14
theorem Ow.kept {α : Type} {enc : α → List Value} {k : Nat} {t : TypeId} {col col' : Nat → Nat} {c : Nat} {w w' : World} {B : Nat} {v : Value} {L : List α} (h : Ow enc k t col c w B v L) (hc : bkc c) (hk : ∀ g, g < w.heap.size → bkc (col g) → w'.heap[g]? = w.heap[g]?) (hcol : ∀ g, g < w.heap.size → bkc (col g) → col' g = col g) : Ow enc k t col' c w' B v L := by
  have hg := h.lt
  refine ⟨⟨h.1.1, ?_⟩, fun g e => by rw [hcol g (hg g e).2 (by rw [h.2 g e]; exact hc)]; exact h.2 g e⟩
  rcases h.1.2 with hn | ⟨g, cap, cur, rfl, h0, hgg, h1⟩
  · exact .inl hn
  · exact .inr ⟨g, cap, cur, rfl, h0, (hk g (hg g rfl).2 (by rw [h.2 g rfl]; exact hc)).trans hgg, h1⟩
theorem BkR.kept {col col' : Nat → Nat} {w w' : World} {B b : Nat} {tv tv0 rv rv0 : Value} {V V0 P : List Value} {X : Nat → List ByteArray} {Q : Nat → List Value} {T0 : List ByteArray} {R : Nat → List (List ByteArray)} (h : BkR col w B b tv tv0 rv rv0 V V0 P X Q T0 R) (hk : ∀ g, g < w.heap.size → bkc (col g) → w'.heap[g]? = w.heap[g]?) (hcol : ∀ g, g < w.heap.size → bkc (col g) → col' g = col g) : BkR col' w' B b tv tv0 rv rv0 V V0 P X Q T0 R := by
  have hb := h.bv.bb.lt
  have hb14 : bkc (col b) := by rw [h.bv.cb]; exact .inr rfl
  exact
    { bv :=
        { bb := (hk b hb hb14).trans h.bv.bb
          i1 := ⟨h.bv.i1.1.kept (.inl (by decide)) hk hcol, fun j hj hp => (h.bv.i1.2 j hj hp).kept (.inl (by (try dsimp only); omega)) hk hcol⟩
          o0 := h.bv.o0.kept (.inl (by decide)) hk hcol
          r0 := fun j hj hp => (h.bv.r0 j hj hp).kept (.inl (by (try dsimp only); omega)) hk hcol
          len := h.bv.len
          cb := (hcol b hb hb14).trans h.bv.cb
          few := h.bv.few
          sh := h.bv.sh }
      r1 := ⟨h.r1.1.kept (.inl (by decide)) hk hcol, fun j hj hp => (h.r1.2 j hj hp).kept (.inl (by (try dsimp only); omega)) hk hcol⟩
      p0 := h.p0.kept (.inl (by decide)) hk hcol
      plen := h.plen, pfew := h.pfew, qr := h.qr, idx := h.idx, told := h.told, rsh := h.rsh }
/-- the Books hold N lists of texts, p lists of rows -/
def Bks (col : Nat → Nat) (w : World) (B k N p : Nat) : Prop := ∃ tv tv0 rv rv0 V V0 P X Q T0 R, BkR col w B k tv tv0 rv rv0 V V0 P X Q T0 R ∧ V.length = N ∧ P.length = p
theorem Bks.kept {col col' : Nat → Nat} {w w' : World} {B k N p : Nat} (h : Bks col w B k N p) (hk : ∀ g, g < w.heap.size → bkc (col g) → w'.heap[g]? = w.heap[g]?) (hcol : ∀ g, g < w.heap.size → bkc (col g) → col' g = col g) : Bks col' w' B k N p := by
  obtain ⟨tv, tv0, rv, rv0, V, V0, P, X, Q, T0, R, h, h1, h2⟩ := h
  exact ⟨tv, tv0, rv, rv0, V, V0, P, X, Q, T0, R, h.kept hk hcol, h1, h2⟩
theorem Bks.later {col : Nat → Nat} {w w' : World} {B k N p : Nat} (h : Bks col w B k N p) (hb : Below w.heap.size w w') : Bks col w' B k N p := h.kept (fun g hg _ => hb.block g hg) (fun _ _ _ => rfl)
theorem Bks.ck {col : Nat → Nat} {w : World} {B k N p : Nat} (h : Bks col w B k N p) : col k = 14 ∧ k < w.heap.size := by
  obtain ⟨tv, tv0, rv, rv0, V, V0, P, X, Q, T0, R, h, h1, h2⟩ := h
  exact ⟨h.bv.cb, h.bv.bb.lt⟩
theorem rows_bks (w : World) (B k N p : Nat) (col : Nat → Nat) (l : Value) (VL : List Value) (T : List (List ByteArray)) (h : Bks col w B k N p) (hB : B ≤ w.heap.size)
    (hl : Ow eV 1 28 col (8 * p + 1) w B l VL) (hT : T.length = VL.length) (hvl : ∀ i (hi : i < VL.length) (hi' : i < T.length), Ow eT 1 9 col (8 * (N + i)) w B VL[i] T[i]) (hn : N + VL.length ≤ 1000000000000) (hP : p + 1 ≤ 5000000000000) (hTs : T.length ≤ 1000000000000 ∧ (∀ i (hi : i < T.length), T[i].length ≤ 1000000000000) ∧ (tld T).size ≤ 4611686018427387904) :
    Calls Tryz.prog 11 #[.pointer (some ⟨k, 0, none⟩), l] w fun e w' => e = .returned (.tuple #[]) ∧ ∃ col', Bks col' w' B k (N + VL.length) (p + 1) ∧ (∀ g, g < w.heap.size → col' g = col g) ∧ FrR col k w w' := by
  obtain ⟨tv, tv0, rv, rv0, V, V0, P, X, Q, T0, R, h, rfl, rfl⟩ := h
  refine (rows_any w B k col tv tv0 rv rv0 l V V0 P VL X Q T0 R T h hB hl hT hvl hn hP hTs).mono ?_
  rintro e w' ⟨col', tv', tv0', rv', rv0', V0', X', Q', T0', R', rfl, h1, h2, h3⟩
  exact ⟨rfl, col', ⟨_, _, _, _, _, _, _, _, _, _, _, h1, by simp, by simp⟩, h2, h3⟩
/-- what the Reader's calls must leave: all but its own block and those of colour 6 -/
def Gr (col : Nat → Nat) (B b : Nat) (w : World) : Nat → Prop := fun k => k < w.heap.size ∧ k ≠ b ∧ (k < B ∨ col k ≠ 6)
theorem Gr.not {col : Nat → Nat} {B b : Nat} {w : World} {k : Nat} (hk : k < w.heap.size) (h : ¬ Gr col B b w k) : k = b ∨ (B ≤ k ∧ col k = 6) := by
  by_cases h1 : k = b
  · exact .inl h1
  · refine .inr ⟨?_, ?_⟩
    · rcases Nat.lt_or_ge k B with h2 | h2
      · exact absurd ⟨hk, h1, .inl h2⟩ h
      · exact h2
    · by_cases h2 : col k = 6
      · exact h2
      · exact absurd ⟨hk, h1, .inr h2⟩ h
theorem RX.gr {A : Nat → Addr} {col col' : Nat → Nat} {B b : Nat} {w w' : World} {s : Rs} (h : RX A (Gr col B b w) w b s) (ht : s.td = []) (hk : ∀ g, g < w.heap.size → (g = b ∨ (B ≤ g ∧ col g = 6)) → w'.heap[g]? = w.heap[g]?) (hz : w.heap.size ≤ w'.heap.size) (hc : ∀ g, g < w.heap.size → col g = 6 → col' g = 6) : RX A (Gr col' B b w') w' b s := by
  refine h.move ht (fun g hg hn => hk g hg (Gr.not hg hn)) fun g hg => ⟨hg.1, ?_⟩
  rcases Nat.lt_or_ge g w.heap.size with hl | hl
  · refine .inl ⟨hl, hg.2.1, ?_⟩
    rcases hg.2.2 with h1 | h1
    · exact .inl h1
    · exact .inr fun e => h1 (hc g hl e)
  · exact .inr hl
/-- rows that were told, in blocks of the Books' next colours -/
structure Rst (col : Nat → Nat) (w : World) (B N p : Nat) (tv : Value) (V : List Value) (T : List (List (List UInt8))) : Prop where
  vl : V.length = T.length
  ow : Ow eV 1 28 col (8 * p + 1) w B tv V
  rows : ∀ i (hi : i < V.length) (hi' : i < (tbb T).length), Ow eT 1 9 col (8 * (N + i)) w B V[i] (tbb T)[i]
theorem Rst.nil (col : Nat → Nat) (w : World) (B N p : Nat) : Rst col w B N p (.slice none 0 0) [] [] := ⟨rfl, Ow.nil _ _ _ _, fun i hi => absurd hi (Nat.not_lt_zero _)⟩
theorem Rst.kept {col col' : Nat → Nat} {w w' : World} {B N p : Nat} {tv : Value} {V : List Value} {T : List (List (List UInt8))} (h : Rst col w B N p tv V T) (hk : ∀ g, g < w.heap.size → bkc (col g) → w'.heap[g]? = w.heap[g]?) (hcol : ∀ g, g < w.heap.size → bkc (col g) → col' g = col g) : Rst col' w' B N p tv V T :=
  ⟨h.vl, h.ow.kept (.inl (by omega)) hk hcol, fun i hi hi' => (h.rows i hi hi').kept (.inl (by omega)) hk hcol⟩
theorem tl_eT (T : List (List UInt8)) : (T.map fun l => (⟨l.toArray⟩ : ByteArray)).flatMap eT = tl T := by
  induction T with
  | nil => rfl
  | cons t T ih => rw [List.map_cons, List.flatMap_cons, ih]; rfl
theorem flat_eV (V : List Value) : V.flatMap eV = V := by
  induction V with
  | nil => rfl
  | cons v V ih => rw [List.flatMap_cons, ih]; rfl
theorem Rst.tr {col : Nat → Nat} {w : World} {B N p : Nat} {tv : Value} {V : List Value} {T : List (List (List UInt8))} (h : Rst col w B N p tv V T) : TR w tv V T := by
  refine ⟨?_, h.vl, fun j hj hv => ?_⟩
  · have := own_low h.ow.1
    rw [flat_eV] at this
    exact this
  · have := own_low (h.rows j hv (by simp [tbb]; exact hj)).1
    have e : (tbb T)[j]'(by simp [tbb]; exact hj) = T[j].map fun l => (⟨l.toArray⟩ : ByteArray) := by simp [tbb]
    rw [e, tl_eT, List.length_map] at this
    exact this
theorem own_up {w : World} {B e n : Nat} {v : Value} {xs : List Value} (h : w.ownsRow 0 e 1 v n xs) (hb : ∀ g, v.ownBlock = some g → B ≤ g) : w.ownsRow B e 1 v n xs := by
  obtain ⟨h1, h2⟩ := h
  refine ⟨h1, ?_⟩
  rcases h2 with h2 | ⟨g, cap, cur, rfl, h4, h5⟩
  · exact .inl h2
  · exact .inr ⟨g, cap, cur, rfl, hb g rfl, h5⟩
/-- the colours behind a call that has told rows -/
theorem tell_col {col : Nat → Nat} {w0 w1 : World} {B b N p : Nat} {tv : Value} {V : List Value} {T : List (List (List UInt8))} {cs : Array Value} (hB : B ≤ w0.heap.size) (hz : w0.heap.size ≤ w1.heap.size) (hcb : col b = 6) (ht : TR w1 tv V T) (hn : NvD (Gr col B b w0) tv V) (hb : w1.heap[b]? = some (.cells cs 77 (0, 0))) :
    ∃ col', Rst col' w1 B N p tv V T ∧ (∀ g, g < w0.heap.size → (g < B ∨ col g ≠ 6) → col' g = col g) ∧ (∀ k, Gr col' B b w1 k → Gs (Gr col B b w0) tv V k) := by
  classical
  have row : ∀ v ∈ V, ∃ j, ∃ hj : j < V.length, ∃ hT : j < T.length, V[j] = v ∧ w1.ownsRow 0 9 1 v T[j].length (tl T[j]) := fun v hv => by
    obtain ⟨j, hj, rfl⟩ := List.mem_iff_getElem.1 hv
    have hT : j < T.length := by rw [← ht.rws.len]; exact hj
    exact ⟨j, hj, hT, rfl, ht.rws.row j hT hj⟩
  have big : ∀ g, ¬ Gr col B b w0 g → g ≠ b → B ≤ g := fun g hg hne => by
    rcases Nat.lt_or_ge g w0.heap.size with hl | hl
    · rcases Gr.not hl hg with e | e
      · exact absurd e hne
      · exact e.1
    · omega
  have bt1 : ∀ g, tv.ownBlock = some g → g ≠ b := fun g hg e => own_ne ht.own hb (by decide) (e ▸ hg)
  have bt2 : ∀ v ∈ V, ∀ g, v.ownBlock = some g → g ≠ b := fun v hv g hg e => by
    obtain ⟨j, hj, hT, _, ho⟩ := row v hv
    exact own_ne ho hb (by decide) (e ▸ hg)
  have low : ∀ g, (tv.ownBlock = some g ∨ ∃ v ∈ V, v.ownBlock = some g) → g < w0.heap.size → ¬ (g < B ∨ col g ≠ 6) := fun g hg hl h => by
    rcases hg with hg | ⟨v, hv, hg⟩
    · exact hn.1 g hg ⟨hl, bt1 g hg, h⟩
    · exact hn.2.1 v hv g hg ⟨hl, bt2 v hv g hg, h⟩
  refine ⟨fun g => if tv.ownBlock = some g then 8 * p + 1 else if h : ∃ j, ∃ hj : j < V.length, V[j].ownBlock = some g then 8 * (N + h.choose) else if g < w0.heap.size then col g else 6, ⟨ht.rws.len, ?_, fun i hi hi' => ?_⟩, fun g hg hc => ?_, fun k hk => ?_⟩
  · refine ⟨?_, fun g hg => ?_⟩
    · rw [flat_eV]
      exact own_up ht.own fun g hg => big g (hn.1 g hg) (bt1 g hg)
    · simp only [hg, if_true]
  · have hT : i < T.length := by rw [← ht.rws.len]; exact hi
    have ho := ht.rws.row i hT hi
    have e : (tbb T)[i]'hi' = T[i].map fun l => (⟨l.toArray⟩ : ByteArray) := by simp [tbb]
    refine ⟨?_, fun g hg => ?_⟩
    · rw [e, tl_eT, List.length_map]
      exact own_up ho fun g hg => big g (hn.2.1 _ (List.getElem_mem hi) g hg) (bt2 _ (List.getElem_mem hi) g hg)
    · have h1 : tv.ownBlock ≠ some g := fun h => own_two ho ht.own (by decide) g hg h
      have hex : ∃ j, ∃ hj : j < V.length, V[j].ownBlock = some g := ⟨i, hi, hg⟩
      show (if tv.ownBlock = some g then 8 * p + 1 else if h : ∃ j, ∃ hj : j < V.length, V[j].ownBlock = some g then 8 * (N + h.choose) else if g < w0.heap.size then col g else 6) = 8 * (N + i)
      rw [if_neg h1, dif_pos hex]
      obtain ⟨hj, hj2⟩ := hex.choose_spec
      have : hex.choose = i := by
        have hd := List.pairwise_iff_getElem.1 hn.2.2
        rcases Nat.lt_trichotomy hex.choose i with h | h | h
        · exact absurd hg (hd _ _ hj hi h g hj2)
        · exact h
        · exact absurd hj2 (hd _ _ hi hj h g hg)
      rw [this]
  · have h1 : ¬ tv.ownBlock = some g := fun h => low g (.inl h) hg hc
    have h2 : ¬ ∃ j, ∃ hj : j < V.length, V[j].ownBlock = some g := fun ⟨j, hj, h⟩ => low g (.inr ⟨_, List.getElem_mem hj, h⟩) hg hc
    simp only [if_neg h1, dif_neg h2, if_pos hg]
  · by_cases h1 : tv.ownBlock = some k
    · exact .inr (.inl h1)
    · by_cases h2 : ∃ j, ∃ hj : j < V.length, V[j].ownBlock = some k
      · obtain ⟨j, hj, h⟩ := h2
        exact .inr (.inr ⟨_, List.getElem_mem hj, h⟩)
      · left
        obtain ⟨k1, k2, k3⟩ := hk
        simp only [if_neg h1, dif_neg h2] at k3
        rcases Nat.lt_or_ge k w0.heap.size with hl | hl
        · rw [if_pos hl] at k3
          exact ⟨hl, k2, k3⟩
        · rw [if_neg (by omega)] at k3
          rcases k3 with h | h
          · omega
          · exact absurd rfl h
end Go.Proofs.YtpgpeafmlijfkaaGreatDoor

namespace Go.Proofs.YtpgpeafmlijfkaaGreatDoor
open Go.RowKit
set_option maxRecDepth 100000
set_option linter.unusedVariables false
set_option linter.unusedSimpArgs false

/-- the Reader behind all of L -/
def sL (L : List UInt8) : Rs := sj L L.length
/-- where things lie: the Reader, the document's, the Books -/
structure Cx (A : Nat → Addr) (col : Nat → Nat) (B b d k : Nat) (w : World) : Prop where
  n1 : b < d
  n2 : d < k
  n3 : k < B
  sz : B ≤ w.heap.size
  cb : col b = 6
  cd : col d = 6
  gl : ∀ g, g ∈ gls → g < b
  he : HE A w
/-- both Readers between two calls; N rows were told -/
def Rds (A : Nat → Addr) (col : Nat → Nat) (B b d : Nat) (rv sv : Value) (N : Nat) (w : World) : Prop :=
  (rv = .pointer none ∧ sv = .pointer none ∧ N = 0) ∨
  (rv = .pointer (some ⟨b, 0, none⟩) ∧ sv = .pointer (some ⟨d, 0, none⟩) ∧
    ((∃ L : List UInt8, (sL L).er = 0 ∧ L.length ≤ 262144 ∧ N = (sL L).td.length ∧ DB w d ⟨L.toArray⟩ N 0 0 0 0 false ∧ ((L = [] ∧ RZ w b) ∨ RX A (Gr col B b w) w b { sL L with td := [] }))
    ∨ (∃ (L : List UInt8) (s : ByteArray) (n i : Nat), N ≤ 262144 ∧ (sL L).er ≠ 0 ∧ DB w d s n (sL L).er (sL L).fp.1 (sL L).fp.2 i false ∧ RX A (Gr col B b w) w b { sL L with td := [] })
    ∨ (∃ (s : ByteArray) (n c l k i : Nat), N ≤ 300000 ∧ DB w d s n c l k i true ∧ DnR w b)))
theorem Cx.mv {A : Nat → Addr} {col col' : Nat → Nat} {B b d k : Nat} {w w' : World} (h : Cx A col B b d k w) (hk : Kg (fun g => g < b) w w') (hc : ∀ g, g < B → col' g = col g) : Cx A col' B b d k w' :=
  ⟨h.n1, h.n2, h.n3, Nat.le_trans h.sz hk.size, (hc b (by have := h.n1; have := h.n2; have := h.n3; omega)).trans h.cb, (hc d (by have := h.n2; have := h.n3; omega)).trans h.cd, h.gl, h.he.kept hk h.gl⟩
theorem Cx.lea {A : Nat → Addr} {col : Nat → Nat} {B b d k : Nat} {w : World} (h : Cx A col B b d k w) : Lea A (Gr col B b w) w :=
  ⟨h.he, fun g hg => by have h1 := h.gl g hg; have := h.n1; have := h.n2; have := h.n3; have := h.sz; exact ⟨by omega, by omega, .inl (by omega)⟩⟩
theorem Cx.grd {A : Nat → Addr} {col : Nat → Nat} {B b d k : Nat} {w : World} (h : Cx A col B b d k w) : Gr col B b w d := by
  have := h.n1; have := h.n2; have := h.n3; have := h.sz
  exact ⟨by omega, by omega, .inl (by omega)⟩
/-- nothing of the Readers' has turned -/
theorem Rds.keep {A : Nat → Addr} {col col' : Nat → Nat} {B b d k : Nat} {rv sv : Value} {N : Nat} {w w' : World} (hX : Cx A col B b d k w) (h : Rds A col B b d rv sv N w) (hk : ∀ g, g < w.heap.size → (g = b ∨ g = d ∨ (B ≤ g ∧ col g = 6)) → w'.heap[g]? = w.heap[g]?) (hz : w.heap.size ≤ w'.heap.size) (hc : ∀ g, g < w.heap.size → col g = 6 → col' g = 6) : Rds A col' B b d rv sv N w' := by
  have n1 := hX.n1; have n2 := hX.n2; have n3 := hX.n3; have sz := hX.sz
  have kd : w'.heap[d]? = w.heap[d]? := hk d (by omega) (.inr (.inl rfl))
  have kb : w'.heap[b]? = w.heap[b]? := hk b (by omega) (.inl rfl)
  have kx : ∀ {s : Rs}, s.td = [] → RX A (Gr col B b w) w b s → RX A (Gr col' B b w') w' b s := fun ht hx => hx.gr ht (fun g hg hh => hk g hg (hh.elim .inl fun e => .inr (.inr e))) hz hc
  rcases h with h | ⟨h1, h2, ⟨L, a1, a2, a3, a4, a5⟩ | ⟨L, s, n, i, a1, a2, a3, a4⟩ | ⟨s, n, c, l, k, i, a1, a2, a3⟩⟩
  · exact .inl h
  · refine .inr ⟨h1, h2, .inl ⟨L, a1, a2, a3, kd.trans a4, ?_⟩⟩
    rcases a5 with ⟨a5, a6⟩ | a5
    · exact .inl ⟨a5, kb.trans a6⟩
    · exact .inr (kx rfl a5)
  · exact .inr ⟨h1, h2, .inr (.inl ⟨L, s, n, i, a1, a2, kd.trans a3, kx rfl a4⟩)⟩
  · exact .inr ⟨h1, h2, .inr (.inr ⟨s, n, c, l, k, i, a1, kd.trans a2, kb.trans a3⟩)⟩
theorem Rds.few {A : Nat → Addr} {col : Nat → Nat} {B b d : Nat} {rv sv : Value} {N : Nat} {w : World} (h : Rds A col B b d rv sv N w) : N ≤ 300000 := by
  rcases h with ⟨_, _, h⟩ | ⟨_, _, ⟨L, _, _, h, _⟩ | ⟨_, _, _, _, h, _⟩ | ⟨_, _, _, _, _, _, h, _⟩⟩
  · omega
  · have h1 := (sj_bdd L L.length).1.td
    have h2 := (sj_bdd L L.length).2
    unfold sL at h
    omega
  · omega
  · exact h
/-- behind the program's Feed of l, ahead of the document's -/
def MF (l : List UInt8) (A : Nat → Addr) (col : Nat → Nat) (B b d : Nat) (rv sv : Value) (N : Nat) (T : List (List (List UInt8))) (c : Nat) (q : Nat × Nat) (w : World) : Prop :=
  (rv = .pointer none ∧ sv = .pointer none ∧ N = 0 ∧ T = [] ∧ c = 0) ∨
  (rv = .pointer (some ⟨b, 0, none⟩) ∧ sv = .pointer (some ⟨d, 0, none⟩) ∧
    ((∃ L : List UInt8, (sL L).er = 0 ∧ L.length ≤ 262144 ∧ N = (sL L).td.length ∧ DB w d ⟨L.toArray⟩ N 0 0 0 0 false ∧ RX A (Gr col B b w) w b { sL (L ++ l) with td := [] } ∧ T = (sL (L ++ l)).td.drop N ∧ c = (sL (L ++ l)).er ∧ q = (sL (L ++ l)).fp)
    ∨ (∃ (L : List UInt8) (s : ByteArray) (n i : Nat), N ≤ 262144 ∧ (sL L).er ≠ 0 ∧ DB w d s n (sL L).er (sL L).fp.1 (sL L).fp.2 i false ∧ RX A (Gr col B b w) w b { sL L with td := [] } ∧ T = [] ∧ c = (sL L).er ∧ q = (sL L).fp)
    ∨ (∃ (s : ByteArray) (n c' l k i : Nat), N ≤ 300000 ∧ DB w d s n c' l k i true ∧ DnR w b ∧ T = [] ∧ c = 9 ∧ q = (0, 0))))
/-- behind the program's Close, ahead of the document's -/
def MC (A : Nat → Addr) (col : Nat → Nat) (B b d : Nat) (rv sv : Value) (N : Nat) (T : List (List (List UInt8))) (c : Nat) (q : Nat × Nat) (w : World) : Prop :=
  (rv = .pointer none ∧ sv = .pointer none ∧ N = 0 ∧ T = [] ∧ c = 0) ∨
  (rv = .pointer (some ⟨b, 0, none⟩) ∧ sv = .pointer (some ⟨d, 0, none⟩) ∧
    ((∃ L : List UInt8, (sL L).er = 0 ∧ L.length ≤ 262144 ∧ N = (sL L).td.length ∧ DB w d ⟨L.toArray⟩ N 0 0 0 0 false ∧ DnR w b ∧ T = (clP { sL L with td := [] }).td ∧ c = (clP { sL L with td := [] }).er ∧ q = (clP { sL L with td := [] }).fp)
    ∨ (∃ (L : List UInt8) (s : ByteArray) (n i : Nat), N ≤ 262144 ∧ (sL L).er ≠ 0 ∧ DB w d s n (sL L).er (sL L).fp.1 (sL L).fp.2 i false ∧ DnR w b ∧ T = [] ∧ c = (sL L).er ∧ q = (sL L).fp)
    ∨ (∃ (s : ByteArray) (n c' l k i : Nat), N ≤ 300000 ∧ DB w d s n c' l k i true ∧ DnR w b ∧ T = [] ∧ c = 9 ∧ q = (0, 0))))
/-- what the program's call answers -/
def PrP (M : (Nat → Nat) → List (List (List UInt8)) → Nat → Nat × Nat → World → Prop) (A : Nat → Addr) (col : Nat → Nat) (B b d k N p : Nat) (w : World) (e : Ending) (w' : World) : Prop :=
  ∃ col' tv V T ev c q, e = .returned (.tuple #[tv, ev]) ∧ Rst col' w' B N p tv V T ∧ FT A w' ev c q ∧ M col' T c q w' ∧ Cx A col' B b d k w' ∧ Bks col' w' B k N p ∧ Kg (Gr col B b w) w w' ∧ (∀ g, g < w.heap.size → (g < B ∨ col g ≠ 6) → col' g = col g)
theorem bkc6 : ¬ bkc 6 := fun h => by rcases h with h | h <;> omega
theorem prog_after {A : Nat → Addr} {col : Nat → Nat} {B b d k N p : Nat} {w w' : World} {tv : Value} {V : List Value} {T : List (List (List UInt8))} {cs : Array Value} (hX : Cx A col B b d k w) (hB : Bks col w B k N p) (ht : TR w' tv V T) (hnv : NvD (Gr col B b w) tv V) (hkg : Kg (Gr col B b w) w w') (hb : w'.heap[b]? = some (.cells cs 77 (0, 0))) :
    ∃ col', Rst col' w' B N p tv V T ∧ Cx A col' B b d k w' ∧ Bks col' w' B k N p ∧ (∀ g, g < w.heap.size → (g < B ∨ col g ≠ 6) → col' g = col g) ∧ (∀ g, Gr col' B b w' g → Gs (Gr col B b w) tv V g) := by
  have n1 := hX.n1; have n2 := hX.n2; have n3 := hX.n3; have sz := hX.sz
  obtain ⟨col', h1, h2, h3⟩ := tell_col (N := N) (p := p) sz hkg.size hX.cb ht hnv hb
  refine ⟨col', h1, hX.mv (hkg.mono fun g hg => ⟨by omega, by omega, .inl (by omega)⟩) (fun g hg => h2 g (by omega) (.inl hg)), hB.kept (fun g hg hc => hkg.block g ⟨hg, fun e => ?_, .inr fun e => ?_⟩) (fun g hg hc => h2 g hg (.inr fun e => ?_)), h2, h3⟩
  · rw [e, hX.cb] at hc; exact bkc6 hc
  · rw [e] at hc; exact bkc6 hc
  · rw [e] at hc; exact bkc6 hc
theorem nil_after {A : Nat → Addr} {col : Nat → Nat} {B b d k N p : Nat} {w w' : World} (hX : Cx A col B b d k w) (hB : Bks col w B k N p) (hb : Below w.heap.size w w') : Rst col w' B N p (.slice none 0 0) [] [] ∧ Cx A col B b d k w' ∧ Bks col w' B k N p ∧ Kg (Gr col B b w) w w' := by
  have n1 := hX.n1; have n2 := hX.n2; have n3 := hX.n3; have sz := hX.sz
  exact ⟨Rst.nil _ _ _ _ _, hX.mv ⟨hb.os, hb.tape, hb.output, hb.size, fun g hg => hb.block g (by omega)⟩ (fun _ _ => rfl), hB.later hb, ⟨hb.os, hb.tape, hb.output, hb.size, fun g hg => hb.block g hg.1⟩⟩
theorem RX.top {A : Nat → Addr} {G : Nat → Prop} {w : World} {b : Nat} {s : Rs} (h : RX A G w b s) : ∃ cs, w.heap[b]? = some (.cells cs 77 (0, 0)) := by
  obtain ⟨bp, bv, cv, tv, V, hM⟩ := h
  exact ⟨_, hM.top⟩
theorem feed_p (A : Nat → Addr) (col : Nat → Nat) (B b d k N p g0 cap : Nat) (rv sv : Value) (l : List UInt8) (w : World) (hX : Cx A col B b d k w) (hR : Rds A col B b d rv sv N w) (hB : Bks col w B k N p) (hg : Gr col B b w g0) (hL : BsA w g0 0 l) (hc : l.length ≤ cap) (hlen : l.length ≤ 140737488355328) :
    Calls Tryz.prog 13 #[rv, .slice (some ⟨g0, 0, none⟩) l.length cap] w fun e w' => PrP (fun col' T c q w' => MF l A col' B b d rv sv N T c q w') A col B b d k N p w e w' := by
  have kd : ∀ {w' : World}, Kg (Gr col B b w) w w' → w'.heap[d]? = w.heap[d]? := fun h => h.block d hX.grd
  rcases hR with ⟨rfl, rfl, rfl⟩ | ⟨rfl, rfl, hR⟩
  · refine (nilRF _ w).mono ?_
    rintro e w' ⟨rfl, rfl⟩
    obtain ⟨h1, h2, h3, h4⟩ := nil_after hX hB (Below.refl _ _)
    exact ⟨col, _, [], [], _, 0, (0, 0), rfl, h1, .inl ⟨rfl, rfl⟩, .inl ⟨rfl, rfl, rfl, rfl, rfl⟩, h2, h3, h4, fun _ _ _ => rfl⟩
  · rcases hR with ⟨L, a1, a2, a3, a4, a5⟩ | ⟨L, s, n, i, a1, a2, a3, a4⟩ | ⟨s, n, c, l', k', i, a1, a2, a3⟩
    · have fin : ∀ e w', FeA A (Gr col B b w) w b (runL { sL L with td := [] } l) e w' → PrP (fun col' T c q w' => MF l A col' B b d (.pointer (some ⟨b, 0, none⟩)) (.pointer (some ⟨d, 0, none⟩)) N T c q w') A col B b d k N p w e w' := by
        rintro e w' ⟨tv, V, ev, rfl, ht, hft, hr, hkg, hnv, _, _⟩
        obtain ⟨p1, p2⟩ := sj_piece L l
        unfold sL at ht hft hr a3
        rw [p1] at hft hr
        have hT : (runL { sj L L.length with td := [] } l).td = (sj (L ++ l) (L ++ l).length).td.drop N := by
          rw [p2, a3, List.drop_left]
        rw [hT] at ht
        obtain ⟨cs, hcs⟩ := hr.top
        obtain ⟨col', h1, h2, h3, h4, h5⟩ := prog_after hX hB ht hnv hkg hcs
        exact ⟨col', tv, V, _, ev, _, _, rfl, h1, hft, .inr ⟨rfl, rfl, .inl ⟨L, a1, a2, a3, (kd hkg).trans a4, hr.move rfl (fun _ _ _ => rfl) (fun g hg => ⟨hg.1, .inl (h5 g hg)⟩), rfl, rfl, rfl⟩⟩, h2, h3, hkg, h4⟩
      rcases a5 with ⟨rfl, a6⟩ | a5
      · refine (feed_nw A (Gr col B b w) b g0 cap l w hX.lea a6 (fun _ h => h.1) (fun h => h.2.1 rfl) hg hL hc hlen).mono fun e w' h => fin e w' ?_
        have e : feed l s0 0 = runL { sL [] with td := [] } l := by
          show runL s0 (l.drop 0) = _
          rw [List.drop_zero]
          rfl
        rw [← e]
        exact h
      · refine (feed_old A (Gr col B b w) b g0 cap { sL L with td := [] } l w hX.lea a5 (sj_bdd0 L L.length) (sj_bdd L L.length).2 hg hL hc hlen).mono fun e w' h => fin e w' ?_
        have e : feed l { sL L with td := [] } 0 = runL { sL L with td := [] } l := by
          unfold feed
          rw [List.drop_zero]
        rw [← e]
        exact h
    · refine (feed_fln A (Gr col B b w) b g0 l.length cap { sL L with td := [] } w a4 a2).mono ?_
      rintro e w' ⟨tv, V, ev, rfl, ht, hft, hr, hkg, hnv⟩
      obtain ⟨cs, hcs⟩ := hr.top
      obtain ⟨col', h1, h2, h3, h4, h5⟩ := prog_after hX hB ht hnv hkg hcs
      exact ⟨col', tv, V, _, ev, _, _, rfl, h1, hft, .inr ⟨rfl, rfl, .inr (.inl ⟨L, s, n, i, a1, a2, (kd hkg).trans a3, hr.move rfl (fun _ _ _ => rfl) (fun g hg => ⟨hg.1, .inl (h5 g hg)⟩), rfl, rfl, rfl⟩)⟩, h2, h3, hkg, h4⟩
    · refine (feed_dn A b g0 l.length cap w hX.he a3).mono ?_
      rintro e w' ⟨f, rfl, hf, hbl⟩
      obtain ⟨h1, h2, h3, h4⟩ := nil_after hX hB hbl
      exact ⟨col, _, [], [], _, 9, (0, 0), rfl, h1, .inr ⟨by decide, f, rfl, hf⟩, .inr ⟨rfl, rfl, .inr (.inr ⟨s, n, c, l', k', i, a1, (kd h4).trans a2, a3.below hbl, rfl, rfl, rfl⟩)⟩, h2, h3, h4, fun _ _ _ => rfl⟩
theorem close_p (A : Nat → Addr) (col : Nat → Nat) (B b d k N p : Nat) (rv sv : Value) (w : World) (hX : Cx A col B b d k w) (hR : Rds A col B b d rv sv N w) (hB : Bks col w B k N p) :
    Calls Tryz.prog 7 #[rv] w fun e w' => PrP (fun col' T c q w' => MC A col' B b d rv sv N T c q w') A col B b d k N p w e w' := by
  have kd : ∀ {w' : World}, Kg (Gr col B b w) w w' → w'.heap[d]? = w.heap[d]? := fun h => h.block d hX.grd
  rcases hR with ⟨rfl, rfl, rfl⟩ | ⟨rfl, rfl, hR⟩
  · refine (nilRC w).mono ?_
    rintro e w' ⟨rfl, rfl⟩
    obtain ⟨h1, h2, h3, h4⟩ := nil_after hX hB (Below.refl _ _)
    exact ⟨col, _, [], [], _, 0, (0, 0), rfl, h1, .inl ⟨rfl, rfl⟩, .inl ⟨rfl, rfl, rfl, rfl, rfl⟩, h2, h3, h4, fun _ _ _ => rfl⟩
  · rcases hR with ⟨L, a1, a2, a3, a4, a5⟩ | ⟨L, s, n, i, a1, a2, a3, a4⟩ | ⟨s, n, c, l', k', i, a1, a2, a3⟩
    · have fin : ∀ e w', ClA A (Gr col B b w) b w (clP { sL L with td := [] }) e w' → PrP (fun col' T c q w' => MC A col' B b d (.pointer (some ⟨b, 0, none⟩)) (.pointer (some ⟨d, 0, none⟩)) N T c q w') A col B b d k N p w e w' := by
        rintro e w' ⟨tv, V, ev, rfl, ht, hft, hkg, hdn, hnv⟩
        obtain ⟨col', h1, h2, h3, h4, h5⟩ := prog_after hX hB ht hnv hkg hdn
        exact ⟨col', tv, V, _, ev, _, _, rfl, h1, hft, .inr ⟨rfl, rfl, .inl ⟨L, a1, a2, a3, (kd hkg).trans a4, hdn, rfl, rfl, rfl⟩⟩, h2, h3, hkg, h4⟩
      rcases a5 with ⟨rfl, a6⟩ | a5
      · refine (close_nw A (Gr col B b w) b w hX.lea a6 (fun _ h => h.1) (fun h => h.2.1 rfl)).mono fun e w' h => fin e w' ?_
        have e : clP { sL [] with td := [] } = s0.next none := by
          unfold clP
          rw [if_pos a1]
          rfl
        rw [e]
        exact h
      · have hbd := sj_bdd L L.length
        exact (close_any A (Gr col B b w) b { sL L with td := [] } w hX.lea a5 rfl hbd.1.cur (by have := hbd.1.cs; have := hbd.2; show (sj L L.length).cs.length ≤ _; omega) (by have := hbd.1.rw; have := hbd.2; show (sj L L.length).rw ≤ _; omega)).mono fun e w' h => fin e w' h
    · have hbd := sj_bdd L L.length
      refine (close_any A (Gr col B b w) b { sL L with td := [] } w hX.lea a4 rfl hbd.1.cur (by have := hbd.1.cs; have := hbd.2; show (sj L L.length).cs.length ≤ _; omega) (by have := hbd.1.rw; have := hbd.2; show (sj L L.length).rw ≤ _; omega)).mono ?_
      rintro e w' ⟨tv, V, ev, rfl, ht, hft, hkg, hdn, hnv⟩
      have e : clP { sL L with td := [] } = { sL L with td := [] } := by
        unfold clP
        exact if_neg a2
      rw [e] at ht hft
      obtain ⟨col', h1, h2, h3, h4, h5⟩ := prog_after hX hB ht hnv hkg hdn
      exact ⟨col', tv, V, _, ev, _, _, rfl, h1, hft, .inr ⟨rfl, rfl, .inr (.inl ⟨L, s, n, i, a1, a2, (kd hkg).trans a3, hdn, rfl, rfl, rfl⟩)⟩, h2, h3, hkg, h4⟩
    · refine (close_dn A b w hX.he a3).mono ?_
      rintro e w' ⟨f, rfl, hf, hbl⟩
      obtain ⟨h1, h2, h3, h4⟩ := nil_after hX hB hbl
      exact ⟨col, _, [], [], _, 9, (0, 0), rfl, h1, .inr ⟨by decide, f, rfl, hf⟩, .inr ⟨rfl, rfl, .inr (.inr ⟨s, n, c, l', k', i, a1, (kd h4).trans a2, a3.below hbl, rfl, rfl, rfl⟩)⟩, h2, h3, h4, fun _ _ _ => rfl⟩
end Go.Proofs.YtpgpeafmlijfkaaGreatDoor

namespace Go.Proofs.YtpgpeafmlijfkaaGreatDoor
open Go.RowKit
set_option maxRecDepth 100000
set_option linter.unusedVariables false
set_option linter.unusedSimpArgs false

theorem fV_inj {c l k i c' l' k' i' : Nat} (h : fV c l k i = fV c' l' k' i') : c = c' ∧ l = l' ∧ k = k' ∧ i = i' := by
  unfold fV at h
  injection h with h
  injection h with h
  injection h with h1 h
  injection h with h2 h
  injection h with h3 h
  injection h with h4 h
  injection h1 with _ h1
  injection h2 with _ h2
  injection h3 with _ h3
  injection h4 with _ h4
  omega
/-- what the document's call answers -/
def DoP (A : Nat → Addr) (col : Nat → Nat) (B b d : Nat) (rv sv : Value) (N : Nat) (T : List (List (List UInt8))) (c : Nat) (q : Nat × Nat) (w : World) (e : Ending) (w' : World) : Prop :=
  ∃ v l k i, e = .returned (.tuple #[v, fV c l k i]) ∧ Rw w' v T ∧ (c ≠ 0 → (l, k) = q) ∧ (c ≤ 9 ∨ c = 20) ∧ l ≤ 9223372036854775807 ∧ k ≤ 9223372036854775807 ∧ (∀ cs ∈ T, Wd cs) ∧ T.length ≤ 4097 ∧ Rds A col B b d rv sv (N + T.length) w' ∧ Lb d w w'
theorem Rw.nil (w : World) : Rw w (.slice none 0 0) [] := ⟨none, 0, rfl, Nat.le_refl _, by omega, fun i hi => absurd hi (Nat.not_lt_zero _)⟩
theorem lb_keep {d : Nat} {w w' : World} (h : Lb d w w') {B b : Nat} {col : Nat → Nat} (hbd : b ≠ d) (hd : d < B) : ∀ g, g < w.heap.size → (g = b ∨ (B ≤ g ∧ col g = 6)) → w'.heap[g]? = w.heap[g]? := fun g hg hh => h.2.2.2.2 g hg (by rcases hh with rfl | hh <;> omega)
theorem plc_big (L : List UInt8) (f : Nat) (h : f ≤ 262144) : (plc L f).1 ≤ 9223372036854775807 ∧ (plc L f).2 ≤ 9223372036854775807 := by
  have := plc_le L f
  omega
theorem arr_list (l : List UInt8) : (⟨l.toArray⟩ : ByteArray).data.toList = l := by simp
theorem arr_size (l : List UInt8) : (⟨l.toArray⟩ : ByteArray).size = l.length := by simp [ByteArray.size]
theorem feed_d (A : Nat → Addr) (col : Nat → Nat) (B b d k N : Nat) (rv sv pv : Value) (l : List UInt8) (T : List (List (List UInt8))) (c : Nat) (q : Nat × Nat) (w : World) (hX : Cx A col B b d k w) (hM : MF l A col B b d rv sv N T c q w) (hp : Reads w pv l) (hlen : l.length ≤ 140737488355328) :
    Calls Tryz.prog 14 #[sv, pv] w fun e w' => DoP A col B b d rv sv N T c q w e w' := by
  have n1 := hX.n1; have n2 := hX.n2; have n3 := hX.n3
  have hdB : d < B := by omega
  have hbd : b ≠ d := by omega
  rcases hM with ⟨rfl, rfl, rfl, rfl, rfl⟩ | ⟨rfl, rfl, hM⟩
  · refine (dfeed_nil pv w).mono ?_
    rintro e w' ⟨rfl, hb⟩
    exact ⟨_, 0, 0, 0, rfl, Rw.nil _, fun h => absurd rfl h, .inl (by omega), by omega, by omega, by simp, by simp, .inl ⟨rfl, rfl, rfl⟩, Lb.of_below d hb⟩
  · rcases hM with ⟨L, a1, a2, a3, a4, a5, rfl, rfl, rfl⟩ | ⟨L, s, n, i, a1, a2, a3, a4, rfl, rfl, rfl⟩ | ⟨s, n, c', l', k', i, a1, a2, a3, rfl, rfl, rfl⟩
    · have hJ := rdj_any (L ++ l)
      have hW := rdA_wide (L ++ l)
      have hbn := sj_bdd (L ++ l) (L ++ l).length
      obtain ⟨_, p2⟩ := sj_piece L l
      have hm : (rdA (L ++ l)).2.1 = (sL (L ++ l)).td.length := by
        unfold sL
        rw [hJ.td, List.length_take, Nat.min_eq_left hJ.nl]
      have hle : N ≤ (sL (L ++ l)).td.length := by
        rw [a3]
        unfold sL
        rw [p2, List.length_append]
        omega
      have hN : N + ((sL (L ++ l)).td.drop N).length = (sL (L ++ l)).td.length := by rw [List.length_drop]; omega
      have htd : (sL (L ++ l)).td.length ≤ 262144 := by
        have h1 := hbn.1.td
        have h2 := hbn.2
        unfold sL
        omega
      have hwd : (∀ cs ∈ (sL (L ++ l)).td.drop N, Wd cs) ∧ ((sL (L ++ l)).td.drop N).length ≤ 4097 := by
        unfold sL
        rw [hJ.td]
        refine ⟨fun cs hcs => hW.1 cs (List.mem_of_mem_take (List.mem_of_mem_drop hcs)), ?_⟩
        have := hW.2
        rw [List.length_drop, List.length_take]
        omega
      have key := dfeed_go pv d N ⟨L.toArray⟩ l w a4 hp (by rw [arr_size]; omega) (by rw [arr_list, hm]; exact hle)
      rw [arr_list] at key
      refine key.mono ?_
      rintro e w' ⟨v, c1, l1, k1, i1, rfl, hr, hdb, hlb, hcs⟩
      rw [← hJ.td] at hr
      have hx : RX A (Gr col B b w') w' b { sL (L ++ l) with td := [] } := a5.gr rfl (lb_keep hlb hbd hdB) hlb.2.2.2.1 (fun _ _ h => h)
      rw [hm] at hdb
      rcases hcs with ⟨hs, hf⟩ | ⟨hs, rfl, rfl, rfl, rfl⟩
      · rcases hJ.cs with ⟨_, j2, j3, j4, j5⟩ | ⟨j1, _⟩
        · have hq : fQ (L ++ l) (rdA (L ++ l)).2.2.1 (rdA (L ++ l)).2.2.2 = fV (rdA (L ++ l)).2.2.1 (plc (L ++ l) (rdA (L ++ l)).2.2.2).1 (plc (L ++ l) (rdA (L ++ l)).2.2.2).2 (rdA (L ++ l)).2.2.2 := by unfold fQ; rw [if_neg j4]
          rw [hq] at hf
          obtain ⟨rfl, rfl, rfl, rfl⟩ := fV_inj hf
          have j2' : (sL (L ++ l)).er = (rdA (L ++ l)).2.2.1 := j2
          have j3' : (sL (L ++ l)).fp = plc (L ++ l) (rdA (L ++ l)).2.2.2 := j3
          have hpl := plc_big (L ++ l) _ hJ.f2
          rw [j2', j3']
          refine ⟨v, _, _, _, rfl, hr, fun _ => rfl, ?_, hpl.1, hpl.2, hwd.1, hwd.2, ?_, hlb⟩
          · rcases j5 with h | h
            · exact .inl (by omega)
            · exact .inr h
          · rw [hN]
            refine .inr ⟨rfl, rfl, .inr (.inl ⟨L ++ l, ⟨(L ++ l).toArray⟩, (sL (L ++ l)).td.length, (rdA (L ++ l)).2.2.2, htd, by rw [j2']; exact j4, ?_, hx⟩)⟩
            rw [j2', j3']
            exact hdb
        · rw [hs] at j1
          exact absurd j1 (by simp)
      · rcases hJ.cs with ⟨j1, _⟩ | ⟨_, j2, j3, _⟩
        · rw [hs] at j1
          exact absurd j1 (by simp)
        · have j2' : (sL (L ++ l)).er = 0 := j2
          rw [j2']
          refine ⟨v, 0, 0, 0, rfl, hr, fun h => absurd rfl h, .inl (by omega), by omega, by omega, hwd.1, hwd.2, ?_, hlb⟩
          rw [hN]
          exact .inr ⟨rfl, rfl, .inl ⟨L ++ l, j2, j3, rfl, hdb, .inr hx⟩⟩
    · refine (dfeed_bad pv d n (sL L).er (sL L).fp.1 (sL L).fp.2 i s w a3 a2).mono ?_
      rintro e w' ⟨rfl, hb⟩
      have hbn := sj_code L L.length (Nat.le_refl _) a2
      have hfp := fp_le2 L a2
      refine ⟨_, _, _, _, rfl, Rw.nil _, fun _ => rfl, ?_, ?_, ?_, by simp, by simp, ?_, Lb.of_below d hb⟩
      · rcases hbn.2 with h | h
        · exact .inl (by show (sj L L.length).er ≤ 9; omega)
        · exact .inr h
      · have := hfp.1
        show (sj L L.length).fp.1 ≤ _
        omega
      · have := hfp.2
        show (sj L L.length).fp.2 ≤ _
        omega
      · exact .inr ⟨rfl, rfl, .inr (.inl ⟨L, s, n, i, a1, a2, a3.later hb, a4.gr rfl (fun g hg _ => hb.block g hg) hb.size (fun _ _ h => h)⟩)⟩
    · refine (dfeed_over pv d n c' l' k' i s w a2).mono ?_
      rintro e w' ⟨rfl, hb⟩
      exact ⟨_, 0, 0, 0, rfl, Rw.nil _, fun _ => rfl, .inl (by omega), by omega, by omega, by simp, by simp, .inr ⟨rfl, rfl, .inr (.inr ⟨s, n, c', l', k', i, a1, a2.later hb, a3.below hb⟩)⟩, Lb.of_below d hb⟩
theorem close_d (A : Nat → Addr) (col : Nat → Nat) (B b d k N : Nat) (rv sv : Value) (T : List (List (List UInt8))) (c : Nat) (q : Nat × Nat) (w : World) (hX : Cx A col B b d k w) (hM : MC A col B b d rv sv N T c q w) :
    Calls Tryz.prog 8 #[sv] w fun e w' => DoP A col B b d rv sv N T c q w e w' := by
  have n1 := hX.n1; have n2 := hX.n2; have n3 := hX.n3
  have hdB : d < B := by omega
  have hbd : b ≠ d := by omega
  have dnk : ∀ {w' : World}, Lb d w w' → DnR w b → DnR w' b := fun hl h => (hl.2.2.2.2 b h.lt hbd).trans h
  rcases hM with ⟨rfl, rfl, rfl, rfl, rfl⟩ | ⟨rfl, rfl, hM⟩
  · refine (dclose_nil w).mono ?_
    rintro e w' ⟨rfl, hb⟩
    exact ⟨_, 0, 0, 0, rfl, Rw.nil _, fun h => absurd rfl h, .inl (by omega), by omega, by omega, by simp, by simp, .inl ⟨rfl, rfl, rfl⟩, Lb.of_below d hb⟩
  · rcases hM with ⟨L, a1, a2, a3, a4, a5, rfl, rfl, rfl⟩ | ⟨L, s, n, i, a1, a2, a3, a4, rfl, rfl, rfl⟩ | ⟨s, n, c', l', k', i, a1, a2, a3, rfl, rfl, rfl⟩
    · have hJ := rdj_any L
      have hW := rdA_wide L
      have hm : (rdA L).2.1 = N := by
        rw [a3]
        unfold sL
        rw [hJ.td, List.length_take, Nat.min_eq_left hJ.nl]
      have key := dclose_go d N ⟨L.toArray⟩ w a4 (by rw [arr_size]; omega) (by rw [arr_list, ← hm]; exact hJ.nl)
      rw [arr_list] at key
      have htd : N ≤ 262144 := by
        have h1 := (sj_bdd L L.length).1.td
        have h2 := (sj_bdd L L.length).2
        rw [a3]
        unfold sL
        omega
      refine key.mono ?_
      rintro e w' ⟨v, rfl, hr, hdb, hlb⟩
      rw [arr_list]
      rcases hJ.cs with ⟨_, j2, _, j4, _⟩ | ⟨j1, j2, j3, j4, j5, j6, j7⟩
      · exact absurd (j2.symm.trans a1) j4
      · have j4' : (clP { sL L with td := [] }).er = (rdA L).2.2.1 := j4
        have j5' : (rdA L).2.2.1 ≠ 0 → (clP { sL L with td := [] }).fp = plc L (rdA L).2.2.2 := j5
        have j7' : (clP { sL L with td := [] }).td = (rdA L).1.drop N := by rw [← hm]; exact j7
        have hpl := plc_big L _ hJ.f2
        have hlen : ((rdA L).1.drop N).length ≤ 4097 := by
          have := hW.2
          rw [List.length_drop]
          omega
        rw [j4', j7']
        have st : Rds A col B b d (.pointer (some ⟨b, 0, none⟩)) (.pointer (some ⟨d, 0, none⟩)) (N + ((rdA L).1.drop N).length) w' := .inr ⟨rfl, rfl, .inr (.inr ⟨_, N, 0, 0, 0, 0, by omega, hdb, dnk hlb a5⟩)⟩
        by_cases h0 : (rdA L).2.2.1 = 0
        · rw [h0] at j6 ⊢
          exact ⟨v, 0, 0, 0, by unfold fQ; rw [if_pos rfl], hr, fun h => absurd rfl h, .inl (by omega), by omega, by omega, fun cs hcs => hW.1 cs (List.mem_of_mem_drop hcs), hlen, st, hlb⟩
        · rw [j5' h0]
          exact ⟨v, (plc L (rdA L).2.2.2).1, (plc L (rdA L).2.2.2).2, (rdA L).2.2.2, by unfold fQ; rw [if_neg h0], hr, fun _ => rfl, .inl (by omega), hpl.1, hpl.2, fun cs hcs => hW.1 cs (List.mem_of_mem_drop hcs), hlen, st, hlb⟩
    · refine (dclose_bad d n (sL L).er (sL L).fp.1 (sL L).fp.2 i s w a3 a2).mono ?_
      rintro e w' ⟨rfl, hdb, hlb⟩
      have hbn := sj_code L L.length (Nat.le_refl _) a2
      have hfp := fp_le2 L a2
      refine ⟨_, _, _, _, rfl, Rw.nil _, fun _ => rfl, ?_, ?_, ?_, by simp, by simp, ?_, hlb⟩
      · rcases hbn.2 with h | h
        · exact .inl (by show (sj L L.length).er ≤ 9; omega)
        · exact .inr h
      · have := hfp.1
        show (sj L L.length).fp.1 ≤ _
        omega
      · have := hfp.2
        show (sj L L.length).fp.2 ≤ _
        omega
      · exact .inr ⟨rfl, rfl, .inr (.inr ⟨s, n, _, _, _, i, by simp; omega, hdb, dnk hlb a4⟩)⟩
    · refine (dclose_over d n c' l' k' i s w a2).mono ?_
      rintro e w' ⟨rfl, hb⟩
      exact ⟨_, 0, 0, 0, rfl, Rw.nil _, fun _ => rfl, .inl (by omega), by omega, by omega, by simp, by simp, .inr ⟨rfl, rfl, .inr (.inr ⟨s, n, c', l', k', i, a1, a2.later hb, a3.below hb⟩)⟩, Lb.of_below d hb⟩
end Go.Proofs.YtpgpeafmlijfkaaGreatDoor

namespace Go.Proofs.YtpgpeafmlijfkaaGreatDoor
open Go.RowKit
set_option maxRecDepth 100000
set_option linter.unusedVariables false
set_option linter.unusedSimpArgs false

theorem Owns.whole {w : World} {base : Nat} {v : Value} {l : List UInt8} (h : Owns w base v l) (hl : 0 < l.length) :
    ∃ g cap cur, v = .slice (some ⟨g, 0, none⟩) l.length cap ∧ base ≤ g ∧ w.heap[g]? = some (.cells cur 5 (0, 0)) ∧ l.length ≤ cap ∧ cap ≤ maxLen ∧ cur.size = cap ∧ ∀ j (hj : j < l.length), w.cell? ⟨g, j, none⟩ = some (.int .u8 (l[j].toNat : Int)) := by
  have hc := fun g hg => World.ownsRow.cells h (g := g) hg
  rcases h.2 with ⟨_, h0⟩ | ⟨g, cap, cur, rfl, hb, hgg, hn, hm, hs, _⟩
  · omega
  · refine ⟨g, cap, cur, rfl, hb, hgg, hn, hm, by simpa using hs, fun j hj => ?_⟩
    have := hc g rfl j _ (bc_at l j hj)
    rw [Addr.add_lit, Nat.zero_add] at this
    exact this
/-- what Lent answers: a new block -/
def LnA (l : List UInt8) (w : World) (e : Ending) (w' : World) : Prop :=
  ∃ g cap cur, e = .returned (.slice (some ⟨g, 0, none⟩) l.length cap) ∧ w.heap.size ≤ g ∧ w'.heap[g]? = some (.cells cur 5 (0, 0)) ∧ l.length ≤ cap ∧ cur.size = cap ∧ Lent w' (.slice (some ⟨g, 0, none⟩) l.length cap) l ∧ Below w.heap.size w w'
set_option maxRecDepth 100000 in
set_option maxHeartbeats 400000 in
theorem lentN_any (v : Value) (l : List UInt8) (w : World) (hr : Reads w v l) (hl : l.length + 9 ≤ 140737488355328) :
    Calls Tryz.prog 12 #[v] w fun e w' => LnA l w e w' := by
  obtain ⟨ao, cap, rfl⟩ := hr.form
  go_enter Tryz.func12, Tryz.ntmps12
  go_wp2_with (at_builtin; refine wpList_app rfl (.tmp 5) (.tmp 6) 37 rfl Tryz.underlying37 u8info w.heap.size _ [] rfl (Owns.nil _ _) _ l rfl hr (by simp; omega) (Nat.le_refl _) ?hnext)
  case hnext =>
    intro v1 w1 ho1 hg1
    have hb1 := (Below.refl w.heap.size w).grown hg1 (Nat.le_refl _) (by intro k hk; cases hk)
    clear hr hg1
    go_wp2
    go_loopw [3, 4] (fun v i wr => ∃ k : Nat, k ≤ 9 ∧ i = .int .i64 k ∧ Owns wr w.heap.size v (l ++ marks.take k) ∧ Below w.heap.size w wr) (fun _ i _ => 9 - (intOf i).toNat)
    case atStart => exact ⟨0, by omega, rfl, by simpa using ho1, hb1⟩
    case round =>
      obtain ⟨k, hk, rfl, ho, hbl⟩ := hrel
      have hz := hbl.size
      clear ho1 hb1
      by_cases h : k < 9
      · have hlen : (marks.take k).length = k := by simp [marks]; omega
        go_wp2_with (at_builtin; refine wpList_app rfl (.tmp 12) (.tmp 16) 37 rfl Tryz.underlying37 u8info w.heap.size _ (l ++ marks.take k) rfl (ho.alloc _) _ [marks[k]'h] rfl (reads_one _ _ _ ?hx) ?hlen ?hbase ?hnext2)
        case hx => rw [marks_at k h]; omega
        case hlen => simp [hlen]; omega
        case hbase => simp; omega
        case hnext2 =>
          intro v2 w2 ho2 hg2
          go_wp2
          go_roundw
          case rel =>
            refine ⟨k + 1, by omega, by go_num, ?_, (hbl.alloc (by omega) _).grown hg2 (by simp; omega) ho.block_ge⟩
            rw [List.take_succ_eq_append_getElem h]
            exact ho2
          case measure => simp [intOf]; omega
      · have e9 : k = 9 := by omega
        subst e9
        have hm : marks.take 9 = marks := rfl
        rw [hm] at ho
        obtain ⟨g, cap', cur, hv, hg, hh, hc1, hc2, hsz, hcell⟩ := ho.whole (by simp [marks])
        have hml : (l ++ marks).length = l.length + 9 := by simp [marks]
        rw [hml] at hv hc1
        subst hv
        have HC : Hid (_) := hcell
        have HM : Hid (_) := hc2
        have HH := hid (And.intro hg (And.intro hh hsz))
        clear hcell hc2 ho hm hg hh hsz
        go_wp2
        go_ret
        exact ⟨g, cap', cur, rfl, HH.out.1, HH.out.2.1, by omega, HH.out.2.2, ⟨g, cap', rfl, hc1, HM.out, HC.out⟩, hbl⟩

theorem said_any (A : Nat → Addr) (ev : Value) (c l k i : Nat) (q : Nat × Nat) (w : World) (h : FT A w ev c q) (hq : c ≠ 0 → (l, k) = q) (hc : c ≤ 9 ∨ c = 20) (hl : l ≤ 9223372036854775807) (hk : k ≤ 9223372036854775807) (hT : ErT w) (hP : HasPw w) (hA : Sn A w) :
    Calls Tryz.prog 9 #[ev, fV c l k i] w fun e w' => e = .returned (.bool true) ∧ Below w.heap.size w w' := by
  rcases h with ⟨rfl, rfl⟩ | ⟨h0, f, rfl, hf⟩
  · exact said_none l k i w
  · have := hq h0
    subst this
    exact said_is A f c l k i w hl hk hT hP hf hA (by omega) (by omega)
/-- between two rounds of the law -/
structure LI (A : Nat → Addr) (col : Nat → Nat) (B b d k : Nat) (rv sv : Value) (N p : Nat) (w0 w : World) : Prop where
  cx : Cx A col B b d k w
  rd : Rds A col B b d rv sv N w
  bk : Bks col w B k N p
  c6 : ∀ g, g < B → g ≠ k → col g = 6
  b0 : w0.heap.size = b
  kg : Below w0.heap.size w0 w
/-- behind both calls of a round -/
structure Aft (A : Nat → Addr) (col : Nat → Nat) (B b d k : Nat) (rv sv : Value) (N p : Nat) (tv : Value) (V : List Value) (T : List (List (List UInt8))) (w0 w : World) : Prop where
  cx : Cx A col B b d k w
  rd : Rds A col B b d rv sv (N + T.length) w
  bk : Bks col w B k N p
  c6 : ∀ g, g < B → g ≠ k → col g = 6
  b0 : w0.heap.size = b
  kg : Below w0.heap.size w0 w
  rs : Rst col w B N p tv V T
  wd : ∀ cs ∈ T, Wd cs
  few : T.length ≤ 4097
section
variable {A : Nat → Addr} {col : Nat → Nat} {B b d k N p : Nat} {rv sv tv : Value} {V : List Value} {T : List (List (List UInt8))} {w0 w w' : World}
theorem LI.later (h : LI A col B b d k rv sv N p w0 w) (hb : Below w.heap.size w w') : LI A col B b d k rv sv N p w0 w' :=
  ⟨h.cx.mv ⟨hb.os, hb.tape, hb.output, hb.size, fun g hg => hb.block g (by have := h.cx.n1; have := h.cx.n2; have := h.cx.n3; have := h.cx.sz; omega)⟩ (fun _ _ => rfl), h.rd.keep h.cx (fun g hg _ => hb.block g hg) hb.size (fun _ _ e => e), h.bk.later hb, h.c6, h.b0, h.kg.trans (hb.mono h.kg.size)⟩
theorem Aft.later (h : Aft A col B b d k rv sv N p tv V T w0 w) (hb : Below w.heap.size w w') : Aft A col B b d k rv sv N p tv V T w0 w' :=
  ⟨h.cx.mv ⟨hb.os, hb.tape, hb.output, hb.size, fun g hg => hb.block g (by have := h.cx.n1; have := h.cx.n2; have := h.cx.n3; have := h.cx.sz; omega)⟩ (fun _ _ => rfl), h.rd.keep h.cx (fun g hg _ => hb.block g hg) hb.size (fun _ _ e => e), h.bk.later hb, h.c6, h.b0, h.kg.trans (hb.mono h.kg.size), h.rs.kept (fun g hg _ => hb.block g hg) (fun _ _ _ => rfl), h.wd, h.few⟩
/-- behind both calls -/
theorem aft_of {col' : Nat → Nat} {w1 w2 : World} (h : LI A col B b d k rv sv N p w0 w) (hR : Rst col' w1 B N p tv V T) (hX : Cx A col' B b d k w1) (hB : Bks col' w1 B k N p) (hkg : Kg (Gr col B b w) w w1) (hcl : ∀ g, g < w.heap.size → (g < B ∨ col g ≠ 6) → col' g = col g) (hrd : Rds A col' B b d rv sv (N + T.length) w2) (hlb : Lb d w1 w2) (hwd : ∀ cs ∈ T, Wd cs) (hfew : T.length ≤ 4097) : Aft A col' B b d k rv sv N p tv V T w0 w2 := by
  have n1 := hX.n1; have n2 := hX.n2; have n3 := hX.n3; have sz := hX.sz; have s0 := h.cx.sz
  have hnd : ∀ g, bkc (col' g) → g ≠ d := fun g hg e => by rw [e, hX.cd] at hg; exact bkc6 hg
  have b0 := h.b0
  have k1 : Below w0.heap.size w w1 := ⟨hkg.os, hkg.tape, hkg.output, hkg.size, fun g hg => hkg.block g ⟨by omega, by omega, .inl (by omega)⟩⟩
  have k2 : Below w0.heap.size w1 w2 := ⟨hlb.1, hlb.2.1, hlb.2.2.1, hlb.2.2.2.1, fun g hg => hlb.2.2.2.2 g (by omega) (by omega)⟩
  exact ⟨hX.mv ⟨hlb.1, hlb.2.1, hlb.2.2.1, hlb.2.2.2.1, fun g hg => hlb.2.2.2.2 g (by omega) (by omega)⟩ (fun _ _ => rfl), hrd, hB.kept (fun g hg hc => hlb.2.2.2.2 g hg (hnd g hc)) (fun _ _ _ => rfl), fun g hg hgk => (hcl g (by omega) (.inl hg)).trans (h.c6 g hg hgk), h.b0, (h.kg.trans k1).trans k2, hR.kept (fun g hg hc => hlb.2.2.2.2 g hg (hnd g hc)) (fun _ _ _ => rfl), hwd, hfew⟩
/-- books.Rows of what was told -/
theorem aft_rows (h : Aft A col B b d k rv sv N p tv V T w0 w) (hp : p + 1 ≤ 5000000000000) :
    Calls Tryz.prog 11 #[.pointer (some ⟨k, 0, none⟩), tv] w fun e w' => e = .returned (.tuple #[]) ∧ ∃ col', LI A col' B b d k rv sv (N + T.length) (p + 1) w0 w' ∧ (∀ g, g < w.heap.size → col' g = col g) ∧ FrR col k w w' := by
  have n1 := h.cx.n1; have n2 := h.cx.n2; have n3 := h.cx.n3; have sz := h.cx.sz
  have hN := h.rd.few
  have hl : (tbb T).length = T.length := by simp [tbb]
  refine (rows_bks w B k N p col tv V (tbb T) h.bk sz h.rs.ow (by rw [hl]; exact h.rs.vl.symm) h.rs.rows (by rw [h.rs.vl]; omega) hp (tbb_bounds T h.wd h.few)).mono ?_
  rintro e w' ⟨rfl, col', h1, h2, h3⟩
  have hb0 := h.b0
  have low : ∀ g, g < b → w'.heap[g]? = w.heap[g]? := fun g hg => by
    have := h.c6 g (by omega) (by omega)
    exact h3.block g (by omega) (by omega) (by omega) (by omega) (by omega) (by omega)
  refine ⟨rfl, col', ⟨h.cx.mv ⟨h3.os, h3.tape, h3.output, h3.size, low⟩ (fun g hg => h2 g (by omega)), h.rd.keep h.cx (fun g hg hh => ?_) h3.size (fun g hg e => (h2 g hg).trans e), by rw [← h.rs.vl]; exact h1, fun g hg hgk => (h2 g (by omega)).trans (h.c6 g hg hgk), hb0, h.kg.trans ⟨h3.os, h3.tape, h3.output, h3.size, fun g hg => low g (by omega)⟩⟩, h2, h3⟩
  have h6 : col g = 6 ∧ g ≠ k := by
    rcases hh with rfl | rfl | hh
    · exact ⟨h.cx.cb, by omega⟩
    · exact ⟨h.cx.cd, by omega⟩
    · exact ⟨hh.2, by omega⟩
  exact h3.block g hg h6.2 (by omega) (by omega) (by omega) (by omega)
/-- a block of colour 46 is written over -/
theorem LI.turn (h : LI A col B b d k rv sv N p w0 w) {g0 : Nat} (hg : w.grownBy w' (some g0)) (hc : col g0 = 46) (hB : B ≤ g0) : LI A col B b d k rv sv N p w0 w' := by
  have n1 := h.cx.n1; have n2 := h.cx.n2; have n3 := h.cx.n3; have sz := h.cx.sz; have b0 := h.b0
  have kb : ∀ g, g < w.heap.size → g ≠ g0 → w'.heap[g]? = w.heap[g]? := fun g hl hne => hg.block g hl (fun e => hne (Option.some.inj e))
  refine ⟨h.cx.mv ⟨hg.os, hg.tape, hg.output, hg.size, fun g hl => kb g (by omega) (by omega)⟩ (fun _ _ => rfl), h.rd.keep h.cx (fun g hl hh => kb g hl ?_) hg.size (fun _ _ e => e), h.bk.kept (fun g hl hh => kb g hl fun e => ?_) (fun _ _ _ => rfl), h.c6, h.b0, h.kg.trans ⟨hg.os, hg.tape, hg.output, hg.size, fun g hl => kb g (by omega) (by omega)⟩⟩
  · rintro rfl
    rcases hh with e | e | e
    · omega
    · omega
    · rw [hc] at e; omega
  · rw [e, hc] at hh
    rcases hh with hh | hh <;> omega
/-- new blocks get colour 46 -/
theorem LI.lent (h : LI A col B b d k rv sv N p w0 w) (hb : Below w.heap.size w w') : ∃ col', LI A col' B b d k rv sv N p w0 w' ∧ ∀ g, w.heap.size ≤ g → col' g = 46 := by
  have h' := h.later hb
  have hs := hb.size
  have sz := h.cx.sz
  have n1 := h.cx.n1; have n2 := h.cx.n2; have n3 := h.cx.n3
  have hc : ∀ g, g < w.heap.size → (fun g => if g < w.heap.size then col g else 46) g = col g := fun g hg => by show (if g < w.heap.size then col g else 46) = col g; rw [if_pos hg]
  refine ⟨fun g => if g < w.heap.size then col g else 46, ⟨h.cx.mv ⟨hb.os, hb.tape, hb.output, hb.size, fun g hg => hb.block g (by omega)⟩ (fun g hg => hc g (by omega)), h.rd.keep h.cx (fun g hg _ => hb.block g hg) hb.size (fun g hg e => (hc g hg).trans e), h.bk.kept (fun g hg _ => hb.block g hg) (fun g hg _ => hc g hg), fun g hg hgk => (hc g (by omega)).trans (h.c6 g hg hgk), h.b0, h'.kg⟩, fun g hg => ?_⟩
  show (if g < w.heap.size then col g else 46) = 46
  rw [if_neg (by omega)]
end
end Go.Proofs.YtpgpeafmlijfkaaGreatDoor

namespace Go.Proofs.YtpgpeafmlijfkaaGreatDoor
open Go.RowKit
set_option maxRecDepth 100000
set_option linter.unusedVariables false
set_option linter.unusedSimpArgs false

/-- a script of pieces -/
def ScR (w : World) (v : Value) (S : List (List UInt8 × Bool)) : Prop :=
  ∃ ao cap, v = .slice ao S.length cap ∧ S.length ≤ cap ∧ ∀ i (hi : i < S.length), ∃ g off u, ao = some ⟨g, off, none⟩ ∧ w.cell? ⟨g, off + i * 2, none⟩ = some u ∧ w.cell? ⟨g, off + i * 2 + 1, none⟩ = some (.bool S[i].2) ∧ Reads w u S[i].1
theorem ScR.below {w w' : World} {v : Value} {S : List (List UInt8 × Bool)} (h : ScR w v S) (hb : Below w.heap.size w w') : ScR w' v S := by
  obtain ⟨ao, cap, h1, h2, h3⟩ := h
  refine ⟨ao, cap, h1, h2, fun i hi => ?_⟩
  obtain ⟨g, off, u, a1, a2, a3, a4⟩ := h3 i hi
  exact ⟨g, off, u, a1, cellB hb a2, cellB hb a3, a4.below hb⟩
theorem ft_lb {A : Nat → Addr} {d : Nat} {wa wb : World} {ev : Value} {c : Nat} {q : Nat × Nat} (h : FT A wa ev c q) (hl : Lb d wa wb) (hd : c = 0 ∨ ∃ cs, wa.heap[d]? = some (.cells cs 79 (0, 0))) : FT A wb ev c q := by
  rcases h with h | ⟨h0, f, h1, h2⟩
  · exact .inl h
  · refine .inr ⟨h0, f, h1, (hl.2.2.2.2 f (Array.getElem?_eq_some_iff.1 h2).1 ?_).trans h2⟩
    rintro rfl
    rcases hd with hd | ⟨cs, hd⟩
    · exact h0 hd
    · rw [hd] at h2
      injection h2 with h2
      injection h2 with _ h2 _
      exact absurd h2 (by decide)
section
variable {A : Nat → Addr} {col : Nat → Nat} {B b d k N p : Nat} {rv sv : Value} {T : List (List (List UInt8))} {c : Nat} {q : Nat × Nat} {w : World}
theorem MF.typ {l : List UInt8} (h : MF l A col B b d rv sv N T c q w) : c = 0 ∨ ∃ cs, w.heap[d]? = some (.cells cs 79 (0, 0)) := by
  rcases h with ⟨_, _, _, _, h⟩ | ⟨_, _, ⟨_, _, _, _, h, _⟩ | ⟨_, _, _, _, _, _, h, _⟩ | ⟨_, _, _, _, _, _, _, h, _⟩⟩
  · exact .inl h
  · exact .inr ⟨_, h⟩
  · exact .inr ⟨_, h⟩
  · exact .inr ⟨_, h⟩
theorem MC.typ (h : MC A col B b d rv sv N T c q w) : c = 0 ∨ ∃ cs, w.heap[d]? = some (.cells cs 79 (0, 0)) := by
  rcases h with ⟨_, _, _, _, h⟩ | ⟨_, _, ⟨_, _, _, _, h, _⟩ | ⟨_, _, _, _, _, _, h, _⟩ | ⟨_, _, _, _, _, _, _, h, _⟩⟩
  · exact .inl h
  · exact .inr ⟨_, h⟩
  · exact .inr ⟨_, h⟩
  · exact .inr ⟨_, h⟩
theorem LI.apart {w0 : World} (h : LI A col B b d k rv sv N p w0 w) : Calls Tryz.prog 16 #[.pointer (some ⟨k, 0, none⟩)] w fun e w' => e = .returned (.bool true) ∧ Below w0.heap.size w0 w' := by
  obtain ⟨tv, tv0, rv, rv0, V, V0, P, X, Q, T0, R, hB, _, _⟩ := h.bk
  have n1 := h.cx.n1; have n2 := h.cx.n2; have n3 := h.cx.n3; have b0 := h.b0
  refine (apartT_any w B k col tv tv0 rv rv0 V P X Q hB.bv.bb hB.bv.i1 hB.r1 hB.bv.cb h.cx.sz hB.bv.few hB.bv.sh hB.pfew (fun j => by rw [hB.qr j]; exact (hB.rsh j).1) (stillT_any w B k col tv tv0 rv rv0 V V0 P X T0 R hB.whole)).mono ?_
  rintro e w' ⟨rfl, hb⟩
  exact ⟨rfl, h.kg.trans (hb.mono (by omega))⟩
end
theorem bks_new {col : Nat → Nat} {w : World} {B k : Nat} (hh : w.heap[k]? = some (.cells #[.slice none 0 0, .slice none 0 0, .slice none 0 0, .slice none 0 0, .slice none 0 0, .slice none 0 0, .slice none 0 0, .slice none 0 0, .slice none 0 0, .slice none 0 0, .slice none 0 0, .slice none 0 0, .slice none 0 0, .slice none 0 0] 36 (0, 0))) (hc : col k = 14) : Bks col w B k 0 0 :=
  ⟨.slice none 0 0, .slice none 0 0, .slice none 0 0, .slice none 0 0, [], [], [], fun _ => [], fun _ => [], [], fun _ => [],
    { bv := { bb := hh, i1 := ⟨Ow.nil _ _ _ _, fun j hj => absurd hj (Nat.not_lt_zero _)⟩, o0 := Ow.nil _ _ _ _, r0 := fun j hj => absurd hj (Nat.not_lt_zero _), len := rfl, cb := hc, few := Nat.zero_le _, sh := fun _ => Nat.zero_le _ }
      r1 := ⟨Ow.nil _ _ _ _, fun j hj => absurd hj (Nat.not_lt_zero _)⟩, p0 := Ow.nil _ _ _ _, plen := rfl, pfew := Nat.zero_le _, qr := fun _ => rfl, idx := fun j hj => absurd hj (Nat.not_lt_zero _), told := fun j hj => absurd hj (Nat.not_lt_zero _), rsh := fun _ => ⟨Nat.zero_le _, fun i hi => absurd hi (Nat.not_lt_zero _), Nat.zero_le _⟩ }, rfl, rfl⟩
theorem li_new {A : Nat → Addr} {w w1 w2 w3 : World} {rv sv : Value} (hA : HE A w) (hw1 : w1 = w.alloc (.cells zeroR 77)) (hdb : DB w2 w1.heap.size ⟨#[]⟩ 0 0 0 0 0 false) (hb2 : Below w1.heap.size w1 w2)
    (hw3 : w2.alloc (.cells #[.slice none 0 0, .slice none 0 0, .slice none 0 0, .slice none 0 0, .slice none 0 0, .slice none 0 0, .slice none 0 0, .slice none 0 0, .slice none 0 0, .slice none 0 0, .slice none 0 0, .slice none 0 0, .slice none 0 0, .slice none 0 0] 36) = w3)
    (h : rv = .pointer none ∧ sv = .pointer none ∨ rv = .pointer (some ⟨w.heap.size, 0, none⟩) ∧ sv = .pointer (some ⟨w1.heap.size, 0, none⟩)) :
    LI A (fun g => if g = w2.heap.size then 14 else 6) (w2.heap.size + 1) w.heap.size w1.heap.size w2.heap.size rv sv 0 0 w w3 := by
  have z1 : w1.heap.size = w.heap.size + 1 := by rw [hw1]; simp
  have hd := hdb.lt
  have z3 : w3.heap.size = w2.heap.size + 1 := by rw [← hw3]; simp
  have c1 : Below w.heap.size w w1 := by rw [hw1]; exact (Below.refl _ _).alloc (Nat.le_refl _) _
  have c2 : Below w.heap.size w w2 := c1.trans (hb2.mono (by omega))
  have c23 : Below w2.heap.size w2 w3 := by rw [← hw3]; exact (Below.refl _ _).alloc (Nat.le_refl _) _
  have c3 : Below w.heap.size w w3 := c2.trans (c23.mono c2.size)
  have hz : RZ w3 w.heap.size := by
    have h1 : RZ w1 w.heap.size := by rw [hw1]; exact heap_alloc_new w _
    exact (c23.block _ (by omega)).trans ((hb2.block _ (by omega)).trans h1)
  have hc6 : ∀ g, g ≠ w2.heap.size → (fun g => if g = w2.heap.size then 14 else 6) g = 6 := fun g hg => by show (if g = w2.heap.size then 14 else 6) = 6; rw [if_neg hg]
  refine ⟨⟨by omega, by omega, by omega, by omega, hc6 _ (by omega), hc6 _ (by omega), fun g hg => hA.lt g hg, hA.kept (G := fun k => k < w.heap.size) ⟨c3.os, c3.tape, c3.output, c3.size, fun g hg => c3.block g hg⟩ (fun g hg => hA.lt g hg)⟩, ?_, ?_, fun g _ hg => hc6 g hg, rfl, c3⟩
  · rcases h with ⟨rfl, rfl⟩ | ⟨rfl, rfl⟩
    · exact .inl ⟨rfl, rfl, rfl⟩
    · have e : sL [] = s0 := by unfold sL; simp; exact sj_nil
      refine .inr ⟨rfl, rfl, .inl ⟨[], by rw [e]; rfl, by simp, by rw [e]; rfl, ?_, .inl ⟨rfl, hz⟩⟩⟩
      exact hdb.later c23
  · refine bks_new ?_ (by simp)
    rw [← hw3]
    exact heap_alloc_new w2 _
theorem lent_mv {w w' : World} {g cap : Nat} {l : List UInt8} (h : Lent w (.slice (some ⟨g, 0, none⟩) l.length cap) l) (hk : w'.heap[g]? = w.heap[g]?) : Lent w' (.slice (some ⟨g, 0, none⟩) l.length cap) l := by
  obtain ⟨b, cap', hv, h1, h2, hc⟩ := h
  injection hv with e1 _ e3
  injection e1 with e1
  injection e1 with e1
  subst e1 e3
  exact ⟨g, cap, rfl, h1, h2, fun j hj => (World.cell?_of_block hk).trans (hc j hj)⟩
theorem lent_bytes {w : World} {g cap : Nat} {l : List UInt8} (h : Lent w (.slice (some ⟨g, 0, none⟩) l.length cap) l) : BsA w g 0 l := by
  obtain ⟨b, cap', hv, h1, h2, hc⟩ := h
  injection hv with e1 _ e3
  injection e1 with e1
  injection e1 with e1
  subst e1 e3
  intro i hi
  have := hc i (by simp; omega)
  rw [List.getElem_append_left hi] at this
  rw [Nat.zero_add]
  exact this
attribute [local go_sem ↓] fLd_op fSt_op
set_option maxHeartbeats 16000000 in
theorem reads_law (A : Nat → Addr) (sv : Value) (S : List (List UInt8 × Bool)) (nn : Bool) (w : World) (hA : Sn A w) (hT : ErT w) (hP : HasPw w) (hs : ScR w sv S) (hl : S.length ≤ 4900000000000) (hb : ∀ x ∈ S, x.1.length ≤ 140737488351232) :
    Calls Tryz.prog 3 #[sv, .bool nn] w fun e w' => e = .returned (.bool true) ∧ Below w.heap.size w w' := by
  obtain ⟨sa, scap, hsv⟩ : ∃ sa scap, sv = .slice sa S.length scap := by obtain ⟨a, c, h, _⟩ := hs; exact ⟨a, c, h⟩
  subst hsv
  have HS := hid hs
  have HB := hid hb
  have HL := hid hl
  have HA := hid (And.intro hA (And.intro hT hP))
  have HNR := hid newReader_any
  have HND := hid newDoc_any
  clear hs hb hl hA hT hP
  go_enter Tryz.func3, Tryz.ntmps3
  go_wp2_with fail
  refine Calls.mono (HNR.out _) ?_
  rintro e w1 ⟨rfl, hw1⟩
  have HW1 := hid hw1
  clear hw1
  go_wp2_with fail
  refine Calls.mono (HND.out _) ?_
  rintro e w2 ⟨rfl, hdb, hb2⟩
  have HW2 := hid (And.intro hdb hb2)
  clear hdb hb2
  go_upto_if 23 with fail
  go_cut [5, 6] (fun r s wx => (r = .pointer none ∧ s = .pointer none ∨ r = .pointer (some ⟨w.heap.size, 0, none⟩) ∧ s = .pointer (some ⟨w1.heap.size, 0, none⟩)) ∧ wx = w2)
  case first =>
    cases nn with
    | false =>
      go_wp2_with fail
      go_meet
      exact ⟨.inr ⟨rfl, rfl⟩, rfl⟩
    | true =>
      go_wp2_with fail
      go_meet
      exact ⟨.inl ⟨rfl, rfl⟩, rfl⟩
  case rest =>
    obtain ⟨hrs, hwc⟩ := hcut
    replace hwc := hwc.symm
    subst hwc
    obtain ⟨w3, hw3⟩ : ∃ w3, w2.alloc (.cells #[.slice none 0 0, .slice none 0 0, .slice none 0 0, .slice none 0 0, .slice none 0 0, .slice none 0 0, .slice none 0 0, .slice none 0 0, .slice none 0 0, .slice none 0 0, .slice none 0 0, .slice none 0 0, .slice none 0 0, .slice none 0 0] 36) = w3 := ⟨_, rfl⟩
    have HI := hid (li_new HA.out.1.he HW1.out HW2.out.1 HW2.out.2 hw3 hrs)
    clear hrs
    go_wp2_with fail
    go_loopw [8] (fun i wr => ∃ (n : Nat) (col : Nat → Nat) (N : Nat), n ≤ S.length + 1 ∧ i = .int .i64 (n : Int) ∧ LI A col (w2.heap.size + 1) w.heap.size w1.heap.size w2.heap.size u5 u6 N n w wr) (fun i _ => S.length + 1 - (intOf i).toNat)
    case atStart => exact ⟨0, _, 0, by omega, rfl, HI.out⟩
    case round =>
      obtain ⟨n, col, N, hn, rfl, hI⟩ := hrel
      have hSr := HS.out.below hI.kg
      have hLn := HL.out
      have HIr := hid hI
      clear hI
      by_cases hle : n ≤ S.length
      · have hI1 : (n : Int) ≤ (S.length : Int) := by omega
        have hdI : decide (n ≤ S.length) = true := by simp; exact hle
        obtain ⟨bb, hbb⟩ : ∃ bb : Bool, (bb = true ↔ (n = S.length ∨ ∃ h : n < S.length, S[n].2 = true)) := by
          classical
          exact ⟨decide (n = S.length ∨ ∃ h : n < S.length, S[n].2 = true), by simp⟩
        have HBb := hid hbb
        have HSr := hid hSr
        clear hbb hSr
        go_upto_region 12 with fail
        go_cut [40] from 24 to 115 (fun v wx => v = .bool bb ∧ wx = wr)
        case first =>
          by_cases hnS : n = S.length
          · subst hnS
            have : bb = true := HBb.out.2 (.inl rfl)
            subst this
            go_wp2_with fail
            go_meet
            exact ⟨rfl, rfl⟩
          · have hlt : n < S.length := by omega
            have hlI : (n : Int) < (S.length : Int) := by omega
            have hne : ((n : Int) == (S.length : Int)) = false := by rw [beq_eq_false_iff_ne]; omega
            have hnp : ¬ (n : Int) = (S.length : Int) := by omega
            obtain ⟨ao, cp, e0, h1, h2⟩ := HSr.out
            injection e0 with e1 e2 e3
            subst e1 e3
            obtain ⟨g, off, u, e4, h3, h4, h5⟩ := h2 n hlt
            subst e4
            have hb2 : bb = S[n].2 := by
              have := HBb.out
              cases bb with
              | true =>
                rcases this.1 rfl with h | ⟨_, h⟩
                · exact absurd h hnS
                · exact h.symm
              | false =>
                cases hh : S[n].2 with
                | false => rfl
                | true => exact absurd (this.2 (.inr ⟨hlt, hh⟩)) (by simp)
            rw [← hb2] at h4
            clear hb2 h2 h3 h5 hnS hlt HSr
            go_wp2_with fail
            go_meet
            exact ⟨rfl, rfl⟩
        case rest =>
          obtain ⟨rfl, hwc⟩ := hcut
          replace hwc := hwc.symm
          subst hwc
          cases bb with
          | true =>
            have HC := hid (close_p A col _ _ _ _ N n u5 u6 wr HIr.out.cx HIr.out.rd HIr.out.bk)
            clear hI1 hdI
            go_wp2_with fail
            refine Calls.mono HC.out ?_
            rintro e wa ⟨col1, tv, V, T, ev, c, q, rfl, hRs, hFt, hM, hXa, hBa, hkg, hcl⟩
            obtain ⟨ta, tc, htv⟩ := hRs.ow.sl
            have HD := hid (close_d A col1 _ _ _ _ N u5 u6 T c q wa hXa hM)
            have hty := hM.typ
            have HRs := hid hRs
            have HFt := hid hFt
            have HXa := hid (And.intro hXa (And.intro hBa (And.intro hkg (And.intro hcl hty))))
            clear hRs hFt hM hXa hBa hkg hcl hty HC
            subst htv
            go_wp2_with fail
            refine Calls.mono HD.out ?_
            rintro e wb ⟨v, l, k, i, rfl, hrw, hq, hcd, hlb, hkb, hwd, hfew, hrd, hLb⟩
            obtain ⟨va, vc, hv⟩ := hrw.form
            obtain ⟨hXa, hBa, hkg, hcl, hty⟩ := HXa.out
            have hAf := aft_of HIr.out HRs.out hXa hBa hkg hcl hrd hLb hwd hfew
            have hFb := ft_lb HFt.out hLb hty
            obtain ⟨wc, ES, hWc, hbc, hzc⟩ := run_fStN wb c l k i
            have EL := run_fLd hWc
            have hAc := hAf.later hbc
            have HSd := hid (said_any A ev c l k i q wc (hFb.later hbc) hq hcd hlb hkb (HA.out.2.1.below hAc.kg) (HA.out.2.2.below hAc.kg) (HA.out.1.below hAc.kg))
            have HAc := hid hAc
            have HRw := hid (hrw.below hbc)
            obtain ⟨fv, hfv⟩ : ∃ fv, fv = fV c l k i := ⟨_, rfl⟩
            rw [← hfv] at ES EL HSd ⊢
            clear hXa hBa hkg hcl hty hAf hFb hWc hbc hzc hAc hrw hq hcd hlb hkb hwd hfew hrd hLb hfv HD HFt HXa
            subst hv
            go_wp2_with fail
            refine Calls.mono HSd.out ?_
            rintro e wd ⟨rfl, hbd⟩
            have HAd := hid (HAc.out.later hbd)
            have HSm := hid (sameRows_is _ _ T wd HAd.out.rs.tr.rw (HRw.out.below hbd))
            clear hbd HSd HRw HAc
            go_wp2_with fail
            refine Calls.mono HSm.out ?_
            rintro e we ⟨rfl, hbe⟩
            have HRo := hid (aft_rows (HAd.out.later hbe) (by omega))
            clear hbe HSm HAd
            go_wp2_with fail
            refine Calls.mono HRo.out ?_
            rintro e wf ⟨rfl, col2, hI2, _, _⟩
            have HI2 := hid hI2
            clear hI2 HRo
            go_wp2
            go_roundw
            case rel => exact ⟨n + 1, col2, N + T.length, by omega, by go_num, HI2.out⟩
            case measure => simp [intOf]; omega
          | false =>
            have hnb : n < S.length ∧ ∀ h : n < S.length, S[n].2 = false := by
              have hx := HBb.out
              have h1 : n ≠ S.length := fun h => absurd (hx.2 (.inl h)) (by simp)
              refine ⟨by omega, fun h => ?_⟩
              cases hh : S[n].2 with
              | false => rfl
              | true => exact absurd (hx.2 (.inr ⟨h, hh⟩)) (by simp)
            obtain ⟨hlt, hcl0⟩ := hnb
            have hlI : (n : Int) < (S.length : Int) := by omega
            obtain ⟨ao, cp, e0, h1, h2⟩ := HS.out
            injection e0 with e1 e2 e3
            subst e1 e3
            obtain ⟨g, off, u, e4, h3w, h4, h5w⟩ := h2 n hlt
            subst e4
            have h3 := cellB HIr.out.kg h3w
            have h5 := h5w.below HIr.out.kg
            have hbn := HB.out S[n] (List.getElem_mem hlt)
            obtain ⟨P, hP⟩ : ∃ P, P = S[n].1 := ⟨_, rfl⟩
            rw [← hP] at h5 h5w hbn
            obtain ⟨ua, uc, hu⟩ := h5.form
            have HU := hid (And.intro h3w h5w)
            have HLn := hid (lentN_any u P wr h5 (by omega))
            have HC3 := hid h3
            clear h2 h4 h5 h3w h5w hP hcl0 HSr h1 hI1 hdI HBb
            subst hu
            go_wp2_with fail
            refine Calls.mono HLn.out ?_
            rintro e wl ⟨g0, cap0, cur0, rfl, hg0, hh0, hc0, hcs0, hln, hbl⟩
            obtain ⟨coll, hIl, hc46⟩ := HIr.out.lent hbl
            have hg46 := hc46 g0 hg0
            have hlt0 : g0 < wl.heap.size := (Array.getElem?_eq_some_iff.1 hh0).1
            have hxs := HIr.out.cx
            have hGr : Gr coll (w2.heap.size + 1) w.heap.size wl g0 := ⟨hlt0, by have := hxs.n1; have := hxs.n2; have := hxs.n3; have := hxs.sz; omega, .inr (by rw [hg46]; decide)⟩
            have hBg : w2.heap.size + 1 ≤ g0 := by have := hxs.sz; omega
            have HC := hid (feed_p A coll _ _ _ _ N n g0 cap0 u5 u6 P wl hIl.cx hIl.rd hIl.bk hGr (lent_bytes hln) hc0 (by omega))
            have HIl := hid hIl
            have HLt := hid hln
            have HO := hid (And.intro hGr (And.intro hg46 (And.intro hBg (And.intro hh0 (And.intro hcs0 (And.intro hlt0 hbl))))))
            clear hIl hln hGr hg46 hBg hh0 hcs0 hlt0 hbl hc46 hg0 hxs HLn
            go_wp2_with fail
            refine Calls.mono HC.out ?_
            rintro e wa ⟨col1, tv, V, T, ev, c, q, rfl, hRs, hFt, hM, hXa, hBa, hkg, hcl⟩
            obtain ⟨ta, tc, htv⟩ := hRs.ow.sl
            obtain ⟨hGr, hg46, hBg, hh0, hcs0, hlt0, hbl⟩ := HO.out
            have hxs := HIl.out.cx
            have hb0 := HIr.out.kg
            have b_la : Below w.heap.size wl wa := ⟨hkg.os, hkg.tape, hkg.output, hkg.size, fun g hg => hkg.block g (by have := hxs.n1; have := hxs.n2; have := hxs.n3; have := hxs.sz; exact ⟨by omega, by omega, .inl (by omega)⟩)⟩
            have b_wa : Below w.heap.size w wa := HIl.out.kg.trans b_la
            have hLta := lent_mv HLt.out (hkg.block g0 hGr)
            have hha := (hkg.block g0 hGr).trans hh0
            have hca : col1 g0 = 46 := (hcl g0 hlt0 (.inr (by rw [hg46]; decide))).trans hg46
            have hUa : ∀ wx, Below w.heap.size w wx → wx.cell? ⟨g, off + n * 2, none⟩ = some (.slice ua P.length uc) ∧ Reads wx (.slice ua P.length uc) P := fun wx hwx => ⟨cellB hwx HU.out.1, HU.out.2.below hwx⟩
            have hCx := (hUa wa b_wa).1
            have HD := hid (feed_d A col1 _ _ _ _ N u5 u6 _ P T c q wa hXa hM (hUa wa b_wa).2 (by omega))
            have hty := hM.typ
            have HRs := hid hRs
            have HFt := hid hFt
            have HXa := hid (And.intro hXa (And.intro hBa (And.intro hkg (And.intro hcl hty))))
            have HOa := hid (And.intro hLta (And.intro hha (And.intro hca (And.intro hBg hcs0))))
            have HUa := hid hUa
            clear hRs hFt hM hXa hBa hkg hcl hty HC hLta hha hca hBg hcs0 hGr hg46 hh0 hlt0 hbl hxs hb0 b_la b_wa hUa HLt HO
            subst htv
            go_wp2_with fail
            refine Calls.mono HD.out ?_
            rintro e wb ⟨v, l, k, i, rfl, hrw, hq, hcd, hlb, hkb, hwd, hfew, hrd, hLb⟩
            obtain ⟨va, vc, hv⟩ := hrw.form
            obtain ⟨hXa, hBa, hkg, hcl, hty⟩ := HXa.out
            have hAf := aft_of HIl.out HRs.out hXa hBa hkg hcl hrd hLb hwd hfew
            have hFb := ft_lb HFt.out hLb hty
            obtain ⟨hLta, hha, hca, hBg, hcs0⟩ := HOa.out
            have hgd : g0 ≠ w1.heap.size := by have := hXa.n2; omega
            have hkb0 := hLb.2.2.2.2 g0 (Array.getElem?_eq_some_iff.1 hha).1 hgd
            have hLtb := lent_mv hLta hkb0
            have hhb := hkb0.trans hha
            obtain ⟨wc, ES, hWc, hbc, hzc⟩ := run_fStN wb c l k i
            have EL := run_fLd hWc
            have hAc := hAf.later hbc
            have HSd := hid (said_any A ev c l k i q wc (hFb.later hbc) hq hcd hlb hkb (HA.out.2.1.below hAc.kg) (HA.out.2.2.below hAc.kg) (HA.out.1.below hAc.kg))
            have HAc := hid hAc
            have HRw := hid (hrw.below hbc)
            have HOc := hid (And.intro (hLtb.below hbc) (And.intro ((hbc.block g0 (Array.getElem?_eq_some_iff.1 hhb).1).trans hhb) (And.intro hca (And.intro hBg hcs0))))
            obtain ⟨fv, hfv⟩ : ∃ fv, fv = fV c l k i := ⟨_, rfl⟩
            rw [← hfv] at ES EL HSd ⊢
            clear hXa hBa hkg hcl hty hAf hFb hWc hbc hzc hAc hrw hq hcd hlb hkb hwd hfew hrd hLb hfv HD HFt HXa hLta hha hca hBg hcs0 hgd hkb0 hLtb hhb HOa HIl HRs
            subst hv
            go_wp2_with fail
            refine Calls.mono HSd.out ?_
            rintro e wd ⟨rfl, hbd⟩
            have HAd := hid (HAc.out.later hbd)
            have HSm := hid (sameRows_is _ _ T wd HAd.out.rs.tr.rw (HRw.out.below hbd))
            have HOd := hid (show _ ∧ _ ∧ _ ∧ _ ∧ _ from ⟨HOc.out.1.below hbd, (hbd.block g0 (Array.getElem?_eq_some_iff.1 HOc.out.2.1).1).trans HOc.out.2.1, HOc.out.2.2⟩)
            clear hbd HSd HRw HAc HOc
            go_wp2_with fail
            refine Calls.mono HSm.out ?_
            rintro e we ⟨rfl, hbe⟩
            have HAe := hid (HAd.out.later hbe)
            have HOe := hid (show _ ∧ _ ∧ _ ∧ _ from ⟨HOd.out.1.below hbe, (hbe.block g0 (Array.getElem?_eq_some_iff.1 HOd.out.2.1).1).trans HOd.out.2.1, HOd.out.2.2⟩)
            obtain ⟨hCe, hRe⟩ := HUa.out we HAe.out.kg
            have HKp := hid (kept_any _ _ P we HOe.out.1 hRe (by omega))
            have HRo := hid (aft_rows HAe.out (by omega))
            clear hbe HSm HAd HOd hRe hCx
            go_wp2_with fail
            refine Calls.mono HKp.out ?_
            rintro e wk ⟨rfl, hwk⟩
            replace hwk := hwk.symm
            subst hwk
            go_wp2_with fail
            refine Calls.mono HRo.out ?_
            rintro e wf ⟨rfl, col2, hI2, hcl2, hfr⟩
            have hL46 : g0 < we.heap.size := (Array.getElem?_eq_some_iff.1 HOe.out.2.1).1
            have h46 := HOe.out.2.2.1
            have hgk : g0 ≠ w2.heap.size := by have := HOe.out.2.2.2.1; omega
            have hhf := (hfr.block g0 hL46 hgk (by rw [h46]; decide) (by rw [h46]; decide) (by rw [h46]; decide) (by rw [h46]; decide)).trans HOe.out.2.1
            have HI2 := hid (And.intro hI2 (And.intro hhf (And.intro ((hcl2 g0 hL46).trans h46) HOe.out.2.2.2)))
            clear hI2 hcl2 hfr hL46 h46 hgk hhf HRo HKp HAe HOe hCe
            go_wp2_with fail
            obtain ⟨wo, hwo⟩ : ∃ wo, wo = wr := ⟨_, rfl⟩
            go_loopw [18] (fun j wy => ∃ (m : Nat) (cur : Array Value), m ≤ P.length ∧ j = .int .i64 (m : Int) ∧ LI A col2 (w2.heap.size + 1) w.heap.size w1.heap.size w2.heap.size u5 u6 (N + T.length) (n + 1) w wy ∧ wy.heap[g0]? = some (.cells cur 5 (0, 0)) ∧ cur.size = cap0) (fun j _ => P.length - (intOf j).toNat)
            case atStart => exact ⟨0, cur0, Nat.zero_le _, rfl, HI2.out.1, HI2.out.2.1, HI2.out.2.2.2.2⟩
            case round =>
              obtain ⟨m, cur, hm, rfl, hIy, hhy, hcy⟩ := hrel
              have HIy := hid hIy
              by_cases hmP : m < P.length
              · have hmI : (m : Int) < (P.length : Int) := by omega
                have hdm : decide (m < P.length) = true := by simp; exact hmP
                have hmc : m < cur.size := by omega
                have hcell := Lib.cell_of_heap (w := wr) hhy m
                rw [Array.getElem?_eq_getElem hmc] at hcell
                have hfz := Lib.frozen_of_heap (w := wr) hhy m
                have hg := gb_set wr g0 m (.int .u8 120)
                have HT2 := hid (And.intro (hIy.turn hg HI2.out.2.2.1 HI2.out.2.2.2.1) (Lib.heap_setCell_same (i := m) hhy (.int .u8 120)))
                generalize cur[m] = cm at hcell
                clear hIy hhy hg hmP
                go_wp2
                go_roundw
                case rel => exact ⟨m + 1, _, by omega, by go_num, HT2.out.1, HT2.out.2, by simp; omega⟩
                case measure => simp [intOf]; omega
              · have hmI : ¬ (m : Int) < (P.length : Int) := by omega
                have hdm : decide (m < P.length) = false := by simp; omega
                clear hIy hhy hmP
                go_wp2
                go_roundw
                case rel => exact ⟨n + 1, col2, N + T.length, by omega, by go_num, HIy.out⟩
                case measure => simp [intOf]; omega
      · have hI1 : ¬ (n : Int) ≤ (S.length : Int) := by omega
        have hdI : decide (n ≤ S.length) = false := by simp; omega
        have HAp := hid HIr.out.apart
        clear hSr
        go_wp2_with fail
        refine Calls.mono HAp.out ?_
        rintro e w4 ⟨rfl, hb4⟩
        go_wp2
        go_ret
        exact ⟨rfl, hb4⟩
end Go.Proofs.YtpgpeafmlijfkaaGreatDoor

namespace Go.Proofs.YtpgpeafmlijfkaaGreatDoor
open Go.ChangeShapes Go.WideShapes Go.ChangeAt Go.RowKit
set_option maxRecDepth 100000

def byOf {H : Type} : DataW H → UInt8
  | .lit (.int .u8 z) => UInt8.ofNat z.toNat
  | _ => 0
/-- as many bytes as the data has -/
def BsZ {H : Type} (d : DataW H) (l : List UInt8) : Prop := l = [] ∨ ∃ es sp, d = .slice es sp ∧ es.length = l.length
theorem byts_cells {H : Type} {enc : TypeId × Value → H} {W : World} {b2 : Nat} {sp : Nat → Bool} {held : Bool} {fuel : Nat} {cs : List Value} {x : DataW H × List MemPlace} (h : DataW.trod enc Tryz.prog W b2 sp held fuel 37 cs = some x) :
    ∃ v l, cs = [v] ∧ Reads W v l ∧ BsZ x.1 l := by
  have hce : Tryz.prog.cellsOf 5 = 1 := by kernel_rfl
  rcases DataW.trod_slice Tryz.underlying37 h with ⟨hcs, _⟩ | ⟨a, len, cap, elems, rest, n, _, hcs, hx, _, hl, hm, hlen, hel, _, _⟩
  · exact ⟨_, [], hcs, Reads.nil W, .inl rfl⟩
  · rw [hce] at hel
    have each : ∀ i (hi : i < elems.length), ∃ z : Int, elems[i].1 = .lit (.int .u8 z) ∧ W.cell? (a.add i) = some (.int .u8 z) ∧ (Lit.int .u8 z).wf = true := by
      intro i hi
      have h1 := hel i (by omega)
      rw [List.getElem?_eq_getElem hi] at h1
      obtain ⟨cs, hc, ht⟩ := Option.bind_eq_some_iff.1 h1
      obtain ⟨z, rfl, hy, hw⟩ := DataW.trod_int Tryz.underlying5 ht
      have h2 := World.cells?_some hc
      exact ⟨z, by rw [hy], by simpa [Addr.add] using h2.2.2 0 (by omega), hw⟩
    have hd := congrArg Prod.fst hx
    simp only at hd
    refine ⟨_, elems.map fun y => byOf y.1, hcs, ?_, .inr ⟨_, _, hd, by simp⟩⟩
    by_cases h0 : elems.length = 0
    · have : elems = [] := List.eq_nil_of_length_eq_zero h0
      subst this
      refine .inl ⟨rfl, some a, cap, ?_, fun h => by cases h⟩
      rw [← hlen]
      rfl
    · obtain ⟨z0, _, hc0, _⟩ := each 0 (by omega)
      obtain ⟨b, off, spot⟩ := a
      have hspot : spot = none := by simpa [Addr.add] using World.cell?_spot hc0
      subst hspot
      refine .inr ⟨b, off, cap, by rw [List.length_map, hlen], by rw [List.length_map]; omega, fun j hj => ?_⟩
      rw [List.length_map] at hj
      obtain ⟨z, e, c0, hw⟩ := each j hj
      rw [Addr.add_lit] at c0
      rw [c0]
      have hz : 0 ≤ z ∧ z ≤ 255 := bounds_u8 hw
      simp only [List.getElem_map, e, byOf]
      rw [UInt8.toNat_ofNat']
      congr 2
      omega
theorem pc_struct : ∃ f0 f1 : Field, Tryz.prog.underlying 39 = some (.struct #[f0, f1]) ∧ (f0.type = 37 ∧ f0.offset = 0) ∧ (f1.type = 4 ∧ f1.offset = 1) :=
  ⟨_, _, Tryz.underlying39, ⟨rfl, rfl⟩, ⟨rfl, rfl⟩⟩
def PcZ {H : Type} (d : DataW H) (l : List UInt8) : Prop := ∃ d0 d1, d = .agg [d0, d1] ∧ BsZ d0 l
theorem piece_cells {H : Type} {enc : TypeId × Value → H} {W : World} {b2 : Nat} {sp : Nat → Bool} {held : Bool} {fuel : Nat} {cs : List Value} {x : DataW H × List MemPlace} (h : DataW.trod enc Tryz.prog W b2 sp held fuel 39 cs = some x) :
    ∃ (u : Value) (l : List UInt8) (c : Bool), cs = [u, .bool c] ∧ Reads W u l ∧ PcZ x.1 l := by
  obtain ⟨f0, f1, hst, h0, h1⟩ := pc_struct
  obtain ⟨y0, y1, n, rfl, hlen, g0, g1⟩ := trod_struct2 hst h
  have hc : Tryz.prog.cellsOf 37 = 1 := by kernel_rfl
  have hcb : Tryz.prog.cellsOf 4 = 1 := by kernel_rfl
  have hc2 : Tryz.prog.cellsOf 39 = 2 := by kernel_rfl
  rw [h0.1, h0.2, hc] at g0
  rw [h1.1, h1.2, hcb] at g1
  obtain ⟨u, l, e0, hr, hz⟩ := byts_cells g0
  obtain ⟨c, e1, _⟩ := DataW.trod_bool Tryz.underlying4 g1
  rw [hc2] at hlen
  match cs, hlen with
  | [u0, u1], _ =>
    simp at e0 e1
    subst e0 e1
    exact ⟨u0, l, c, rfl, hr, _, _, rfl, hz⟩
def ScZ {H : Type} (d : DataW H) (S : List (List UInt8 × Bool)) : Prop := S = [] ∨ ∃ es sp, d = .slice es sp ∧ es.length = S.length ∧ ∀ x ∈ S, ∃ e ∈ es, PcZ e x.1
theorem pcs_open {H : Type} {enc : TypeId × Value → H} {W : World} {b2 : Nat} {sp : Nat → Bool} {held : Bool} {v : Value} {d : DataW H} {p : List MemPlace} (hvs : ∃ a len cap, v = .slice a len cap) (h : ∃ fuel, DataW.trod enc Tryz.prog W b2 sp held fuel 22 v.cells.toList = some (d, p)) :
    ∃ S : List (List UInt8 × Bool), ScR W v S ∧ ScZ d S := by
  obtain ⟨ao, len0, cap0, rfl⟩ := hvs
  obtain ⟨fuel, hf⟩ := h
  have hce : Tryz.prog.cellsOf 39 = 2 := by kernel_rfl
  rcases DataW.trod_slice Tryz.underlying22 hf with ⟨hcs, hx⟩ | ⟨a, len, cap, elems, rest, n, _, hcs, hx, hb, hl, hm, hlen, hel, _, _⟩
  · simp [Value.cells] at hcs
    obtain ⟨rfl, rfl, rfl⟩ := hcs
    exact ⟨[], ⟨none, 0, rfl, Nat.le_refl _, fun i hi => absurd hi (Nat.not_lt_zero _)⟩, .inl rfl⟩
  · simp [Value.cells] at hcs
    obtain ⟨rfl, rfl, rfl⟩ := hcs
    rw [hce] at hel
    have each : ∀ j : Fin len0, ∃ q : Value × (List UInt8 × Bool), (W.cell? ((a.add (j.1 * 2)).add 0) = some q.1 ∧ W.cell? ((a.add (j.1 * 2)).add 1) = some (.bool q.2.2) ∧ Reads W q.1 q.2.1) ∧ ∃ e ∈ elems.map (fun x => x.fst), PcZ e q.2.1 := by
      intro j
      have h1 := hel j.1 j.2
      have hjl : j.1 < elems.length := by have := j.2; omega
      rw [List.getElem?_eq_getElem hjl] at h1
      obtain ⟨cs, hc, ht⟩ := Option.bind_eq_some_iff.1 h1
      obtain ⟨u, l, c, rfl, hr, hz⟩ := piece_cells ht
      have h2 := World.cells?_some hc
      exact ⟨(u, l, c), ⟨by simpa using h2.2.2 0 (by omega), by simpa using h2.2.2 1 (by omega), hr⟩, (elems[j.1]).fst, List.mem_map.2 ⟨_, List.getElem_mem hjl, rfl⟩, hz⟩
    obtain ⟨fn, hfn⟩ := Classical.axiomOfChoice each
    have hpl : (List.ofFn fun j => (fn j).2).length = len0 := List.length_ofFn
    have hd := congrArg Prod.fst hx
    simp only at hd
    refine ⟨List.ofFn fun j => (fn j).2, ⟨some a, cap0, by rw [hpl], by rw [hpl]; exact hl, fun i hi => ?_⟩, .inr ⟨_, _, hd, by simp [hpl, hlen], fun x hx => ?_⟩⟩
    · rw [hpl] at hi
      obtain ⟨⟨c00, _⟩, _⟩ := hfn ⟨0, by omega⟩
      obtain ⟨b, off, spot⟩ := a
      have hspot : spot = none := by simpa [Addr.add] using World.cell?_spot c00
      subst hspot
      obtain ⟨⟨k0, k1, k2⟩, _⟩ := hfn ⟨i, hi⟩
      rw [Addr.add_lit, Addr.add_lit] at k0 k1
      rw [List.getElem_ofFn]
      exact ⟨b, off, (fn ⟨i, hi⟩).1, rfl, by simpa using k0, by simpa [Nat.add_assoc] using k1, k2⟩
    · obtain ⟨j, rfl⟩ := List.mem_ofFn.1 hx
      exact (hfn j).2
theorem weights_inP {H : Type} (P : Program) (e : TypeId) : ∀ (es : List (DataW H)) (x : DataW H) (n : Nat), x ∈ es → n ∈ x.weights P e → n ∈ DataW.weightsAll P e es := by
  intro es
  induction es with
  | nil => intro x n h; simp at h
  | cons d r ih =>
    intro x n h hn
    simp only [DataW.weightsAll, List.mem_append]
    rcases List.mem_cons.1 h with rfl | h
    · exact .inl hn
    · exact .inr (ih x n h hn)
theorem pcs_sized {H : Type} {ts : List TypeId} {ds : List (DataW H)} {d : DataW H} {S : List (List UInt8 × Bool)} (hsz : (DataW.weightsEach Tryz.prog ts ds).all (· ≤ reachBytes) = true) {j : Nat} (ht : ts[j]? = some 22) (hd : ds[j]? = some d) (h : ScZ d S) :
    S.length ≤ 4900000000000 ∧ ∀ x ∈ S, x.1.length ≤ 140737488351232 := by
  have hrb : reachBytes = 140737488351232 := by decide
  rcases h with rfl | ⟨es, spare, rfl, hl, hin⟩
  · exact ⟨by simp, by simp⟩
  · have hb : Tryz.prog.bytesOf 39 = 32 := by kernel_rfl
    have hb2 : Tryz.prog.bytesOf 5 = 1 := by kernel_rfl
    have h1 := sized_slice hsz ht hd Tryz.underlying22
    rw [hb, hl, hrb] at h1
    refine ⟨by omega, fun x hx => ?_⟩
    obtain ⟨e, he, d0, d1, rfl, hz⟩ := hin x hx
    rcases hz with h0 | ⟨es', sp', rfl, hl'⟩
    · rw [h0]; simp
    · obtain ⟨f0, f1, hst, f0t, f1t⟩ := pc_struct
      have hm : (es'.length + sp'.length) * Tryz.prog.bytesOf 5 ∈ DataW.weights Tryz.prog 22 (.slice es spare) := by
        simp only [DataW.weights, Tryz.underlying22]
        refine List.mem_cons_of_mem _ (List.mem_append_left _ (weights_inP _ _ es _ _ he ?_))
        simp only [DataW.weights, hst, List.map_cons, List.map_nil, DataW.weightsEach, f0t.1]
        refine List.mem_append_left _ ?_
        simp only [Tryz.underlying37]
        exact List.mem_cons_self
      have h2 := List.all_eq_true.1 hsz _ (DataW.weights_mem_each ht hd _ hm)
      rw [hb2, hl', hrb] at h2
      have h3 : (x.1.length + sp'.length) * 1 ≤ 140737488351232 := by simpa using h2
      omega
end Go.Proofs.YtpgpeafmlijfkaaGreatDoor
