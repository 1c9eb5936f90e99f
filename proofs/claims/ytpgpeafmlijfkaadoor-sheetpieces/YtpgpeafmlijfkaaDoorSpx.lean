/-
  Sheets: a Reader between two pieces of a text.
-/
import Derived.Test.YtpgpeafmlijfkaaDoorSfi
import Derived.Test.YtpgpeafmlijfkaaDoorSof
namespace Go.Proofs.YtpgpeafmlijfkaaDoor
open Go.RowKit
set_option maxRecDepth 100000
set_option linter.unusedVariables false
set_option linter.unusedSimpArgs false

/-- a Fault's block is none of the Reader's -/
theorem RX.flt {A : Nat → Addr} {G : Nat → Prop} {w : World} {b f : Nat} {s : Rs} {cs : Array Value} (h : RX A G w b s) (ht : s.td = []) (hf : w.heap[f]? = some (.cells cs 51 (0, 0))) : RX A (fun k => G k ∨ k = f) w b s := by
  obtain ⟨bp, bv, cv, tv, V, h⟩ := h
  have hV : V = [] := List.eq_nil_of_length_eq_zero (by rw [h.rws.len, ht]; rfl)
  subst hV
  have hfl : f < w.heap.size := (Array.getElem?_eq_some_iff.1 hf).1
  have nf : ∀ {e n : Nat} {v : Value} {xs : List Value}, w.ownsRow 0 e 1 v n xs → 51 ≠ e → ∀ g, v.ownBlock = some g → ¬ G g → ¬ (G g ∨ g = f) := fun {e n v xs} ho hne g hg hn h' => by
    rcases h' with h' | rfl
    · exact hn h'
    · exact own_ne ho hf hne hg
  have hbf : b ≠ f := by
    rintro rfl
    have h1 : some _ = some _ := (show w.heap[b]? = _ from h.top).symm.trans hf
    injection h1 with h2
    injection h2 with _ h3 _
    exact absurd h3 (by decide)
  exact ⟨bp, bv, cv, tv, [],
    { gs := fun k hk => by
        rcases hk with hk | rfl
        · exact h.gs k hk
        · exact hfl
      nb := fun h' => by
        rcases h' with h' | h'
        · exact h.nb h'
        · exact hbf h'
      nbv := fun g hg => nf h.buf (by decide) g hg (h.nbv g hg)
      ncv := fun g hg => nf h.cel (by decide) g hg (h.ncv g hg)
      ntv := fun g hg => nf h.tol (by decide) g hg (h.ntv g hg)
      top := h.top, bpo := h.bpo, bz := h.bz, buf := h.buf, cel := h.cel, tol := h.tol, rws := h.rws, ap := by simp, vlt := by simp }⟩
theorem RX.lt {A : Nat → Addr} {G : Nat → Prop} {w : World} {b : Nat} {s : Rs} (h : RX A G w b s) : ∀ k, G k → k < w.heap.size := by
  obtain ⟨bp, bv, cv, tv, V, h⟩ := h
  exact h.gs
/-- the blocks outside of the Reader: what is older, the rows so far, the error's -/
def Gq (n : Nat) (tv : Value) (V : List Value) (ev : Value) : Nat → Prop := fun k => k < n ∨ tv.ownBlock = some k ∨ (∃ v ∈ V, v.ownBlock = some k) ∨ ev = .iface 54 (.pointer (some ⟨k, 0, none⟩))
/-- between two pieces: j bytes have come -/
structure PcI (A : Nat → Addr) (w1 : World) (L : List UInt8) (w : World) (tv ev : Value) (j : Nat) (V : List Value) : Prop where
  tr : TR w tv V (sj L j).td
  ft : FT A w ev (sj L j).er (sj L j).fp
  kg : Kg (fun k => k < w1.heap.size) w1 w
  ow : ∀ g, tv.ownBlock = some g → w1.heap.size ≤ g
  rx : (j = 0 ∧ tv = .slice none 0 0 ∧ ev = .nilIface ∧ RZ w w1.heap.size) ∨ RX A (Gq w1.heap.size tv V ev) w w1.heap.size { sj L j with td := [] }
/-- behind a Feed, ahead of the append -/
structure FeP (A : Nat → Addr) (w1 : World) (L : List UInt8) (w : World) (tv tv2 ev : Value) (j : Nat) (V V2 : List Value) (T1 T2 : List (List (List UInt8))) (G : Nat → Prop) : Prop where
  t1 : TR w tv V T1
  t2 : TR w tv2 V2 T2
  td : (sj L j).td = T1 ++ T2
  ft : FT A w ev (sj L j).er (sj L j).fp
  kg : Kg (fun k => k < w1.heap.size) w1 w
  ow : ∀ g, tv.ownBlock = some g → w1.heap.size ≤ g
  gq : ∀ k, Gq w1.heap.size tv V .nilIface k → G k
  rx : RX A (Gs G tv2 V2) w w1.heap.size { sj L j with td := [] }
theorem sj_bdd (L : List UInt8) (j : Nat) : Bdd (sj L j) ∧ (sj L j).sz ≤ 262144 := feed_bdd (L.take j) _ 0 s0 (Nat.le_refl _) s0_bdd (by decide)
theorem sj_bdd0 (L : List UInt8) (j : Nat) : Bdd { sj L j with td := [] } := by
  have h := (sj_bdd L j).1
  exact ⟨h.cur, h.cs, h.rw, Nat.zero_le _, h.l, h.c⟩
/-- what Feed answers to the next piece -/
def FeQ (A : Nat → Addr) (w1 : World) (L : List UInt8) (tv : Value) (j : Nat) (V : List Value) (e : Ending) (w : World) : Prop := ∃ tv2 ev V2 T1 T2 G, e = .returned (.tuple #[tv2, ev]) ∧ FeP A w1 L w tv tv2 ev j V V2 T1 T2 G
theorem feed_pc (A : Nat → Addr) (w1 : World) (L l : List UInt8) (w W : World) (tv ev : Value) (j j' cap : Nat) (V : List Value) (hE : HE A w1) (h : PcI A w1 L w tv ev j V) (hj : j ≤ j') (hj' : j' ≤ L.length) (hl : l = (L.take j').drop j) (hW : Below w.heap.size w W) (hWz : W.heap.size = w.heap.size + 1) (hL : BsA W w.heap.size 0 l) (hc : l.length ≤ cap) (hlen : l.length ≤ 140737488355328) (hev : ev = .nilIface) :
    Calls Tryd.prog 6 #[.pointer (some ⟨w1.heap.size, 0, none⟩), .slice (some ⟨w.heap.size, 0, none⟩) l.length cap] W fun e w' => FeQ A w1 L tv j' V e w' := by
  subst hev
  obtain ⟨p1, p2⟩ := piece L j j' hj hj'
  rw [← hl] at p1 p2
  have hgk : Kg (Gq w1.heap.size tv V .nilIface) w W := ⟨hW.os, hW.tape, hW.output, hW.size, fun k hk => hW.block k ?_⟩
  · have hk0 : Kg (fun k => k < w1.heap.size) w1 W := h.kg.trans (hgk.mono fun k hk => .inl hk)
    have hE' : HE A W := hE.kept hk0 fun k hk => hE.lt k hk
    have hLea : Lea A (fun k => Gq w1.heap.size tv V .nilIface k ∨ k = w.heap.size) W := ⟨hE', fun k hk => .inl (.inl (hE.lt k hk))⟩
    have fin : ∀ e w', FeA A (fun k => Gq w1.heap.size tv V .nilIface k ∨ k = w.heap.size) W w1.heap.size (feed l { sj L j with td := [] } 0) e w' → FeQ A w1 L tv j' V e w' := by
      rintro e w' ⟨tv2, V2, ev2, rfl, ht, hft, hr, hk, hnv, _, _⟩
      have hf0 : feed l { sj L j with td := [] } 0 = runL { sj L j with td := [] } l := rfl
      rw [hf0] at ht hft hr
      rw [p1] at hft hr
      refine ⟨tv2, ev2, V2, (sj L j).td, _, _, rfl, ⟨?_, ht, p2, hft, hk0.trans (hk.mono fun k hk => .inl (.inl hk)), h.ow, fun k hk => .inl hk, hr⟩⟩
      have ht1 : TR W tv V (sj L j).td := ⟨own_of h.tr.own fun g hg => hgk.block g (.inr (.inl hg)), h.tr.rws.kept fun k hv => hgk.block k (.inr (.inr (.inl hv)))⟩
      exact ⟨own_of ht1.own fun g hg => hk.block g (.inl (.inr (.inl hg))), ht1.rws.kept fun k hv => hk.block k (.inl (.inr (.inr (.inl hv))))⟩
    rcases h.rx with ⟨rfl, rfl, _, hz⟩ | hx
    · have hV : V = [] := List.eq_nil_of_length_eq_zero (by rw [h.tr.rws.len]; rfl)
      subst hV
      have hzl : w1.heap.size < w.heap.size := (Array.getElem?_eq_some_iff.1 hz).1
      have hGl : ∀ k, (Gq w1.heap.size (.slice none 0 0) [] .nilIface k ∨ k = w.heap.size) → k < w.heap.size + 1 ∧ k ≠ w1.heap.size := by
        rintro k ((hk | hk | ⟨v, hv, _⟩ | hk) | rfl)
        · omega
        · simp [Value.ownBlock] at hk
        · simp at hv
        · cases hk
        · omega
      refine (feed_nw A _ w1.heap.size w.heap.size cap l W hLea ((hW.block _ hzl).trans hz) (fun k hk => by rw [hWz]; exact (hGl k hk).1) (fun hk => (hGl _ hk).2 rfl) (.inr rfl) hL hc hlen).mono fun e w' h' => fin e w' h'
    · refine (feed_old A _ w1.heap.size w.heap.size cap { sj L j with td := [] } l W hLea (hx.move rfl (fun k hk _ => hW.block k hk) ?_) (sj_bdd0 L j) (sj_bdd L j).2 (.inr rfl) hL hc hlen).mono fun e w' h' => fin e w' h'
      rintro k (hk | rfl)
      · exact ⟨by have := hx.lt k hk; omega, .inl hk⟩
      · exact ⟨by omega, .inr (Nat.le_refl _)⟩
  · rcases h.rx with ⟨_, rfl, _, hz⟩ | hx
    · have hzl : w1.heap.size < w.heap.size := (Array.getElem?_eq_some_iff.1 hz).1
      have hV : V = [] := List.eq_nil_of_length_eq_zero (by have := h.tr.own; rcases this.2 with ⟨_, h0⟩ | ⟨_, _, _, e, _⟩; exact h0; cases e)
      subst hV
      rcases hk with hk | hk | ⟨v, hv, _⟩ | hk
      · omega
      · simp [Value.ownBlock] at hk
      · simp at hv
      · cases hk
    · exact hx.lt k hk
/-- got = append(got, l...) -/
theorem app_pc {A : Nat → Addr} {w1 : World} {L : List UInt8} {w w4 : World} {tv tv2 ev v' : Value} {j : Nat} {V V2 : List Value} {T1 T2 : List (List (List UInt8))} {G : Nat → Prop} (h : FeP A w1 L w tv tv2 ev j V V2 T1 T2 G) (ho : w4.ownsRow 0 22 1 v' (V.length + V2.length) (V ++ V2)) (hg : w.grownBy w4 tv.ownBlock) (hb : v'.ownBlock = tv.ownBlock ∨ v'.ownBlock = some w.heap.size) : PcI A w1 L w4 v' ev j (V ++ V2) ∧ RX A (Gq w1.heap.size v' (V ++ V2) ev) w4 w1.heap.size { sj L j with td := [] } := by
  have hnt : ∀ {f : Nat} {cs : Array Value}, w.heap[f]? = some (.cells cs 51 (0, 0)) → w4.heap[f]? = some (.cells cs 51 (0, 0)) := fun {f cs} hf => (hg.block f (Array.getElem?_eq_some_iff.1 hf).1 (fun e => own_ne h.t1.own hf (by decide) e.symm)).trans hf
  have hrow : ∀ {v : Value} {n : Nat} {xs : List Value}, w.ownsRow 0 9 1 v n xs → w4.ownsRow 0 9 1 v n xs := fun {v n xs} ho => own_of ho fun g hg' => hg.block g (World.ownsRow.lt ho g hg').2 (fun e => own_two ho h.t1.own (by decide) g hg' e.symm)
  have hr : RX A (Gq w1.heap.size v' (V ++ V2) ev) w4 w1.heap.size { sj L j with td := [] } := by
    have hz := hg.size
    have key : ∀ G' : Nat → Prop, RX A G' w w1.heap.size { sj L j with td := [] } → (∀ k, Gs G tv2 V2 k → G' k) → (∀ k, ev = .iface 54 (.pointer (some ⟨k, 0, none⟩)) → G' k) → RX A (Gq w1.heap.size v' (V ++ V2) ev) w4 w1.heap.size { sj L j with td := [] } := by
      intro G' hx hs he
      refine hx.move rfl (fun k hk hn => hg.block k hk fun e => hn (hs k (.inl (h.gq k (.inr (.inl e.symm)))))) ?_
      have old : ∀ k, G' k → k < w4.heap.size ∧ (G' k ∨ w.heap.size ≤ k) := fun k hk => ⟨Nat.lt_of_lt_of_le (hx.lt k hk) hz, .inl hk⟩
      rintro k (hk | hk | ⟨v, hv, hk⟩ | hk)
      · exact old k (hs k (.inl (h.gq k (.inl hk))))
      · rcases hb with hb | hb
        · exact old k (hs k (.inl (h.gq k (.inr (.inl (hb ▸ hk))))))
        · refine ⟨(World.ownsRow.lt ho k hk).2, .inr ?_⟩
          rw [hb] at hk
          injection hk with e
          omega
      · rcases List.mem_append.1 hv with hv | hv
        · exact old k (hs k (.inl (h.gq k (.inr (.inr (.inl ⟨v, hv, hk⟩))))))
        · exact old k (hs k (.inr (.inr ⟨v, hv, hk⟩)))
      · exact old k (he k hk)
    rcases h.ft with ⟨_, rfl⟩ | ⟨_, f, rfl, hf⟩
    · exact key _ h.rx (fun k hk => hk) (fun k hk => by cases hk)
    · refine key _ (h.rx.flt rfl hf) (fun k hk => .inl hk) (fun k hk => .inr ?_)
      injection hk with _ h2
      injection h2 with h3
      injection h3 with h4
      injection h4 with h5
      exact h5.symm
  refine ⟨⟨⟨by rw [List.length_append]; exact ho, ?_⟩, ?_, h.kg.grown (fun k hk => hk) hg fun k hk hlt => ?_, fun g hg' => ?_, .inr hr⟩, hr⟩
  · rw [h.td]
    exact RwS.app ⟨h.t1.rws.len, fun j hj hv => hrow (h.t1.rws.row j hj hv)⟩ ⟨h.t2.rws.len, fun j hj hv => hrow (h.t2.rws.row j hj hv)⟩
  · rcases h.ft with h0 | ⟨h1, f, h2, h3⟩
    · exact .inl h0
    · exact .inr ⟨h1, f, h2, hnt h3⟩
  · have := h.ow k hk
    omega
  · rcases hb with hb | hb
    · exact h.ow g (hb ▸ hg')
    · rw [hb] at hg'
      injection hg' with e
      have := h.kg.size
      omega
/-- how many rows there are -/
theorem FeP.few {A : Nat → Addr} {w1 : World} {L : List UInt8} {w : World} {tv tv2 ev : Value} {j : Nat} {V V2 : List Value} {T1 T2 : List (List (List UInt8))} {G : Nat → Prop} (h : FeP A w1 L w tv tv2 ev j V V2 T1 T2 G) : V.length + V2.length ≤ 262144 := by
  have h1 := h.t1.rws.len
  have h2 := h.t2.rws.len
  have h3 := congrArg List.length h.td
  rw [List.length_append] at h3
  have h4 := (sj_bdd L j).1.td
  have h5 := (sj_bdd L j).2
  omega
theorem pslice2 (s : ByteArray) (i j : Nat) (hi : i ≤ j) (h : j ≤ s.size) (w : World) : (Instr.slice 9 (.string s) (some (.int .i64 (i : Int))) (some (.int .i64 (j : Int))) none).run Tryd.prog w = .ok (.string (s.extract i j)) w := by
  have := run_slice_string (P := Tryd.prog) w 9 s .i64 .i64 (i : Int) (j : Int) Tryd.underlying9 (by omega) (by omega) (by omega)
  exact this
theorem ext2 (s : ByteArray) (i j : Nat) : (s.extract i j).data.toList = (s.data.toList.take j).drop i := by
  rw [ByteArray.data_extract, Array.toList_extract]
  simp [List.extract, List.drop_take]
/-- at the end all has come, or a fault was told -/
theorem sj_end (L : List UInt8) (j : Nat) (h : j = L.length ∨ (sj L j).er ≠ 0) (hj : j ≤ L.length) : sj L j = fdP L := by
  rw [← sj_all L]
  rcases h with rfl | h
  · rfl
  · exact (sj_on L j h _ hj).symm
end Go.Proofs.YtpgpeafmlijfkaaDoor
