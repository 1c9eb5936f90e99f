/-
  Write and Flush, with what they keep.
-/
import Derived.Test.YtjaopckdhohpbaaDoorDkf
namespace Go.Proofs.YtjaopckdhohpbaaDoor
open Go.RowKit
set_option maxRecDepth 100000

/-- bytes but those of block s lie as they lay -/
def KU (w w' : World) (s : Nat) : Prop := ∀ (k : Nat) (cs : Array Value) (fr : Nat × Nat), k ≠ s → w.heap[k]? = some (.cells cs 5 fr) → w'.heap[k]? = some (.cells cs 5 fr)
theorem KU.trans {w w1 w2 : World} {s : Nat} (h : KU w w1 s) (h1 : KU w1 w2 s) : KU w w2 s := fun k cs fr hk hh => h1 k cs fr hk (h k cs fr hk hh)
theorem KU.below {w w' : World} {s : Nat} (h : Below w.heap.size w w') : KU w w' s := fun k _ _ _ hk => (h.block k (Array.getElem?_eq_some_iff.1 hk).1).trans hk
theorem own_type {w : World} {base e size n k : Nat} {v : Value} {xs : List Value} (h : w.ownsRow base e size v n xs) (hk : v.ownBlock = some k) : ∃ cur, w.heap[k]? = some (.cells cur e (0, 0)) := by
  rcases h.2 with ⟨rfl, _⟩ | ⟨g, cap, cur, rfl, _, hh, _⟩
  · cases hk
  · cases hk
    exact ⟨_, hh⟩
attribute [local go_sem ↓] loadVar_op bs_op
attribute [local go_sem] run_opLoad run_bsOne
set_option maxHeartbeats 4000000 in
theorem do_write_k (base d f s cap n : Nat) (tail : List Value) (F S B : List UInt8) (dv : Value) (O : List Opn) (w : World) (hfl : HasFl w) (h : DK w base d f s cap tail F S dv O) (hO : O.length < 65536) (hB : B.length = 128) (hn : (n + 1) * 128 ≤ S.length) (hbase : base ≤ w.heap.size) (hb0 : 0 < base) :
    Calls Tryd.prog 38 #[.pointer (some ⟨d, 0, none⟩), .agg (opc ((n : Int), B)).toArray] w fun e w' => e = .returned (.int .i64 0) ∧ (∃ dv', DK w' base d f s cap tail F (splice S (n * 128) B) dv' (O ++ [((n : Int), B)])) ∧ Below base w w' ∧ KU w w' s := by
  have hsw : s < w.heap.size := (Array.getElem?_eq_some_iff.1 h.seen).1
  have hdw : d < w.heap.size := (Array.getElem?_eq_some_iff.1 h.disk).1
  obtain ⟨ao, oc, rfl⟩ := h.form
  have hOI : ¬ (65536 : Int) ≤ (O.length : Int) := by omega
  have bA : Below w.heap.size w (w.alloc (.cells (opc ((n : Int), B)).toArray 75)) := (Below.refl _ _).alloc (Nat.le_refl _) _
  have HD := hid (h.below bA)
  have HF := hid (hfl.below bA)
  have HR := hid (show (w.alloc (.cells (opc ((n : Int), B)).toArray 75)).rangeAt w.heap.size 0 (opc ((n : Int), B)) from fun j v hv => by
    rw [cell_of_row _ w.heap.size (0 + j) (opc ((n : Int), B)).toArray _ (0, 0) (heap_alloc_new _ _)]
    simpa using hv)
  obtain ⟨W, hW⟩ : ∃ W, w.alloc (.cells (opc ((n : Int), B)).toArray 75) = W := ⟨_, rfl⟩
  rw [hW] at HD HF HR
  obtain ⟨c0, c1, c2, c3⟩ := HD.out.cells
  have htown : some w.heap.size ≠ (Value.slice ao O.length oc).ownBlock := fun e => by
    have := (World.ownsRow.lt h.own w.heap.size e.symm).2
    omega
  clear h hfl
  have hdl : d < W.heap.size := (Array.getElem?_eq_some_iff.1 HD.out.disk).1
  have htl : w.heap.size < W.heap.size := by rw [← hW]; exact (Array.getElem?_eq_some_iff.1 (heap_alloc_new _ _)).1
  have htd : w.heap.size ≠ d := fun e => by have := hdw; omega
  have HT := hid (rdO_is (range_drewN HR.out 1) (opc_len hB))
  have hT1 : OpThere W.drew w.heap.size 0 := HT.out.1
  have hT2 : rdO W.drew w.heap.size 0 = opc ((n : Int), B) := HT.out.2
  have hOl : (opc ((n : Int), B)).length = 129 := opc_len hB
  obtain ⟨j0, hj0, hy0, hy1, hy2⟩ := info_parts opinfo
  have BW := hid (show Below base w W from hW ▸ bA.mono hbase)
  have BWs := hid (show Below w.heap.size w W from hW ▸ bA)
  generalize hOL : opc ((n : Int), B) = OL at *
  go_enter Tryd.func38, Tryd.ntmps38
  go_wp2_with fail
  have hdrop : (O.length + 1) * 136 ≤ 140737488355328 := by omega
  have hmx : O.length + 1 ≤ maxLen := by unfold maxLen; omega
  have HDW := hid HD.out.disk
  have HOW := hid (show (W.drew.alloc (.cells OL.toArray 75)).ownsRow base 75 129 (.slice ao O.length oc) O.length (O.flatMap opc) from World.ownsRow.alloc HD.out.own _)
  have HNW := hid (show ∀ j u, OL[j]? = some u → (W.drew.alloc (.cells OL.toArray 75)).cell? ((⟨W.heap.size, 0, none⟩ : Addr).add j) = some u from fun j u hu => by
    rw [Addr.add_lit, cell_of_row _ W.heap.size (0 + j) OL.toArray 75 (0, 0) (heap_alloc_new W.drew _)]
    simpa using hu)
  have H1 := hid (show ∀ u ∈ OL, u.oneCell' = true from hOL ▸ opc_one _)
  have HBS := hid (show base ≤ (W.drew.alloc (.cells OL.toArray 75)).heap.size from Nat.le_trans (Nat.le_trans hbase (Nat.le_of_lt htl)) ((Below.refl W.heap.size W).drew.alloc (Nat.le_refl _) _).size)
  have HAP := hid HD.out.ap
  have HBK := hid (show ∀ w8, (W.drew.alloc (.cells OL.toArray 75)).grownBy w8 (Value.slice ao O.length oc).ownBlock → ∀ k, k < W.heap.size → some k ≠ (Value.slice ao O.length oc).ownBlock → w8.heap[k]? = W.heap[k]? from fun w8 hg k hk hne => (hg.block k (Nat.lt_of_lt_of_le hk ((Below.refl W.heap.size W).drew.alloc (Nat.le_refl _) _).size) hne).trans (((Below.refl W.heap.size W).drew.alloc (Nat.le_refl _) _).block k hk))
  have HNE := hid (show ∀ k, (k = d ∨ k = f ∨ k = s) → some k ≠ (Value.slice ao O.length oc).ownBlock from fun k hk e => by
    obtain ⟨a1, a2, a3⟩ := HAP.out k e.symm
    rcases hk with h | h | h
    · exact a1 h
    · exact a2 h
    · exact a3 h)
  go_region_law (refine step_append_own rfl (.tmp 15) (.tmp 17) 68 rfl base 75 j0 (.agg (opc (0, zer)).toArray) 129 136 Tryd.underlying68 hj0 hy0 hy1 hy2 rfl (by decide) (.slice ao O.length oc) O.length (O.flatMap opc) rfl HOW.out ⟨W.heap.size, 0, none⟩ 1 1 OL rfl hOl HNW.out H1.out hmx hdrop HBS.out ?_; intro v8 w8 hown8 hg8 _; obtain ⟨g8, c8, hv8, hb8, ht8⟩ := own_form hown8 (by omega); subst hv8; have q0 := HBK.out w8 hg8 d hdl (HNE.out d (.inl rfl)); have q1 := (World.cell?_of_block (a := ⟨d, 1, none⟩) q0).trans c1; have q2 := (World.cell?_of_block (a := ⟨d, 2, none⟩) q0).trans c2; have q3 := (World.frozen?_of_block (a := ⟨d, 1, none⟩) q0).trans c3)
  all_goals
    have HQ0 := hid q0
    have K8 := hid (fun k hk hne => HBK.out w8 hg8 k hk hne)
    have HO8 := hid hown8
    have B8 := hid (show Below base w w8 from (BW.out.drew.alloc (Nat.le_trans hbase (Nat.le_of_lt htl)) _).grown hg8 HBS.out (fun k hk => (World.ownsRow.lt HD.out.own k hk).1))
    clear q0 hown8 hg8 ht8
    go_wp2_with fail
    have gs := gb_setCell w8 ⟨d, 1, none⟩ (.slice (some ⟨g8, 0, none⟩) (O.length + 1) c8)
    have HGS := hid gs
    have kk : ∀ k, k < W.heap.size → some k ≠ (Value.slice ao O.length oc).ownBlock → k ≠ d → (w8.setCell ⟨d, 1, none⟩ (.slice (some ⟨g8, 0, none⟩) (O.length + 1) c8)).heap[k]? = W.heap[k]? := fun k h1 h2 h3 => (Below.heap_setCell _ _ _ _ h3).trans (K8.out k h1 h2)
    have hsl : s < W.heap.size := (Array.getElem?_eq_some_iff.1 HD.out.seen).1
    have hts : w.heap.size ≠ s := fun e => by have := hsw; omega
    have R9 : (w8.setCell ⟨d, 1, none⟩ (.slice (some ⟨g8, 0, none⟩) (O.length + 1) c8)).rangeAt w.heap.size 0 (opc ((n : Int), B)) := fun j v hv => (World.cell?_of_block (kk _ htl htown htd)).trans (HR.out j v (hOL ▸ hv))
    have F9 : HasFl (w8.setCell ⟨d, 1, none⟩ (.slice (some ⟨g8, 0, none⟩) (O.length + 1) c8)) := by
      obtain ⟨t, fr, hh⟩ := HF.out
      refine ⟨t, fr, (kk _ (Array.getElem?_eq_some_iff.1 hh).1 (fun e => ?_) (fun e => by have := HD.out.hd; omega)).trans hh⟩
      have := (World.ownsRow.lt HD.out.own _ e.symm).1
      omega
    have S9 := (kk s hsl (HNE.out s (.inr (.inr rfl))) (fun e => HD.out.ds e.symm)).trans HD.out.seen
    have HLay := hid (lay_write w.heap.size 0 s n S.length cap 128 B (bc S ++ tail) _ F9 R9 hB hts S9 hn HD.out.cp HD.out.cm (by simp [bc_length]) (by omega))
    clear gs kk R9 F9 S9
    refine HLay.out.mono ?_
    rintro e w10 ⟨rfl, h10, g10⟩
    rw [splice_bc S B tail n hB hn] at h10
    have HDK := hid (DK.after (o := ((n : Int), B)) HD.out hB (fun k hk => K8.out k (by
      rcases hk with rfl | rfl | rfl
      · exact hdl
      · exact (Array.getElem?_eq_some_iff.1 HD.out.first).1
      · exact hsl) (HNE.out k hk)) (hOL ▸ HO8.out) (length_splice S (n * 128) B (by omega)) h10 g10)
    have B10 := hid ((B8.out.setCell (p := ⟨d, 1, none⟩) HD.out.hd _).grown g10 (Nat.le_trans B8.out.size HGS.out.size |> Nat.le_trans hbase) (fun k hk => by cases hk; exact HD.out.hs))
    have KU10 := hid (show KU w w10 s from fun k cs fr hks hk => by
      have hkw : W.heap[k]? = some (.cells cs 5 fr) := (BWs.out.block k (Array.getElem?_eq_some_iff.1 hk).1).trans hk
      have hkd : k ≠ d := fun e => by rw [e, HD.out.disk] at hkw; cases hkw
      have hko : some k ≠ (Value.slice ao O.length oc).ownBlock := fun e => by
        obtain ⟨cur, hc⟩ := own_type HD.out.own e.symm
        rw [hc] at hkw
        cases hkw
      have h8 := (K8.out k (Array.getElem?_eq_some_iff.1 hkw).1 hko).trans hkw
      have h9 := (Below.heap_setCell w8 ⟨d, 1, none⟩ (.slice (some ⟨g8, 0, none⟩) (O.length + 1) c8) k hkd).trans h8
      exact (g10.block k (Array.getElem?_eq_some_iff.1 h9).1 (fun e => hks (Option.some.inj e))).trans h9)
    clear h10 g10 HLay
    go_wp2
    go_ret
    exact ⟨rfl, ⟨_, HDK.out⟩, B10.out, KU10.out⟩
set_option maxHeartbeats 4000000 in
theorem do_flush_k (base d f s cap : Nat) (tail : List Value) (F S : List UInt8) (dv : Value) (O : List Opn) (w : World) (hfl : HasFl w) (h : DK w base d f s cap tail F S dv O) (hO : O.length < 65536) (hbase : base ≤ w.heap.size) (hb0 : 0 < base) :
    Calls Tryd.prog 38 #[.pointer (some ⟨d, 0, none⟩), .agg (opc flO).toArray] w fun e w' => e = .returned (.int .i64 0) ∧ (∃ dv', DK w' base d f s cap tail F S dv' (O ++ [flO])) ∧ Below base w w' ∧ KU w w' s := by
  have hsw : s < w.heap.size := (Array.getElem?_eq_some_iff.1 h.seen).1
  have hdw : d < w.heap.size := (Array.getElem?_eq_some_iff.1 h.disk).1
  obtain ⟨ao, oc, rfl⟩ := h.form
  have hOI : ¬ (65536 : Int) ≤ (O.length : Int) := by omega
  have bA : Below w.heap.size w (w.alloc (.cells (opc flO).toArray 75)) := (Below.refl _ _).alloc (Nat.le_refl _) _
  have HD := hid (h.below bA)
  have HF := hid (hfl.below bA)
  have HR := hid (show (w.alloc (.cells (opc flO).toArray 75)).rangeAt w.heap.size 0 (opc flO) from fun j v hv => by
    rw [cell_of_row _ w.heap.size (0 + j) (opc flO).toArray _ (0, 0) (heap_alloc_new _ _)]
    simpa using hv)
  obtain ⟨W, hW⟩ : ∃ W, w.alloc (.cells (opc flO).toArray 75) = W := ⟨_, rfl⟩
  rw [hW] at HD HF HR
  obtain ⟨c0, c1, c2, c3⟩ := HD.out.cells
  have htown : some w.heap.size ≠ (Value.slice ao O.length oc).ownBlock := fun e => by
    have := (World.ownsRow.lt h.own w.heap.size e.symm).2
    omega
  clear h hfl
  have hdl : d < W.heap.size := (Array.getElem?_eq_some_iff.1 HD.out.disk).1
  have htl : w.heap.size < W.heap.size := by rw [← hW]; exact (Array.getElem?_eq_some_iff.1 (heap_alloc_new _ _)).1
  have htd : w.heap.size ≠ d := fun e => by have := hdw; omega
  have HT := hid (rdO_is (range_drewN HR.out 1) (opc_len (o := flO) rfl))
  have hT1 : OpThere W.drew w.heap.size 0 := HT.out.1
  have hT2 : rdO W.drew w.heap.size 0 = opc flO := HT.out.2
  have hOl : (opc flO).length = 129 := opc_len (o := flO) rfl
  obtain ⟨j0, hj0, hy0, hy1, hy2⟩ := info_parts opinfo
  have BW := hid (show Below base w W from hW ▸ bA.mono hbase)
  have BWs := hid (show Below w.heap.size w W from hW ▸ bA)
  generalize hOL : opc flO = OL at *
  go_enter Tryd.func38, Tryd.ntmps38
  go_wp2_with fail
  have hdrop : (O.length + 1) * 136 ≤ 140737488355328 := by omega
  have hmx : O.length + 1 ≤ maxLen := by unfold maxLen; omega
  have HDW := hid HD.out.disk
  have HOW := hid (show (W.drew.alloc (.cells OL.toArray 75)).ownsRow base 75 129 (.slice ao O.length oc) O.length (O.flatMap opc) from World.ownsRow.alloc HD.out.own _)
  have HNW := hid (show ∀ j u, OL[j]? = some u → (W.drew.alloc (.cells OL.toArray 75)).cell? ((⟨W.heap.size, 0, none⟩ : Addr).add j) = some u from fun j u hu => by
    rw [Addr.add_lit, cell_of_row _ W.heap.size (0 + j) OL.toArray 75 (0, 0) (heap_alloc_new W.drew _)]
    simpa using hu)
  have H1 := hid (show ∀ u ∈ OL, u.oneCell' = true from hOL ▸ opc_one _)
  have HBS := hid (show base ≤ (W.drew.alloc (.cells OL.toArray 75)).heap.size from Nat.le_trans (Nat.le_trans hbase (Nat.le_of_lt htl)) ((Below.refl W.heap.size W).drew.alloc (Nat.le_refl _) _).size)
  have HAP := hid HD.out.ap
  have HBK := hid (show ∀ w8, (W.drew.alloc (.cells OL.toArray 75)).grownBy w8 (Value.slice ao O.length oc).ownBlock → ∀ k, k < W.heap.size → some k ≠ (Value.slice ao O.length oc).ownBlock → w8.heap[k]? = W.heap[k]? from fun w8 hg k hk hne => (hg.block k (Nat.lt_of_lt_of_le hk ((Below.refl W.heap.size W).drew.alloc (Nat.le_refl _) _).size) hne).trans (((Below.refl W.heap.size W).drew.alloc (Nat.le_refl _) _).block k hk))
  have HNE := hid (show ∀ k, (k = d ∨ k = f ∨ k = s) → some k ≠ (Value.slice ao O.length oc).ownBlock from fun k hk e => by
    obtain ⟨a1, a2, a3⟩ := HAP.out k e.symm
    rcases hk with h | h | h
    · exact a1 h
    · exact a2 h
    · exact a3 h)
  go_region_law (refine step_append_own rfl (.tmp 15) (.tmp 17) 68 rfl base 75 j0 (.agg (opc (0, zer)).toArray) 129 136 Tryd.underlying68 hj0 hy0 hy1 hy2 rfl (by decide) (.slice ao O.length oc) O.length (O.flatMap opc) rfl HOW.out ⟨W.heap.size, 0, none⟩ 1 1 OL rfl hOl HNW.out H1.out hmx hdrop HBS.out ?_; intro v8 w8 hown8 hg8 _; obtain ⟨g8, c8, hv8, hb8, ht8⟩ := own_form hown8 (by omega); subst hv8; have q0 := HBK.out w8 hg8 d hdl (HNE.out d (.inl rfl)); have q1 := (World.cell?_of_block (a := ⟨d, 1, none⟩) q0).trans c1; have q2 := (World.cell?_of_block (a := ⟨d, 2, none⟩) q0).trans c2; have q3 := (World.frozen?_of_block (a := ⟨d, 1, none⟩) q0).trans c3)
  all_goals
    have HQ0 := hid q0
    have K8 := hid (fun k hk hne => HBK.out w8 hg8 k hk hne)
    have HO8 := hid hown8
    have B8 := hid (show Below base w w8 from (BW.out.drew.alloc (Nat.le_trans hbase (Nat.le_of_lt htl)) _).grown hg8 HBS.out (fun k hk => (World.ownsRow.lt HD.out.own k hk).1))
    clear q0 hown8 hg8 ht8
    go_wp2_with fail
    have gs := gb_setCell w8 ⟨d, 1, none⟩ (.slice (some ⟨g8, 0, none⟩) (O.length + 1) c8)
    have HGS := hid gs
    have kk : ∀ k, k < W.heap.size → some k ≠ (Value.slice ao O.length oc).ownBlock → k ≠ d → (w8.setCell ⟨d, 1, none⟩ (.slice (some ⟨g8, 0, none⟩) (O.length + 1) c8)).heap[k]? = W.heap[k]? := fun k h1 h2 h3 => (Below.heap_setCell _ _ _ _ h3).trans (K8.out k h1 h2)
    have hsl : s < W.heap.size := (Array.getElem?_eq_some_iff.1 HD.out.seen).1
    have hts : w.heap.size ≠ s := fun e => by have := hsw; omega
    have R9 : (w8.setCell ⟨d, 1, none⟩ (.slice (some ⟨g8, 0, none⟩) (O.length + 1) c8)).rangeAt w.heap.size 0 (opc flO) := fun j v hv => (World.cell?_of_block (kk _ htl htown htd)).trans (HR.out j v (hOL ▸ hv))
    have F9 : HasFl (w8.setCell ⟨d, 1, none⟩ (.slice (some ⟨g8, 0, none⟩) (O.length + 1) c8)) := by
      obtain ⟨t, fr, hh⟩ := HF.out
      refine ⟨t, fr, (kk _ (Array.getElem?_eq_some_iff.1 hh).1 (fun e => ?_) (fun e => by have := HD.out.hd; omega)).trans hh⟩
      have := (World.ownsRow.lt HD.out.own _ e.symm).1
      omega
    have S9 := (kk s hsl (HNE.out s (.inr (.inr rfl))) (fun e => HD.out.ds e.symm)).trans HD.out.seen
    have HLay := hid (lay_flush w.heap.size 0 (.slice (some ⟨s, 0, none⟩) S.length cap) 128 _ F9 R9)
    have HS9 := hid S9
    clear gs kk R9 F9 S9
    refine HLay.out.mono ?_
    rintro e w10 ⟨rfl, b10⟩
    have g10 := gb_of (row := some s) b10
    have h10 := (b10.block s (Array.getElem?_eq_some_iff.1 HS9.out).1).trans HS9.out
    have HDK := hid (DK.after (o := flO) HD.out rfl (fun k hk => K8.out k (by
      rcases hk with rfl | rfl | rfl
      · exact hdl
      · exact (Array.getElem?_eq_some_iff.1 HD.out.first).1
      · exact hsl) (HNE.out k hk)) (hOL ▸ HO8.out) rfl h10 g10)
    have B10 := hid ((B8.out.setCell (p := ⟨d, 1, none⟩) HD.out.hd _).grown g10 (Nat.le_trans B8.out.size HGS.out.size |> Nat.le_trans hbase) (fun k hk => by cases hk; exact HD.out.hs))
    have KU10 := hid (show KU w w10 s from fun k cs fr hks hk => by
      have hkw : W.heap[k]? = some (.cells cs 5 fr) := (BWs.out.block k (Array.getElem?_eq_some_iff.1 hk).1).trans hk
      have hkd : k ≠ d := fun e => by rw [e, HD.out.disk] at hkw; cases hkw
      have hko : some k ≠ (Value.slice ao O.length oc).ownBlock := fun e => by
        obtain ⟨cur, hc⟩ := own_type HD.out.own e.symm
        rw [hc] at hkw
        cases hkw
      have h8 := (K8.out k (Array.getElem?_eq_some_iff.1 hkw).1 hko).trans hkw
      have h9 := (Below.heap_setCell w8 ⟨d, 1, none⟩ (.slice (some ⟨g8, 0, none⟩) (O.length + 1) c8) k hkd).trans h8
      exact (g10.block k (Array.getElem?_eq_some_iff.1 h9).1 (fun e => hks (Option.some.inj e))).trans h9)
    clear h10 g10 HLay b10 HS9
    go_wp2
    go_ret
    exact ⟨rfl, ⟨_, HDK.out⟩, B10.out, KU10.out⟩
attribute [local go_sem ↓] storeVar_op
set_option maxHeartbeats 4000000 in
theorem write_k (base d f s cap n : Nat) (tail : List Value) (F S B : List UInt8) (dv pv : Value) (O : List Opn) (w : World) (hfl : HasFl w) (h : DK w base d f s cap tail F S dv O) (hO : O.length < 65536) (hp : Reads w pv B) (hB : B.length = 128) (hn : n < F.length / 128) (hFS : F.length = S.length) (hbase : base ≤ w.heap.size) (hb0 : 0 < base) :
    Calls Tryd.prog 17 #[.pointer (some ⟨d, 0, none⟩), .int .i64 (n : Int), pv] w fun e w' => e = .returned (.int .i64 0) ∧ (∃ dv', DK w' base d f s cap tail F (splice S (n * 128) B) dv' (O ++ [((n : Int), B)])) ∧ Below base w w' ∧ KU w w' s := by
  have HS := hid (has_any base d f s cap n tail F S dv O w h hn)
  obtain ⟨b, off, pc, rfl, hpc, hcell⟩ := hp.here (by omega)
  have hbe : ((B.length : Int) != 128) = false := by simp; omega
  have HD := hid h
  have HF := hid hfl
  have bA : ∀ o, Below w.heap.size w (w.alloc o) := fun o => (Below.refl _ _).alloc (Nat.le_refl _) o
  have HSrc := hid (fun o => Reads.src (w := w.alloc o) (b := b) (off := off) (l := B) (fun j hj => below_cells (bA o) _ _ (hcell j hj)))
  clear h hp hfl hcell
  go_enter Tryd.func17, Tryd.ntmps17
  go_wp2_with fail
  refine HS.out.mono ?_
  rintro e wz ⟨rfl, hwz⟩
  have hws := hwz.symm
  clear hwz HS
  subst hws
  have z1 := zero_op
  have z2 : opc (0, zer) ≠ [] := by simp [opc]
  have z3 : (opc (0, zer)).set 0 (.int .i64 (n : Int)) = opc ((n : Int), zer) := by simp [opc]
  have z4 := run_opStore (w := w) (c := opc (0, zer)) (K := opc ((n : Int), zer)) (opc_len rfl) (opc_len rfl) (opc_one _)
  have z5 := opc_len (o := ((n : Int), zer)) rfl
  have hcp : (Builtin.copy_ #[34, 34] 3 #[.slice (some ⟨w.heap.size, 1, none⟩) 128 128, .slice (some ⟨b, off, none⟩) 128 pc]).run Tryd.prog (w.alloc (.cells (opc ((n : Int), zer)).toArray 75)) = .ok (goInt 128) (w.alloc (.cells (opc ((n : Int), B)).toArray 75)) := by
    have hr := run_copy_row (P := Tryd.prog) (w.alloc (.cells (opc ((n : Int), zer)).toArray 75)) 34 34 3 5 w.heap.size 1 128 128 ⟨b, off, none⟩ 128 pc (opc ((n : Int), zer)).toArray 75 (bc B) Tryd.underlying34 u8_one (heap_alloc_new _ _) (by rw [bc_length, hB]; rfl) (HSrc.out _) (by rw [bc_length, hB]; simp [z5]) (bc_one B)
    rw [hr, World.setRow_alloc_new, bc_length, hB]
    have e1 : (opc ((n : Int), zer)).toArray.toList.take 1 = [.int .i64 (n : Int)] := by simp [opc]
    have e2 : (opc ((n : Int), zer)).toArray.toList.drop (1 + 128) = [] := List.drop_of_length_le (by simp [z5])
    rw [e1, e2, List.append_nil]
    rfl
  generalize opc (0, zer) = Z at *
  generalize hOZ : opc ((n : Int), zer) = OZ at *
  have hR := rdO_is (w := w.alloc (.cells (opc ((n : Int), B)).toArray 75)) (p := w.heap.size) (off := 0) (cs := opc ((n : Int), B)) (fun j v hv => by
    rw [cell_of_row _ w.heap.size (0 + j) (opc ((n : Int), B)).toArray _ (0, 0) (heap_alloc_new _ _)]
    simpa using hv) (opc_len hB)
  obtain ⟨hR1, hR2⟩ := hR
  have HDo := hid (do_write_k base d f s cap n tail F S B dv O _ (HF.out.below (bA (.cells (opc ((n : Int), B)).toArray 75))) (HD.out.below (bA _)) hO hB (by omega) (Nat.le_trans hbase (bA _).size) hb0)
  have BA := hid ((bA (.cells (opc ((n : Int), B)).toArray 75)).mono hbase)
  have BAs := hid (bA (.cells (opc ((n : Int), B)).toArray 75))
  clear bA
  go_wp2_with fail
  refine HDo.out.mono ?_
  rintro e w' ⟨rfl, hdk, hb, hku⟩
  have KU1 := hid (show KU w w' s from fun k cs fr hks hk => hku k cs fr hks ((BAs.out.block k (Array.getElem?_eq_some_iff.1 hk).1).trans hk))
  have H1 := hid hdk
  have B1 := hid (BA.out.trans hb)
  clear hdk hb hku
  go_wp2
  go_ret
  exact ⟨rfl, H1.out, B1.out, KU1.out⟩
set_option maxHeartbeats 4000000 in
theorem flush_k (base d f s cap : Nat) (tail : List Value) (F S : List UInt8) (dv : Value) (O : List Opn) (w : World) (hfl : HasFl w) (h : DK w base d f s cap tail F S dv O) (hO : O.length < 65536) (hbase : base ≤ w.heap.size) (hb0 : 0 < base) :
    Calls Tryd.prog 26 #[.pointer (some ⟨d, 0, none⟩)] w fun e w' => e = .returned (.int .i64 0) ∧ (∃ dv', DK w' base d f s cap tail F S dv' (O ++ [flO])) ∧ Below base w w' ∧ KU w w' s := by
  have hR := rdO_is (fl_range hfl) (opc_len (o := flO) rfl)
  obtain ⟨hR1, hR2⟩ := hR
  have HDo := hid (do_flush_k base d f s cap tail F S dv O w hfl h hO hbase hb0)
  clear h hfl
  generalize opc flO = FL at *
  go_enter Tryd.func26, Tryd.ntmps26
  go_wp2_with fail
  refine HDo.out.mono ?_
  rintro e w' ⟨rfl, hdk, hb, hku⟩
  have KU1 := hid hku
  have H1 := hid hdk
  have B1 := hid hb
  clear hdk hb hku
  go_wp2
  go_ret
  exact ⟨rfl, H1.out, B1.out, KU1.out⟩
end Go.Proofs.YtjaopckdhohpbaaDoor
