/-
  codec's forms with a writer: levels. Laid by mklv1.py, mkcw2.py Lv1.
-/
import Derived.Test.YtfhicemfhkhjaabRc1
namespace Go.Proofs.Ytfhicemfhkhjaab
open Go.RowKit
set_option maxRecDepth 100000

set_option maxHeartbeats 1000000 in
theorem wlevel_any (cb g off : Nat) (s : ByteArray) (n m : Int) (w : World) {wb most : Nat} {v : Value} {l : List UInt8} (h : WR w wb v l most) (hm : most ≤ 1000000000)
    (hcb : w.cell? ⟨cb, 0, none⟩ = some (iw wb)) (hcw : cb ≠ wb ∧ v.ownBlock ≠ some cb)
    (c0 : w.cell? ⟨g, off, none⟩ = some (.string s)) (c1 : w.cell? ⟨g, off + 1, none⟩ = some (.int .i64 n)) (c2 : w.cell? ⟨g, off + 2, none⟩ = some (.int .i64 m)) (hg : g ≠ wb ∧ v.ownBlock ≠ some g)
    (hs : s.size ≤ 1000000000000) (h0 : -9223372036854775808 ≤ n) (h1 : n ≤ 9223372036854775807) (h2 : -9223372036854775808 ≤ m) (h3 : m ≤ 9223372036854775807) :
    Calls Try.prog 92 #[.pointer (some ⟨g, off, none⟩), .pointer (some ⟨cb, 0, none⟩)] w fun e w' => Wp wb v l most (grp s.size ++ s.data.toList ++ grp (foldI n) ++ grp (foldI m)) (.returned (.tuple #[])) w e w' := by
  have hmf : ∀ (fn : Fn) (first cap : Array Value) (w : World), (Instr.makeFunc fn first cap).run Try.prog w = .ok (.func fn first cap) w := fun _ _ _ _ => rfl
  have HT := hid (fun n => wtext_any ⟨g, off, none⟩ s (w.drewN n) (most := most) (v := v) (l := l) (wb := wb) h hm c0 hs)
  have HCB := hid hcb
  have HCW := hid hcw
  have HG := hid hg
  have HC1 := hid c1
  have HC2 := hid c2
  have hna := na_text wb
  have hme := me_text
  clear h c0 c1 c2 hcw hg
  go_enter Try.func92, Try.ntmps92
  go_wp2_with fail
  refine wp_region_any (by kernel_rfl) ?_
  try (change wpAny _ _ _ _ _ _ _ (World.drew _))
  refine wpAny_take (i := 1) (v := .pointer (some ⟨g, off, none⟩)) rfl (by kernel_rfl) (by kernel_rfl) (by kernel_rfl) (fun _ _ _ h => h) (Or.inl ⟨by rfl, by intro w; go_simp⟩) ?_
  refine wpAny_take (i := 2) (v := .pointer (some ⟨g, off, none⟩)) rfl (by kernel_rfl) (by kernel_rfl) (by kernel_rfl) (fun _ _ _ h => h) (Or.inl ⟨by rfl, by intro w; go_simp⟩) ?_
  refine wpAny_take (i := 3) (v := .pointer (some ⟨g, off, none⟩)) rfl (by kernel_rfl) (by kernel_rfl) (by kernel_rfl) (fun _ _ _ h => h) (Or.inl ⟨by rfl, by intro w; go_simp⟩) ?_
  refine wpAny_ready (rs := [0]) (by kernel_rfl) (by simp) ?_
  refine AllReady.cons rfl (fun K hK => ?_) AllReady.nil
  go_simp
  refine hK _ _ ?_
  clear hK K
  refine wpAny_ready (rs := [4]) (by kernel_rfl) (by simp) ?_
  refine AllReady.cons rfl (fun K hK => ?_) AllReady.nil
  go_simp
  refine hK _ _ ?_
  clear hK K
  refine wpAny_take (i := 5) (v := .func (.method "larder/codec.text") #[iw wb] #[]) rfl (by kernel_rfl) (by kernel_rfl) (by kernel_rfl) (fun _ _ _ h => h) (Or.inl ⟨by rfl, by intro w; go_simp⟩) ?_
  refine wpAny_take (i := 6) (v := iw wb) rfl (by kernel_rfl) (by kernel_rfl) (by kernel_rfl) (fun _ _ _ h => h) (Or.inl ⟨by rfl, by intro w; go_simp⟩) ?_
  refine wpAny_ready (rs := [7]) (by kernel_rfl) (by simp) ?_
  refine AllReady.cons rfl (fun K hK => ?_) AllReady.nil
  go_simp
  go_wp2_with fail
  refine (HT.out _).mono ?_
  rintro e w2 ⟨v2, hs2, ⟨hf2, rfl, hr2⟩ | ⟨hf2, rfl⟩⟩
  · go_wp2_with fail
    refine wpAny_done (by kernel_rfl) ?_ _
    have HS2 := hid ((WS.drewN wb v w 1).trans hs2)
    have hcb2 := Wp.cell hs2 cb 0 _ HCB.out HCW.out.1 HCW.out.2
    have hcw2 : cb ≠ wb ∧ v2.ownBlock ≠ some cb := ⟨HCW.out.1, fun e => by
      rcases hs2.own cb e with e | e
      · exact HCW.out.2 e
      · have := World.block_lt_of_cell? _ _ HCB.out
        have e : w.heap.size ≤ cb := e
        simp at this
        omega⟩
    have c12 := Wp.cell hs2 g (off + 1) _ HC1.out HG.out.1 HG.out.2
    have HC22 := hid (Wp.cell hs2 g (off + 2) _ HC2.out HG.out.1 HG.out.2)
    have HG2 := hid (show g ≠ wb ∧ v2.ownBlock ≠ some g from ⟨HG.out.1, fun e => by
      rcases hs2.own g e with e | e
      · exact HG.out.2 e
      · have := World.block_lt_of_cell? _ _ HC1.out
        have e : w.heap.size ≤ g := e
        simp at this
        omega⟩)
    have HCB2 := hid hcb2
    have HCW2 := hid hcw2
    have HT2 := hid (fun q => wwhole_any ⟨g, off + 1, none⟩ n (w2.drewN q) (most := most) (v := v2) (wb := wb) hr2 hm c12 h0 h1)
    have hna := na_whole wb
    have hme := me_whole
    have HF := hid hf2
    clear hs2 hr2 HT hf2
    clear hcb
    go_wp2_with fail
    refine wp_region_any (by kernel_rfl) ?_
    try (change wpAny _ _ _ _ _ _ _ (World.drew _))
    refine wpAny_take (i := 1) (v := .pointer (some ⟨g, off, none⟩)) rfl (by kernel_rfl) (by kernel_rfl) (by kernel_rfl) (fun _ _ _ h => h) (Or.inl ⟨by rfl, by intro w; go_simp⟩) ?_
    refine wpAny_take (i := 2) (v := .pointer (some ⟨g, off, none⟩)) rfl (by kernel_rfl) (by kernel_rfl) (by kernel_rfl) (fun _ _ _ h => h) (Or.inl ⟨by rfl, by intro w; go_simp⟩) ?_
    refine wpAny_take (i := 3) (v := .pointer (some ⟨g, off + 1, none⟩)) rfl (by kernel_rfl) (by kernel_rfl) (by kernel_rfl) (fun _ _ _ h => h) (Or.inl ⟨by rfl, by intro w; go_simp⟩) ?_
    refine wpAny_ready (rs := [0]) (by kernel_rfl) (by simp) ?_
    refine AllReady.cons rfl (fun K hK => ?_) AllReady.nil
    go_simp
    refine hK _ _ ?_
    clear hK K
    refine wpAny_ready (rs := [4]) (by kernel_rfl) (by simp) ?_
    refine AllReady.cons rfl (fun K hK => ?_) AllReady.nil
    go_simp
    refine hK _ _ ?_
    clear hK K
    refine wpAny_take (i := 5) (v := .func (.method "larder/codec.whole") #[iw wb] #[]) rfl (by kernel_rfl) (by kernel_rfl) (by kernel_rfl) (fun _ _ _ h => h) (Or.inl ⟨by rfl, by intro w; go_simp⟩) ?_
    refine wpAny_take (i := 6) (v := iw wb) rfl (by kernel_rfl) (by kernel_rfl) (by kernel_rfl) (fun _ _ _ h => h) (Or.inl ⟨by rfl, by intro w; go_simp⟩) ?_
    refine wpAny_ready (rs := [7]) (by kernel_rfl) (by simp) ?_
    refine AllReady.cons rfl (fun K hK => ?_) AllReady.nil
    go_simp
    go_wp2_with fail
    refine (HT2.out _).mono ?_
    rintro e w3 ⟨v3, hs3, ⟨hf3, rfl, hr3⟩ | ⟨hf3, rfl⟩⟩
    · go_wp2_with fail
      refine wpAny_done (by kernel_rfl) ?_ _
      have HS3 := hid (HS2.out.trans ((WS.drewN wb v2 w2 1).trans hs3))
      have hcb3 := Wp.cell hs3 cb 0 _ HCB2.out HCW2.out.1 HCW2.out.2
      have c23 := Wp.cell hs3 g (off + 2) _ HC22.out HG2.out.1 HG2.out.2
      have HT3 := hid (fun q => wwhole_any ⟨g, off + 2, none⟩ m (w3.drewN q) (most := most) (v := v3) (wb := wb) hr3 hm c23 h2 h3)
      have HF3 := hid hf3
      clear hs3 hr3 HT2 hf3 hcb2
      go_wp2_with fail
      refine wp_region_any (by kernel_rfl) ?_
      try (change wpAny _ _ _ _ _ _ _ (World.drew _))
      refine wpAny_take (i := 1) (v := .pointer (some ⟨g, off, none⟩)) rfl (by kernel_rfl) (by kernel_rfl) (by kernel_rfl) (fun _ _ _ h => h) (Or.inl ⟨by rfl, by intro w; go_simp⟩) ?_
      refine wpAny_take (i := 2) (v := .pointer (some ⟨g, off, none⟩)) rfl (by kernel_rfl) (by kernel_rfl) (by kernel_rfl) (fun _ _ _ h => h) (Or.inl ⟨by rfl, by intro w; go_simp⟩) ?_
      refine wpAny_take (i := 3) (v := .pointer (some ⟨g, off + 2, none⟩)) rfl (by kernel_rfl) (by kernel_rfl) (by kernel_rfl) (fun _ _ _ h => h) (Or.inl ⟨by rfl, by intro w; go_simp⟩) ?_
      refine wpAny_ready (rs := [0]) (by kernel_rfl) (by simp) ?_
      refine AllReady.cons rfl (fun K hK => ?_) AllReady.nil
      go_simp
      refine hK _ _ ?_
      clear hK K
      refine wpAny_ready (rs := [4]) (by kernel_rfl) (by simp) ?_
      refine AllReady.cons rfl (fun K hK => ?_) AllReady.nil
      go_simp
      refine hK _ _ ?_
      clear hK K
      refine wpAny_take (i := 5) (v := .func (.method "larder/codec.whole") #[iw wb] #[]) rfl (by kernel_rfl) (by kernel_rfl) (by kernel_rfl) (fun _ _ _ h => h) (Or.inl ⟨by rfl, by intro w; go_simp⟩) ?_
      refine wpAny_take (i := 6) (v := iw wb) rfl (by kernel_rfl) (by kernel_rfl) (by kernel_rfl) (fun _ _ _ h => h) (Or.inl ⟨by rfl, by intro w; go_simp⟩) ?_
      refine wpAny_ready (rs := [7]) (by kernel_rfl) (by simp) ?_
      refine AllReady.cons rfl (fun K hK => ?_) AllReady.nil
      go_simp
      go_wp2_with fail
      refine (HT3.out _).mono ?_
      rintro e w4 ⟨v4, hs4, ⟨hf4, rfl, hr4⟩ | ⟨hf4, rfl⟩⟩
      · go_wp2_with fail
        refine wpAny_done (by kernel_rfl) ?_ _
        go_wp2_with fail
        go_end0
        refine ⟨v4, HS3.out.trans ((WS.drewN wb v3 w3 1).trans hs4), .inl ⟨?_, rfl, ?_⟩⟩
        · simp only [List.length_append] at hf4 ⊢; omega
        · simp only [List.append_assoc] at hr4 ⊢; exact hr4
      · go_wp2_with fail
        refine ⟨rfl, v4, HS3.out.trans ((WS.drewN wb v3 w3 1).trans hs4), .inr ⟨?_, rfl⟩⟩
        simp only [List.length_append] at hf4 ⊢; omega
    · go_wp2_with fail
      refine ⟨rfl, v3, HS2.out.trans ((WS.drewN wb v2 w2 1).trans hs3), .inr ⟨?_, rfl⟩⟩
      simp only [List.length_append] at hf3 ⊢; omega
  · go_wp2_with fail
    refine ⟨rfl, v2, (WS.drewN _ _ _ _).trans hs2, .inr ⟨?_, rfl⟩⟩
    simp only [List.length_append] at *
    omega
/-- a level: its code, on hand, held -/
abbrev Lv := ByteArray × Int × Int
def lv1 (x : Lv) : List UInt8 := grp x.1.size ++ x.1.data.toList ++ grp (foldI x.2.1) ++ grp (foldI x.2.2)
/-- levels as bytes -/
def lvB (L : List Lv) : List UInt8 := L.flatMap lv1
theorem lvB_succ (L : List Lv) (j : Nat) (h : j < L.length) : lvB (L.take (j + 1)) = lvB (L.take j) ++ lv1 L[j] := by
  unfold lvB
  rw [List.take_add_one, List.getElem?_eq_getElem h, List.flatMap_append]
  simp
theorem lvB_le (L : List Lv) (j : Nat) : (lvB (L.take j)).length ≤ (lvB L).length := by
  conv => rhs; rw [← List.take_append_drop j L]
  unfold lvB
  rw [List.flatMap_append, List.length_append]
  omega
/-- a list of levels that lies ahead of block B -/
def LV (w : World) (B : Nat) (ao : Option Addr) (L : List Lv) : Prop := ∀ i (h : i < L.length), (L[i].1.size ≤ 1000000000000 ∧ (-9223372036854775808 ≤ L[i].2.1 ∧ L[i].2.1 ≤ 9223372036854775807) ∧ -9223372036854775808 ≤ L[i].2.2 ∧ L[i].2.2 ≤ 9223372036854775807) ∧ ∃ g off, ao = some ⟨g, off, none⟩ ∧ g < B ∧ w.cell? ⟨g, off + i * 3, none⟩ = some (.string L[i].1) ∧ w.cell? ⟨g, off + i * 3 + 1, none⟩ = some (.int .i64 L[i].2.1) ∧ w.cell? ⟨g, off + i * 3 + 2, none⟩ = some (.int .i64 L[i].2.2)
theorem LV.old {wb most : Nat} {v v' : Value} {l : List UInt8} {w w' : World} {ao : Option Addr} {L : List Lv} (hL : LV w wb ao L) (h : WS wb v w v' w') (hr : WR w wb v l most) : LV w' wb ao L := fun i hi => by
  obtain ⟨hb, g, off, ha, hg, c0, c1, c2⟩ := hL i hi
  exact ⟨hb, g, off, ha, hg, h.old hr _ _ _ c0 hg, h.old hr _ _ _ c1 hg, h.old hr _ _ _ c2 hg⟩
set_option maxHeartbeats 1000000 in
theorem wlvlist_any (pg po cb cap : Nat) (ao : Option Addr) (L : List Lv) (w : World) {wb most : Nat} {v : Value} {l : List UInt8} (h : WR w wb v l most) (hm : most ≤ 1000000000)
    (hcb : w.cell? ⟨cb, 0, none⟩ = some (iw wb)) (hcw : cb ≠ wb ∧ v.ownBlock ≠ some cb)
    (hp : w.cell? ⟨pg, po, none⟩ = some (.slice ao L.length cap)) (hpg : pg < wb) (hn : L.length ≤ 9223372036854775807) (hL : LV w wb ao L) :
    Calls Try.prog 91 #[iw wb, .pointer (some ⟨pg, po, none⟩), .func (.func 92) #[] #[.pointer (some ⟨cb, 0, none⟩)]] w fun e w' => Wp wb v l most (grp L.length ++ lvB L) (.returned (.tuple #[])) w e w' := by
  have hmf : ∀ (fn : Fn) (first cap : Array Value) (w : World), (Instr.makeFunc fn first cap).run Try.prog w = .ok (.func fn first cap) w := fun _ _ _ _ => rfl
  have HC := hid (fun q => wcount_any L.length (w.drewN q) (most := most) (v := v) (l := l) (wb := wb) h hm hn)
  have H := hid h
  have HCB := hid hcb
  have HCW := hid hcw
  have HP := hid hp
  have HL := hid hL
  have hna := na_count wb
  have hme := me_count
  clear h hcw hL hcb
  go_enter Try.func91, Try.ntmps91
  go_wp2_with fail
  refine wp_region_any (by kernel_rfl) ?_
  try (change wpAny _ _ _ _ _ _ _ (World.drew _))
  refine wpAny_take (i := 0) (v := iw wb) rfl (by kernel_rfl) (by kernel_rfl) (by kernel_rfl) (fun _ _ _ h => h) (Or.inl ⟨by rfl, by intro w; go_simp⟩) ?_
  refine wpAny_take (i := 1) (v := .pointer (some ⟨pg, po, none⟩)) rfl (by kernel_rfl) (by kernel_rfl) (by kernel_rfl) (fun _ _ _ h => h) (Or.inl ⟨by rfl, by intro w; go_simp⟩) ?_
  refine wpAny_take (i := 2) (v := .pointer (some ⟨pg, po, none⟩)) rfl (by kernel_rfl) (by kernel_rfl) (by kernel_rfl) (fun _ _ _ h => h) (Or.inl ⟨by rfl, by intro w; go_simp⟩) ?_
  refine wpAny_take (i := 9) (v := .int .i64 0) rfl (by kernel_rfl) (by kernel_rfl) (by kernel_rfl) (fun _ _ _ h => h) (Or.inl ⟨by rfl, by intro w; go_simp⟩) ?_
  refine wpAny_take (i := 5) (v := .func (.method "larder/codec.count") #[iw wb] #[]) rfl (by kernel_rfl) (by kernel_rfl) (by kernel_rfl) (fun _ _ _ h => h) (Or.inl ⟨by rfl, by intro w; go_simp⟩) ?_
  refine wpAny_take (i := 6) (v := .func (.method "larder/codec.count") #[iw wb] #[]) rfl (by kernel_rfl) (by kernel_rfl) (by kernel_rfl) (fun _ _ _ h => h) (Or.inl ⟨by rfl, by intro w; go_simp⟩) ?_
  refine wpAny_take (i := 7) (v := iw wb) rfl (by kernel_rfl) (by kernel_rfl) (by kernel_rfl) (fun _ _ _ h => h) (Or.inl ⟨by rfl, by intro w; go_simp⟩) ?_
  refine wpAny_ready (rs := [3]) (by kernel_rfl) (by simp) ?_
  refine AllReady.cons rfl (fun K hK => ?_) AllReady.nil
  go_simp
  refine hK _ _ ?_
  clear hK K
  refine wpAny_take (i := 4) (v := .int .i64 (L.length : Int)) rfl (by kernel_rfl) (by kernel_rfl) (by kernel_rfl) (fun _ _ _ h => h) (Or.inl ⟨by rfl, by intro w; go_simp⟩) ?_
  refine wpAny_ready (rs := [8]) (by kernel_rfl) (by simp) ?_
  refine AllReady.cons rfl (fun K hK => ?_) AllReady.nil
  go_simp
  go_wp2_with fail
  refine (HC.out _).mono ?_
  rintro e w2 ⟨v2, hs2, ⟨hf2, rfl, hr2⟩ | ⟨hf2, rfl⟩⟩
  · go_wp2_with fail
    refine wpAny_done (by kernel_rfl) ?_ _
    have HS2 := hid ((WS.drewN wb v w 1).trans hs2)
    have HR2 := hid hr2
    have hw0 := World.block_lt_of_cell? _ _ HCB.out
    clear hs2 hr2 HC hp
    go_wp2_with fail
    go_loopw [6, 17] (fun _ vi wx => ∃ (j : Nat) (v' : Value), j ≤ L.length ∧ vi = .int .i64 (j : Int) ∧ WS wb v w v' wx ∧ WR wx wb v' (l ++ (grp L.length ++ lvB (L.take j))) most ∧ l.length + (grp L.length ++ lvB (L.take j)).length ≤ most) (fun _ vi _ => L.length - (intOf vi).toNat)
    case atStart => exact ⟨0, v2, Nat.zero_le _, rfl, HS2.out, by simpa [lvB] using HR2.out, by simpa [lvB] using hf2⟩
    case round =>
      obtain ⟨j, v', hj, rfl, hs, hr, hfj⟩ := hrel
      have HS := hid hs
      have HR := hid hr
      clear HS2 HR2
      by_cases hlt : j < L.length
      · have hI : (j : Int) < (L.length : Int) := by omega
        have hIb : ((j : Int) == (L.length : Int)) = false := by simp; omega
        have hp := hs.old H.out pg po _ HP.out hpg
        have hcb := Wp.cell hs cb 0 _ HCB.out HCW.out.1 HCW.out.2
        have hcw : cb ≠ wb ∧ v'.ownBlock ≠ some cb := ⟨HCW.out.1, fun e => by
          rcases hs.own cb e with e | e
          · exact HCW.out.2 e
          · omega⟩
        obtain ⟨⟨b1, ⟨b2, b3⟩, b4, b5⟩, g, off, hao, hg, c0, c1, c2⟩ := HL.out j hlt
        subst hao
        have c0 := hs.old H.out _ _ _ c0 hg
        have c1 := hs.old H.out _ _ _ c1 hg
        have c2 := hs.old H.out _ _ _ c2 hg
        have HLn := hid (lvB_succ L j hlt)
        have HEl := hid (wlevel_any cb g (off + j * 3) L[j].1 L[j].2.1 L[j].2.2 wr hr hm hcb hcw c0 c1 c2 ⟨by omega, fun e => by have := hr.2.block_ge g e; omega⟩ b1 b2 b3 b4 b5)
        clear hs hr c0 c1 c2 hcb hcw b1 b2 b3 b4 b5
        go_wp2_with fail
        refine Calls.mono HEl.out ?_
        rintro e w3 ⟨v3, hs3, ⟨hf3, rfl, hr3⟩ | ⟨hf3, rfl⟩⟩
        · go_wp2_with fail
          go_roundw
          case rel =>
            have h2 : (lv1 L[j]).length = (grp L[j].1.size ++ L[j].1.data.toList ++ grp (foldI L[j].2.1) ++ grp (foldI L[j].2.2)).length := rfl
            refine ⟨j + 1, v3, by omega, by go_num, HS.out.trans hs3, ?_, ?_⟩
            · rw [HLn.out, ← List.append_assoc, ← List.append_assoc, List.append_assoc l]
              exact hr3
            · rw [HLn.out]
              simp only [List.length_append] at *
              omega
          case measure => simp [intOf]; omega
        · go_wp2_with fail
          refine ⟨rfl, v3, HS.out.trans hs3, .inr ⟨?_, rfl⟩⟩
          have h1 := lvB_le L (j + 1)
          have h2 : (lv1 L[j]).length = (grp L[j].1.size ++ L[j].1.data.toList ++ grp (foldI L[j].2.1) ++ grp (foldI L[j].2.2)).length := rfl
          rw [HLn.out] at h1
          simp only [List.length_append] at *
          omega
      · have hI : ¬ (j : Int) < (L.length : Int) := by omega
        obtain rfl : j = L.length := by omega
        have HF := hid (show WR wr wb v' (l ++ (grp L.length ++ lvB L)) most by have := HR.out; rwa [List.take_length] at this)
        have hfit : l.length + (grp L.length ++ lvB L).length ≤ most := by
          rw [List.take_length] at hfj
          exact hfj
        clear hs hr
        go_wp2_with fail
        go_end0
        exact ⟨v', HS.out, .inl ⟨hfit, rfl, HF.out⟩⟩
  · go_wp2_with fail
    refine ⟨rfl, v2, (WS.drewN _ _ _ _).trans hs2, .inr ⟨?_, rfl⟩⟩
    rw [List.length_append]
    omega
set_option maxHeartbeats 1000000 in
theorem wlevels_any (pg po cap : Nat) (ao : Option Addr) (L : List Lv) (w : World) {wb most : Nat} {v : Value} {l : List UInt8} (h : WR w wb v l most) (hm : most ≤ 1000000000)
    (hp : w.cell? ⟨pg, po, none⟩ = some (.slice ao L.length cap)) (hpg : pg < wb) (hn : L.length ≤ 9223372036854775807) (hL : LV w wb ao L) :
    Calls Try.prog 73 #[iw wb, .pointer (some ⟨pg, po, none⟩)] w fun e w' => Wp wb v l most (grp L.length ++ lvB L) (.returned (.tuple #[])) w e w' := by
  have hmf : ∀ (fn : Fn) (first cap : Array Value) (w : World), (Instr.makeFunc fn first cap).run Try.prog w = .ok (.func fn first cap) w := fun _ _ _ _ => rfl
  obtain ⟨W, hW⟩ : ∃ W, w.alloc (.cells #[iw wb] 129) = W := ⟨_, rfl⟩
  have hB : Below w.heap.size w W := by rw [← hW]; exact (Below.refl _ _).alloc (Nat.le_refl _) _
  have HWS := hid (WS.below (wb := wb) (v := v) hB)
  have hcb : W.cell? ⟨w.heap.size, 0, none⟩ = some (iw wb) := by rw [← hW, cell_of_row _ _ _ _ _ _ (heap_alloc_new w _)]; rfl
  have HLi := hid (wlvlist_any pg po w.heap.size cap ao L W (h.later hB) hm hcb h.box (HWS.out.old h _ _ _ hp hpg) hpg hn (hL.old HWS.out h))
  clear h hB hp hL
  go_enter Try.func73, Try.ntmps73
  go_wp2_with fail
  try rw [hW]
  refine Calls.mono HLi.out ?_
  rintro e w2 ⟨v', hs, ⟨hf, rfl, hr⟩ | ⟨hf, rfl⟩⟩
  · go_wp2_with fail
    go_end0
    exact ⟨v', HWS.out.trans hs, .inl ⟨hf, rfl, hr⟩⟩
  · go_wp2_with fail
    exact ⟨rfl, v', HWS.out.trans hs, .inr ⟨hf, rfl⟩⟩
end Go.Proofs.Ytfhicemfhkhjaab
