/-
  codec's forms with a writer: a state's holds and what is done. Laid by mkst1.py, mkcw2.py St1.
-/
import Derived.Test.YtfhicemfhkhjaabLv1
namespace Go.Proofs.Ytfhicemfhkhjaab
open Go.RowKit
set_option maxRecDepth 100000

/-- a hold -/
structure Hl where
  id : ByteArray
  lines : List Ln
  dead : Int
/-- something done -/
structure Dn where
  req : Rq
  at' : Int
def hl1 (x : Hl) : List UInt8 := txB x.id ++ ((grp x.lines.length ++ lnB x.lines) ++ grp (foldI x.dead))
def dn1 (x : Dn) : List UInt8 := rqB x.req ++ grp (foldI x.at')
def hlB (L : List Hl) : List UInt8 := L.flatMap hl1
def dnB (L : List Dn) : List UInt8 := L.flatMap dn1
theorem hlB_succ (L : List Hl) (j : Nat) (h : j < L.length) : hlB (L.take (j + 1)) = hlB (L.take j) ++ hl1 L[j] := by
  unfold hlB
  rw [List.take_add_one, List.getElem?_eq_getElem h, List.flatMap_append]
  simp
theorem hlB_le (L : List Hl) (j : Nat) : (hlB (L.take j)).length ≤ (hlB L).length := by
  conv => rhs; rw [← List.take_append_drop j L]
  unfold hlB
  rw [List.flatMap_append, List.length_append]
  omega
theorem dnB_succ (L : List Dn) (j : Nat) (h : j < L.length) : dnB (L.take (j + 1)) = dnB (L.take j) ++ dn1 L[j] := by
  unfold dnB
  rw [List.take_add_one, List.getElem?_eq_getElem h, List.flatMap_append]
  simp
theorem dnB_le (L : List Dn) (j : Nat) : (dnB (L.take j)).length ≤ (dnB L).length := by
  conv => rhs; rw [← List.take_append_drop j L]
  unfold dnB
  rw [List.flatMap_append, List.length_append]
  omega
/-- a hold in memory, ahead of block B -/
structure HlM (w : World) (B g off : Nat) (x : Hl) : Prop where
  ahead : g < B
  c0 : w.cell? ⟨g, off, none⟩ = some (.string x.id)
  c1 : ∃ ao cap, w.cell? ⟨g, off + 1, none⟩ = some (.slice ao x.lines.length cap) ∧ LL w B ao x.lines
  c2 : w.cell? ⟨g, off + 2, none⟩ = some (.int .i64 x.dead)
  b0 : x.id.size ≤ 1000000000000 ∧ x.lines.length ≤ 9223372036854775807
  b1 : -9223372036854775808 ≤ x.dead ∧ x.dead ≤ 9223372036854775807
/-- something done in memory, ahead of block B -/
structure DnM (w : World) (B g off : Nat) (x : Dn) : Prop where
  r : RqM w B g off x.req
  c6 : w.cell? ⟨g, off + 6, none⟩ = some (.int .i64 x.at')
  b4 : -9223372036854775808 ≤ x.at' ∧ x.at' ≤ 9223372036854775807
theorem HlM.old {wb most g off : Nat} {v v' : Value} {l : List UInt8} {w w' : World} {x : Hl} (h : HlM w wb g off x) (k : WS wb v w v' w') (hr : WR w wb v l most) : HlM w' wb g off x := by
  obtain ⟨ao, cap, e1, e2⟩ := h.c1
  exact ⟨h.ahead, k.old hr _ _ _ h.c0 h.ahead, ⟨ao, cap, k.old hr _ _ _ e1 h.ahead, e2.old k hr⟩, k.old hr _ _ _ h.c2 h.ahead, h.b0, h.b1⟩
theorem DnM.old {wb most g off : Nat} {v v' : Value} {l : List UInt8} {w w' : World} {x : Dn} (h : DnM w wb g off x) (k : WS wb v w v' w') (hr : WR w wb v l most) : DnM w' wb g off x :=
  ⟨h.r.old k hr, k.old hr _ _ _ h.c6 h.r.ahead, h.b4⟩
/-- holds, what is done, in memory -/
def HLs (w : World) (B : Nat) (ao : Option Addr) (L : List Hl) : Prop := ∀ i (h : i < L.length), ∃ g off, ao = some ⟨g, off, none⟩ ∧ HlM w B g (off + i * 3) L[i]
def DLs (w : World) (B : Nat) (ao : Option Addr) (L : List Dn) : Prop := ∀ i (h : i < L.length), ∃ g off, ao = some ⟨g, off, none⟩ ∧ DnM w B g (off + i * 7) L[i]
set_option maxHeartbeats 2000000 in
theorem wheld_any (cb g off : Nat) (x : Hl) (w : World) {wb most : Nat} {v : Value} {l : List UInt8} (h : WR w wb v l most) (hm : most ≤ 1000000000)
    (hcb : w.cell? ⟨cb, 0, none⟩ = some (iw wb)) (hcw : cb ≠ wb ∧ v.ownBlock ≠ some cb) (m : HlM w wb g off x) :
    Calls Try.prog 75 #[.pointer (some ⟨g, off, none⟩), .pointer (some ⟨cb, 0, none⟩)] w fun e w' => Wp wb v l most (hl1 x) (.returned (.tuple #[])) w e w' := by
  have hmf : ∀ (fn : Fn) (first cap : Array Value) (w : World), (Instr.makeFunc fn first cap).run Try.prog w = .ok (.func fn first cap) w := fun _ _ _ _ => rfl
  have HS0 := hid (WS.refl wb v w)
  have HR0 := hid h
  have HM0 := hid m
  have HCB0 := hid hcb
  have HCW0 := hid hcw
  clear h m hcb hcw
  go_enter Try.func75, Try.ntmps75
  unfold hl1
  have hcb := HCB0.out
  have HC := hid (fun q => wtext_any ⟨g, off, none⟩ x.id (w.drewN q) (most := most) (v := v) (wb := wb) HR0.out hm HM0.out.c0 HM0.out.b0.1)
  have hna := na_text wb
  have hme := me_text
  go_wp2_with fail
  refine wp_region_any (by kernel_rfl) ?_
  try (change wpAny _ _ _ _ _ _ _ (World.drew _))
  refine wpAny_take (i := 1) (v := .pointer (some ⟨g, off, none⟩)) rfl (by kernel_rfl) (by kernel_rfl) (by kernel_rfl) (fun _ _ _ h => h) (Or.inl ⟨by rfl, by intro w; go_simp⟩) ?_
  refine wpAny_take (i := 2) (v := .pointer (some ⟨g, off, none⟩)) rfl (by kernel_rfl) (by kernel_rfl) (by kernel_rfl) (fun _ _ _ h => h) (Or.inl ⟨by rfl, by intro w; go_simp⟩) ?_
  refine wpAny_take (i := 3) (v := .pointer (some ⟨g, off, none⟩)) rfl (by kernel_rfl) (by kernel_rfl) (by kernel_rfl) (fun _ _ _ h => h) (Or.inl ⟨by rfl, by intro w; go_simp⟩) ?_
  refine wpAny_ready (rs := [0]) (by kernel_rfl) (by simp) ?_
  refine AllReady.cons rfl (fun K hK => ?_) AllReady.nil
  go_simp
  refine hK _ _ ?_
  clear hK K
  refine wpAny_ready (rs := [4]) (by kernel_rfl) (by simp) ?_
  refine AllReady.cons rfl (fun K hK => ?_) AllReady.nil
  go_simp
  refine hK _ _ ?_
  clear hK K
  refine wpAny_take (i := 5) (v := .func (.method "larder/codec.text") #[iw wb] #[]) rfl (by kernel_rfl) (by kernel_rfl) (by kernel_rfl) (fun _ _ _ h => h) (Or.inl ⟨by rfl, by intro w; go_simp⟩) ?_
  refine wpAny_take (i := 6) (v := iw wb) rfl (by kernel_rfl) (by kernel_rfl) (by kernel_rfl) (fun _ _ _ h => h) (Or.inl ⟨by rfl, by intro w; go_simp⟩) ?_
  refine wpAny_ready (rs := [7]) (by kernel_rfl) (by simp) ?_
  refine AllReady.cons rfl (fun K hK => ?_) AllReady.nil
  go_simp
  go_wp2_with fail
  refine (HC.out _).mono ?_
  rintro e w1 ⟨v1, hs, ⟨hf1, rfl, hr⟩ | ⟨hf, rfl⟩⟩
  rotate_left
  · go_wp2_with fail
    refine ⟨rfl, v1, HS0.out.trans ((WS.drewN wb v w 1).trans hs), .inr ⟨?_, rfl⟩⟩
    unfold txB at *
    simp only [List.length_append] at *
    omega
  go_wp2_with fail
  refine wpAny_done (by kernel_rfl) ?_ _
  have HS1 := hid (HS0.out.trans ((WS.drewN wb v w 1).trans hs))
  have HR1 := hid hr
  have HM1 := hid (HM0.out.old ((WS.drewN wb v w 1).trans hs) HR0.out)
  have hw0 : cb < w.heap.size := World.block_lt_of_cell? _ _ HCB0.out
  have HCB1 := hid (Wp.cell hs cb 0 _ HCB0.out HCW0.out.1 HCW0.out.2)
  have HCW1 := hid (show cb ≠ wb ∧ v1.ownBlock ≠ some cb from ⟨HCW0.out.1, fun e => by
    rcases hs.own cb e with e | e
    · exact HCW0.out.2 e
    · have e : w.heap.size ≤ cb := e
      omega⟩)
  clear hs hr HC HS0 HR0 HM0 HCB0 HCW0 hcb hw0 hna hme
  have hcb := HCB1.out
  obtain ⟨ao, cap, c1, hL⟩ := HM1.out.c1
  have HC := hid (fun q => wlines_any g (off + 1) cap ao x.lines (w1.drewN q) (most := most) (v := v1) (wb := wb) HR1.out hm c1 HM1.out.ahead HM1.out.b0.2 hL)
  clear c1 hL
  go_wp2_with fail
  refine wp_region_any (by kernel_rfl) ?_
  try (change wpAny _ _ _ _ _ _ _ (World.drew _))
  refine wpAny_take (i := 1) (v := .pointer (some ⟨g, off, none⟩)) rfl (by kernel_rfl) (by kernel_rfl) (by kernel_rfl) (fun _ _ _ h => h) (Or.inl ⟨by rfl, by intro w; go_simp⟩) ?_
  refine wpAny_take (i := 2) (v := .pointer (some ⟨g, off, none⟩)) rfl (by kernel_rfl) (by kernel_rfl) (by kernel_rfl) (fun _ _ _ h => h) (Or.inl ⟨by rfl, by intro w; go_simp⟩) ?_
  refine wpAny_take (i := 3) (v := .pointer (some ⟨g, off + 1, none⟩)) rfl (by kernel_rfl) (by kernel_rfl) (by kernel_rfl) (fun _ _ _ h => h) (Or.inl ⟨by rfl, by intro w; go_simp⟩) ?_
  refine wpAny_ready (rs := [0]) (by kernel_rfl) (by simp) ?_
  refine AllReady.cons rfl (fun K hK => ?_) AllReady.nil
  go_simp
  refine hK _ _ ?_
  clear hK K
  refine wpAny_ready (rs := [4]) (by kernel_rfl) (by simp) ?_
  refine AllReady.cons rfl (fun K hK => ?_) AllReady.nil
  go_simp
  go_wp2_with fail
  refine (HC.out _).mono ?_
  rintro e w2 ⟨v2, hs, ⟨hf2, rfl, hr⟩ | ⟨hf, rfl⟩⟩
  rotate_left
  · go_wp2_with fail
    refine ⟨rfl, v2, HS1.out.trans ((WS.drewN wb v1 w1 1).trans hs), .inr ⟨?_, rfl⟩⟩
    unfold txB at *
    simp only [List.length_append] at *
    omega
  go_wp2_with fail
  refine wpAny_done (by kernel_rfl) ?_ _
  have HS2 := hid (HS1.out.trans ((WS.drewN wb v1 w1 1).trans hs))
  have HR2 := hid hr
  have HM2 := hid (HM1.out.old ((WS.drewN wb v1 w1 1).trans hs) HR1.out)
  have hw0 : cb < w1.heap.size := World.block_lt_of_cell? _ _ HCB1.out
  have HCB2 := hid (Wp.cell hs cb 0 _ HCB1.out HCW1.out.1 HCW1.out.2)
  have HCW2 := hid (show cb ≠ wb ∧ v2.ownBlock ≠ some cb from ⟨HCW1.out.1, fun e => by
    rcases hs.own cb e with e | e
    · exact HCW1.out.2 e
    · have e : w1.heap.size ≤ cb := e
      omega⟩)
  clear hs hr HC HS1 HR1 HM1 HCB1 HCW1 hcb hw0
  have hcb := HCB2.out
  have HC := hid (fun q => wwhole_any ⟨g, off + 2, none⟩ x.dead (w2.drewN q) (most := most) (v := v2) (wb := wb) HR2.out hm HM2.out.c2 HM2.out.b1.1 HM2.out.b1.2)
  have hna := na_whole wb
  have hme := me_whole
  go_wp2_with fail
  refine wp_region_any (by kernel_rfl) ?_
  try (change wpAny _ _ _ _ _ _ _ (World.drew _))
  refine wpAny_take (i := 1) (v := .pointer (some ⟨g, off, none⟩)) rfl (by kernel_rfl) (by kernel_rfl) (by kernel_rfl) (fun _ _ _ h => h) (Or.inl ⟨by rfl, by intro w; go_simp⟩) ?_
  refine wpAny_take (i := 2) (v := .pointer (some ⟨g, off, none⟩)) rfl (by kernel_rfl) (by kernel_rfl) (by kernel_rfl) (fun _ _ _ h => h) (Or.inl ⟨by rfl, by intro w; go_simp⟩) ?_
  refine wpAny_take (i := 3) (v := .pointer (some ⟨g, off + 2, none⟩)) rfl (by kernel_rfl) (by kernel_rfl) (by kernel_rfl) (fun _ _ _ h => h) (Or.inl ⟨by rfl, by intro w; go_simp⟩) ?_
  refine wpAny_ready (rs := [0]) (by kernel_rfl) (by simp) ?_
  refine AllReady.cons rfl (fun K hK => ?_) AllReady.nil
  go_simp
  refine hK _ _ ?_
  clear hK K
  refine wpAny_ready (rs := [4]) (by kernel_rfl) (by simp) ?_
  refine AllReady.cons rfl (fun K hK => ?_) AllReady.nil
  go_simp
  refine hK _ _ ?_
  clear hK K
  refine wpAny_take (i := 5) (v := .func (.method "larder/codec.whole") #[iw wb] #[]) rfl (by kernel_rfl) (by kernel_rfl) (by kernel_rfl) (fun _ _ _ h => h) (Or.inl ⟨by rfl, by intro w; go_simp⟩) ?_
  refine wpAny_take (i := 6) (v := iw wb) rfl (by kernel_rfl) (by kernel_rfl) (by kernel_rfl) (fun _ _ _ h => h) (Or.inl ⟨by rfl, by intro w; go_simp⟩) ?_
  refine wpAny_ready (rs := [7]) (by kernel_rfl) (by simp) ?_
  refine AllReady.cons rfl (fun K hK => ?_) AllReady.nil
  go_simp
  go_wp2_with fail
  refine (HC.out _).mono ?_
  rintro e w3 ⟨v3, hs, ⟨hf3, rfl, hr⟩ | ⟨hf, rfl⟩⟩
  rotate_left
  · go_wp2_with fail
    refine ⟨rfl, v3, HS2.out.trans ((WS.drewN wb v2 w2 1).trans hs), .inr ⟨?_, rfl⟩⟩
    unfold txB at *
    simp only [List.length_append] at *
    omega
  go_wp2_with fail
  refine wpAny_done (by kernel_rfl) ?_ _
  have HS3 := hid (HS2.out.trans ((WS.drewN wb v2 w2 1).trans hs))
  have HR3 := hid hr
  have HM3 := hid (HM2.out.old ((WS.drewN wb v2 w2 1).trans hs) HR2.out)
  have hw0 : cb < w2.heap.size := World.block_lt_of_cell? _ _ HCB2.out
  have HCB3 := hid (Wp.cell hs cb 0 _ HCB2.out HCW2.out.1 HCW2.out.2)
  have HCW3 := hid (show cb ≠ wb ∧ v3.ownBlock ≠ some cb from ⟨HCW2.out.1, fun e => by
    rcases hs.own cb e with e | e
    · exact HCW2.out.2 e
    · have e : w2.heap.size ≤ cb := e
      omega⟩)
  clear hs hr HC HS2 HR2 HM2 HCB2 HCW2 hcb hw0 hna hme
  go_wp2_with fail
  go_end0
  refine ⟨v3, HS3.out, .inl ⟨?_, rfl, ?_⟩⟩
  · unfold txB at *
    simp only [List.length_append] at *
    omega
  · have hr := HR3.out
    unfold txB at *
    simp only [List.append_assoc] at hr ⊢
    exact hr
set_option maxHeartbeats 2000000 in
theorem wdone_any (cb g off : Nat) (x : Dn) (w : World) {wb most : Nat} {v : Value} {l : List UInt8} (h : WR w wb v l most) (hm : most ≤ 1000000000)
    (hcb : w.cell? ⟨cb, 0, none⟩ = some (iw wb)) (hcw : cb ≠ wb ∧ v.ownBlock ≠ some cb) (m : DnM w wb g off x) :
    Calls Try.prog 78 #[.pointer (some ⟨g, off, none⟩), .pointer (some ⟨cb, 0, none⟩)] w fun e w' => Wp wb v l most (dn1 x) (.returned (.tuple #[])) w e w' := by
  have hmf : ∀ (fn : Fn) (first cap : Array Value) (w : World), (Instr.makeFunc fn first cap).run Try.prog w = .ok (.func fn first cap) w := fun _ _ _ _ => rfl
  have HS0 := hid (WS.refl wb v w)
  have HR0 := hid h
  have HM0 := hid m
  have HCB0 := hid hcb
  have HCW0 := hid hcw
  clear h m hcb hcw
  go_enter Try.func78, Try.ntmps78
  unfold dn1
  have hcb := HCB0.out
  have HC := hid (fun q => wfields_any g off x.req (w.drewN q) (most := most) (v := v) (wb := wb) HR0.out hm (HM0.out.r.old (WS.drewN wb v w q) HR0.out))
  go_wp2_with fail
  refine wp_region_any (by kernel_rfl) ?_
  try (change wpAny _ _ _ _ _ _ _ (World.drew _))
  refine wpAny_take (i := 1) (v := .pointer (some ⟨g, off, none⟩)) rfl (by kernel_rfl) (by kernel_rfl) (by kernel_rfl) (fun _ _ _ h => h) (Or.inl ⟨by rfl, by intro w; go_simp⟩) ?_
  refine wpAny_take (i := 2) (v := .pointer (some ⟨g, off, none⟩)) rfl (by kernel_rfl) (by kernel_rfl) (by kernel_rfl) (fun _ _ _ h => h) (Or.inl ⟨by rfl, by intro w; go_simp⟩) ?_
  refine wpAny_take (i := 3) (v := .pointer (some ⟨g, off, none⟩)) rfl (by kernel_rfl) (by kernel_rfl) (by kernel_rfl) (fun _ _ _ h => h) (Or.inl ⟨by rfl, by intro w; go_simp⟩) ?_
  refine wpAny_ready (rs := [0]) (by kernel_rfl) (by simp) ?_
  refine AllReady.cons rfl (fun K hK => ?_) AllReady.nil
  go_simp
  refine hK _ _ ?_
  clear hK K
  refine wpAny_ready (rs := [4]) (by kernel_rfl) (by simp) ?_
  refine AllReady.cons rfl (fun K hK => ?_) AllReady.nil
  go_simp
  go_wp2_with fail
  refine (HC.out _).mono ?_
  rintro e w1 ⟨v1, hs, ⟨hf1, rfl, hr⟩ | ⟨hf, rfl⟩⟩
  rotate_left
  · go_wp2_with fail
    refine ⟨rfl, v1, HS0.out.trans ((WS.drewN wb v w 1).trans hs), .inr ⟨?_, rfl⟩⟩
    unfold txB at *
    simp only [List.length_append] at *
    omega
  go_wp2_with fail
  refine wpAny_done (by kernel_rfl) ?_ _
  have HS1 := hid (HS0.out.trans ((WS.drewN wb v w 1).trans hs))
  have HR1 := hid hr
  have HM1 := hid (HM0.out.old ((WS.drewN wb v w 1).trans hs) HR0.out)
  have hw0 : cb < w.heap.size := World.block_lt_of_cell? _ _ HCB0.out
  have HCB1 := hid (Wp.cell hs cb 0 _ HCB0.out HCW0.out.1 HCW0.out.2)
  have HCW1 := hid (show cb ≠ wb ∧ v1.ownBlock ≠ some cb from ⟨HCW0.out.1, fun e => by
    rcases hs.own cb e with e | e
    · exact HCW0.out.2 e
    · have e : w.heap.size ≤ cb := e
      omega⟩)
  clear hs hr HC HS0 HR0 HM0 HCB0 HCW0 hcb hw0
  have hcb := HCB1.out
  have HC := hid (fun q => wwhole_any ⟨g, off + 6, none⟩ x.at' (w1.drewN q) (most := most) (v := v1) (wb := wb) HR1.out hm HM1.out.c6 HM1.out.b4.1 HM1.out.b4.2)
  have hna := na_whole wb
  have hme := me_whole
  go_wp2_with fail
  refine wp_region_any (by kernel_rfl) ?_
  try (change wpAny _ _ _ _ _ _ _ (World.drew _))
  refine wpAny_take (i := 1) (v := .pointer (some ⟨g, off, none⟩)) rfl (by kernel_rfl) (by kernel_rfl) (by kernel_rfl) (fun _ _ _ h => h) (Or.inl ⟨by rfl, by intro w; go_simp⟩) ?_
  refine wpAny_take (i := 2) (v := .pointer (some ⟨g, off, none⟩)) rfl (by kernel_rfl) (by kernel_rfl) (by kernel_rfl) (fun _ _ _ h => h) (Or.inl ⟨by rfl, by intro w; go_simp⟩) ?_
  refine wpAny_take (i := 3) (v := .pointer (some ⟨g, off + 6, none⟩)) rfl (by kernel_rfl) (by kernel_rfl) (by kernel_rfl) (fun _ _ _ h => h) (Or.inl ⟨by rfl, by intro w; go_simp⟩) ?_
  refine wpAny_ready (rs := [0]) (by kernel_rfl) (by simp) ?_
  refine AllReady.cons rfl (fun K hK => ?_) AllReady.nil
  go_simp
  refine hK _ _ ?_
  clear hK K
  refine wpAny_ready (rs := [4]) (by kernel_rfl) (by simp) ?_
  refine AllReady.cons rfl (fun K hK => ?_) AllReady.nil
  go_simp
  refine hK _ _ ?_
  clear hK K
  refine wpAny_take (i := 5) (v := .func (.method "larder/codec.whole") #[iw wb] #[]) rfl (by kernel_rfl) (by kernel_rfl) (by kernel_rfl) (fun _ _ _ h => h) (Or.inl ⟨by rfl, by intro w; go_simp⟩) ?_
  refine wpAny_take (i := 6) (v := iw wb) rfl (by kernel_rfl) (by kernel_rfl) (by kernel_rfl) (fun _ _ _ h => h) (Or.inl ⟨by rfl, by intro w; go_simp⟩) ?_
  refine wpAny_ready (rs := [7]) (by kernel_rfl) (by simp) ?_
  refine AllReady.cons rfl (fun K hK => ?_) AllReady.nil
  go_simp
  go_wp2_with fail
  refine (HC.out _).mono ?_
  rintro e w2 ⟨v2, hs, ⟨hf2, rfl, hr⟩ | ⟨hf, rfl⟩⟩
  rotate_left
  · go_wp2_with fail
    refine ⟨rfl, v2, HS1.out.trans ((WS.drewN wb v1 w1 1).trans hs), .inr ⟨?_, rfl⟩⟩
    unfold txB at *
    simp only [List.length_append] at *
    omega
  go_wp2_with fail
  refine wpAny_done (by kernel_rfl) ?_ _
  have HS2 := hid (HS1.out.trans ((WS.drewN wb v1 w1 1).trans hs))
  have HR2 := hid hr
  have HM2 := hid (HM1.out.old ((WS.drewN wb v1 w1 1).trans hs) HR1.out)
  have hw0 : cb < w1.heap.size := World.block_lt_of_cell? _ _ HCB1.out
  have HCB2 := hid (Wp.cell hs cb 0 _ HCB1.out HCW1.out.1 HCW1.out.2)
  have HCW2 := hid (show cb ≠ wb ∧ v2.ownBlock ≠ some cb from ⟨HCW1.out.1, fun e => by
    rcases hs.own cb e with e | e
    · exact HCW1.out.2 e
    · have e : w1.heap.size ≤ cb := e
      omega⟩)
  clear hs hr HC HS1 HR1 HM1 HCB1 HCW1 hcb hw0 hna hme
  go_wp2_with fail
  go_end0
  refine ⟨v2, HS2.out, .inl ⟨?_, rfl, ?_⟩⟩
  · unfold txB at *
    simp only [List.length_append] at *
    omega
  · have hr := HR2.out
    unfold txB at *
    simp only [List.append_assoc] at hr ⊢
    exact hr
set_option maxHeartbeats 1000000 in
theorem wheldlist_any (pg po cb cap : Nat) (ao : Option Addr) (L : List Hl) (w : World) {wb most : Nat} {v : Value} {l : List UInt8} (h : WR w wb v l most) (hm : most ≤ 1000000000)
    (hcb : w.cell? ⟨cb, 0, none⟩ = some (iw wb)) (hcw : cb ≠ wb ∧ v.ownBlock ≠ some cb)
    (hp : w.cell? ⟨pg, po, none⟩ = some (.slice ao L.length cap)) (hpg : pg < wb) (hn : L.length ≤ 9223372036854775807) (hL : HLs w wb ao L) :
    Calls Try.prog 74 #[iw wb, .pointer (some ⟨pg, po, none⟩), .func (.func 75) #[] #[.pointer (some ⟨cb, 0, none⟩)]] w fun e w' => Wp wb v l most (grp L.length ++ hlB L) (.returned (.tuple #[])) w e w' := by
  have hmf : ∀ (fn : Fn) (first cap : Array Value) (w : World), (Instr.makeFunc fn first cap).run Try.prog w = .ok (.func fn first cap) w := fun _ _ _ _ => rfl
  have HC := hid (fun q => wcount_any L.length (w.drewN q) (most := most) (v := v) (l := l) (wb := wb) h hm hn)
  have H := hid h
  have HCB := hid hcb
  have HCW := hid hcw
  have HP := hid hp
  have HL := hid hL
  have hna := na_count wb
  have hme := me_count
  clear h hcw hL hcb
  go_enter Try.func74, Try.ntmps74
  go_wp2_with fail
  refine wp_region_any (by kernel_rfl) ?_
  try (change wpAny _ _ _ _ _ _ _ (World.drew _))
  refine wpAny_take (i := 0) (v := iw wb) rfl (by kernel_rfl) (by kernel_rfl) (by kernel_rfl) (fun _ _ _ h => h) (Or.inl ⟨by rfl, by intro w; go_simp⟩) ?_
  refine wpAny_take (i := 1) (v := .pointer (some ⟨pg, po, none⟩)) rfl (by kernel_rfl) (by kernel_rfl) (by kernel_rfl) (fun _ _ _ h => h) (Or.inl ⟨by rfl, by intro w; go_simp⟩) ?_
  refine wpAny_take (i := 2) (v := .pointer (some ⟨pg, po, none⟩)) rfl (by kernel_rfl) (by kernel_rfl) (by kernel_rfl) (fun _ _ _ h => h) (Or.inl ⟨by rfl, by intro w; go_simp⟩) ?_
  refine wpAny_take (i := 9) (v := .int .i64 0) rfl (by kernel_rfl) (by kernel_rfl) (by kernel_rfl) (fun _ _ _ h => h) (Or.inl ⟨by rfl, by intro w; go_simp⟩) ?_
  refine wpAny_take (i := 5) (v := .func (.method "larder/codec.count") #[iw wb] #[]) rfl (by kernel_rfl) (by kernel_rfl) (by kernel_rfl) (fun _ _ _ h => h) (Or.inl ⟨by rfl, by intro w; go_simp⟩) ?_
  refine wpAny_take (i := 6) (v := .func (.method "larder/codec.count") #[iw wb] #[]) rfl (by kernel_rfl) (by kernel_rfl) (by kernel_rfl) (fun _ _ _ h => h) (Or.inl ⟨by rfl, by intro w; go_simp⟩) ?_
  refine wpAny_take (i := 7) (v := iw wb) rfl (by kernel_rfl) (by kernel_rfl) (by kernel_rfl) (fun _ _ _ h => h) (Or.inl ⟨by rfl, by intro w; go_simp⟩) ?_
  refine wpAny_ready (rs := [3]) (by kernel_rfl) (by simp) ?_
  refine AllReady.cons rfl (fun K hK => ?_) AllReady.nil
  go_simp
  refine hK _ _ ?_
  clear hK K
  refine wpAny_take (i := 4) (v := .int .i64 (L.length : Int)) rfl (by kernel_rfl) (by kernel_rfl) (by kernel_rfl) (fun _ _ _ h => h) (Or.inl ⟨by rfl, by intro w; go_simp⟩) ?_
  refine wpAny_ready (rs := [8]) (by kernel_rfl) (by simp) ?_
  refine AllReady.cons rfl (fun K hK => ?_) AllReady.nil
  go_simp
  go_wp2_with fail
  refine (HC.out _).mono ?_
  rintro e w2 ⟨v2, hs2, ⟨hf2, rfl, hr2⟩ | ⟨hf2, rfl⟩⟩
  · go_wp2_with fail
    refine wpAny_done (by kernel_rfl) ?_ _
    have HS2 := hid ((WS.drewN wb v w 1).trans hs2)
    have HR2 := hid hr2
    have hw0 := World.block_lt_of_cell? _ _ HCB.out
    clear hs2 hr2 HC hp
    go_wp2_with fail
    go_loopw [6, 17] (fun _ vi wx => ∃ (j : Nat) (v' : Value), j ≤ L.length ∧ vi = .int .i64 (j : Int) ∧ WS wb v w v' wx ∧ WR wx wb v' (l ++ (grp L.length ++ hlB (L.take j))) most ∧ l.length + (grp L.length ++ hlB (L.take j)).length ≤ most) (fun _ vi _ => L.length - (intOf vi).toNat)
    case atStart => exact ⟨0, v2, Nat.zero_le _, rfl, HS2.out, by simpa [hlB] using HR2.out, by simpa [hlB] using hf2⟩
    case round =>
      obtain ⟨j, v', hj, rfl, hs, hr, hfj⟩ := hrel
      have HS := hid hs
      have HR := hid hr
      clear HS2 HR2
      by_cases hlt : j < L.length
      · have hI : (j : Int) < (L.length : Int) := by omega
        have hIb : ((j : Int) == (L.length : Int)) = false := by simp; omega
        have hp := hs.old H.out pg po _ HP.out hpg
        have hcb := Wp.cell hs cb 0 _ HCB.out HCW.out.1 HCW.out.2
        have hcw : cb ≠ wb ∧ v'.ownBlock ≠ some cb := ⟨HCW.out.1, fun e => by
          rcases hs.own cb e with e | e
          · exact HCW.out.2 e
          · omega⟩
        obtain ⟨g, off, hao, hM⟩ := HL.out j hlt
        subst hao
        have hM := hM.old hs H.out
        have HLn := hid (hlB_succ L j hlt)
        have HEl := hid (wheld_any cb g (off + j * 3) L[j] wr hr hm hcb hcw hM)
        clear hs hr hM hcb hcw
        go_wp2_with fail
        refine Calls.mono HEl.out ?_
        rintro e w3 ⟨v3, hs3, ⟨hf3, rfl, hr3⟩ | ⟨hf3, rfl⟩⟩
        · go_wp2_with fail
          go_roundw
          case rel =>
            refine ⟨j + 1, v3, by omega, by go_num, HS.out.trans hs3, ?_, ?_⟩
            · rw [HLn.out, ← List.append_assoc, ← List.append_assoc, List.append_assoc l]
              exact hr3
            · rw [HLn.out]
              simp only [List.length_append] at *
              omega
          case measure => simp [intOf]; omega
        · go_wp2_with fail
          refine ⟨rfl, v3, HS.out.trans hs3, .inr ⟨?_, rfl⟩⟩
          have h1 := hlB_le L (j + 1)
          rw [HLn.out] at h1
          simp only [List.length_append] at *
          omega
      · have hI : ¬ (j : Int) < (L.length : Int) := by omega
        obtain rfl : j = L.length := by omega
        have HF := hid (show WR wr wb v' (l ++ (grp L.length ++ hlB L)) most by have := HR.out; rwa [List.take_length] at this)
        have hfit : l.length + (grp L.length ++ hlB L).length ≤ most := by
          rw [List.take_length] at hfj
          exact hfj
        clear hs hr
        go_wp2_with fail
        go_end0
        exact ⟨v', HS.out, .inl ⟨hfit, rfl, HF.out⟩⟩
  · go_wp2_with fail
    refine ⟨rfl, v2, (WS.drewN _ _ _ _).trans hs2, .inr ⟨?_, rfl⟩⟩
    rw [List.length_append]
    omega
set_option maxHeartbeats 1000000 in
theorem wdonelist_any (pg po cb cap : Nat) (ao : Option Addr) (L : List Dn) (w : World) {wb most : Nat} {v : Value} {l : List UInt8} (h : WR w wb v l most) (hm : most ≤ 1000000000)
    (hcb : w.cell? ⟨cb, 0, none⟩ = some (iw wb)) (hcw : cb ≠ wb ∧ v.ownBlock ≠ some cb)
    (hp : w.cell? ⟨pg, po, none⟩ = some (.slice ao L.length cap)) (hpg : pg < wb) (hn : L.length ≤ 9223372036854775807) (hL : DLs w wb ao L) :
    Calls Try.prog 77 #[iw wb, .pointer (some ⟨pg, po, none⟩), .func (.func 78) #[] #[.pointer (some ⟨cb, 0, none⟩)]] w fun e w' => Wp wb v l most (grp L.length ++ dnB L) (.returned (.tuple #[])) w e w' := by
  have hmf : ∀ (fn : Fn) (first cap : Array Value) (w : World), (Instr.makeFunc fn first cap).run Try.prog w = .ok (.func fn first cap) w := fun _ _ _ _ => rfl
  have HC := hid (fun q => wcount_any L.length (w.drewN q) (most := most) (v := v) (l := l) (wb := wb) h hm hn)
  have H := hid h
  have HCB := hid hcb
  have HCW := hid hcw
  have HP := hid hp
  have HL := hid hL
  have hna := na_count wb
  have hme := me_count
  clear h hcw hL hcb
  go_enter Try.func77, Try.ntmps77
  go_wp2_with fail
  refine wp_region_any (by kernel_rfl) ?_
  try (change wpAny _ _ _ _ _ _ _ (World.drew _))
  refine wpAny_take (i := 0) (v := iw wb) rfl (by kernel_rfl) (by kernel_rfl) (by kernel_rfl) (fun _ _ _ h => h) (Or.inl ⟨by rfl, by intro w; go_simp⟩) ?_
  refine wpAny_take (i := 1) (v := .pointer (some ⟨pg, po, none⟩)) rfl (by kernel_rfl) (by kernel_rfl) (by kernel_rfl) (fun _ _ _ h => h) (Or.inl ⟨by rfl, by intro w; go_simp⟩) ?_
  refine wpAny_take (i := 2) (v := .pointer (some ⟨pg, po, none⟩)) rfl (by kernel_rfl) (by kernel_rfl) (by kernel_rfl) (fun _ _ _ h => h) (Or.inl ⟨by rfl, by intro w; go_simp⟩) ?_
  refine wpAny_take (i := 9) (v := .int .i64 0) rfl (by kernel_rfl) (by kernel_rfl) (by kernel_rfl) (fun _ _ _ h => h) (Or.inl ⟨by rfl, by intro w; go_simp⟩) ?_
  refine wpAny_take (i := 5) (v := .func (.method "larder/codec.count") #[iw wb] #[]) rfl (by kernel_rfl) (by kernel_rfl) (by kernel_rfl) (fun _ _ _ h => h) (Or.inl ⟨by rfl, by intro w; go_simp⟩) ?_
  refine wpAny_take (i := 6) (v := .func (.method "larder/codec.count") #[iw wb] #[]) rfl (by kernel_rfl) (by kernel_rfl) (by kernel_rfl) (fun _ _ _ h => h) (Or.inl ⟨by rfl, by intro w; go_simp⟩) ?_
  refine wpAny_take (i := 7) (v := iw wb) rfl (by kernel_rfl) (by kernel_rfl) (by kernel_rfl) (fun _ _ _ h => h) (Or.inl ⟨by rfl, by intro w; go_simp⟩) ?_
  refine wpAny_ready (rs := [3]) (by kernel_rfl) (by simp) ?_
  refine AllReady.cons rfl (fun K hK => ?_) AllReady.nil
  go_simp
  refine hK _ _ ?_
  clear hK K
  refine wpAny_take (i := 4) (v := .int .i64 (L.length : Int)) rfl (by kernel_rfl) (by kernel_rfl) (by kernel_rfl) (fun _ _ _ h => h) (Or.inl ⟨by rfl, by intro w; go_simp⟩) ?_
  refine wpAny_ready (rs := [8]) (by kernel_rfl) (by simp) ?_
  refine AllReady.cons rfl (fun K hK => ?_) AllReady.nil
  go_simp
  go_wp2_with fail
  refine (HC.out _).mono ?_
  rintro e w2 ⟨v2, hs2, ⟨hf2, rfl, hr2⟩ | ⟨hf2, rfl⟩⟩
  · go_wp2_with fail
    refine wpAny_done (by kernel_rfl) ?_ _
    have HS2 := hid ((WS.drewN wb v w 1).trans hs2)
    have HR2 := hid hr2
    have hw0 := World.block_lt_of_cell? _ _ HCB.out
    clear hs2 hr2 HC hp
    go_wp2_with fail
    go_loopw [6, 17] (fun _ vi wx => ∃ (j : Nat) (v' : Value), j ≤ L.length ∧ vi = .int .i64 (j : Int) ∧ WS wb v w v' wx ∧ WR wx wb v' (l ++ (grp L.length ++ dnB (L.take j))) most ∧ l.length + (grp L.length ++ dnB (L.take j)).length ≤ most) (fun _ vi _ => L.length - (intOf vi).toNat)
    case atStart => exact ⟨0, v2, Nat.zero_le _, rfl, HS2.out, by simpa [dnB] using HR2.out, by simpa [dnB] using hf2⟩
    case round =>
      obtain ⟨j, v', hj, rfl, hs, hr, hfj⟩ := hrel
      have HS := hid hs
      have HR := hid hr
      clear HS2 HR2
      by_cases hlt : j < L.length
      · have hI : (j : Int) < (L.length : Int) := by omega
        have hIb : ((j : Int) == (L.length : Int)) = false := by simp; omega
        have hp := hs.old H.out pg po _ HP.out hpg
        have hcb := Wp.cell hs cb 0 _ HCB.out HCW.out.1 HCW.out.2
        have hcw : cb ≠ wb ∧ v'.ownBlock ≠ some cb := ⟨HCW.out.1, fun e => by
          rcases hs.own cb e with e | e
          · exact HCW.out.2 e
          · omega⟩
        obtain ⟨g, off, hao, hM⟩ := HL.out j hlt
        subst hao
        have hM := hM.old hs H.out
        have HLn := hid (dnB_succ L j hlt)
        have HEl := hid (wdone_any cb g (off + j * 7) L[j] wr hr hm hcb hcw hM)
        clear hs hr hM hcb hcw
        go_wp2_with fail
        refine Calls.mono HEl.out ?_
        rintro e w3 ⟨v3, hs3, ⟨hf3, rfl, hr3⟩ | ⟨hf3, rfl⟩⟩
        · go_wp2_with fail
          go_roundw
          case rel =>
            refine ⟨j + 1, v3, by omega, by go_num, HS.out.trans hs3, ?_, ?_⟩
            · rw [HLn.out, ← List.append_assoc, ← List.append_assoc, List.append_assoc l]
              exact hr3
            · rw [HLn.out]
              simp only [List.length_append] at *
              omega
          case measure => simp [intOf]; omega
        · go_wp2_with fail
          refine ⟨rfl, v3, HS.out.trans hs3, .inr ⟨?_, rfl⟩⟩
          have h1 := dnB_le L (j + 1)
          rw [HLn.out] at h1
          simp only [List.length_append] at *
          omega
      · have hI : ¬ (j : Int) < (L.length : Int) := by omega
        obtain rfl : j = L.length := by omega
        have HF := hid (show WR wr wb v' (l ++ (grp L.length ++ dnB L)) most by have := HR.out; rwa [List.take_length] at this)
        have hfit : l.length + (grp L.length ++ dnB L).length ≤ most := by
          rw [List.take_length] at hfj
          exact hfj
        clear hs hr
        go_wp2_with fail
        go_end0
        exact ⟨v', HS.out, .inl ⟨hfit, rfl, HF.out⟩⟩
  · go_wp2_with fail
    refine ⟨rfl, v2, (WS.drewN _ _ _ _).trans hs2, .inr ⟨?_, rfl⟩⟩
    rw [List.length_append]
    omega
end Go.Proofs.Ytfhicemfhkhjaab
