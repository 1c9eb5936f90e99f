/-
  codec's forms with a writer: a list of lines, a request's fields.
-/
import Derived.Test.YtfhicemfhkhjaabCw2
namespace Go.Proofs.Ytfhicemfhkhjaab
open Go.RowKit
set_option maxRecDepth 100000

/-- a line: its code, its number -/
abbrev Ln := ByteArray × Int
def ln1 (x : Ln) : List UInt8 := grp x.1.size ++ x.1.data.toList ++ grp (foldI x.2)
/-- lines as bytes -/
def lnB (L : List Ln) : List UInt8 := L.flatMap ln1
theorem lnB_succ (L : List Ln) (j : Nat) (h : j < L.length) : lnB (L.take (j + 1)) = lnB (L.take j) ++ ln1 L[j] := by
  unfold lnB
  rw [List.take_add_one, List.getElem?_eq_getElem h, List.flatMap_append]
  simp
theorem lnB_le (L : List Ln) (j : Nat) : (lnB (L.take j)).length ≤ (lnB L).length := by
  conv => rhs; rw [← List.take_append_drop j L]
  unfold lnB
  rw [List.flatMap_append, List.length_append]
  omega
/-- a list of lines that lies ahead of block B -/
def LL (w : World) (B : Nat) (ao : Option Addr) (L : List Ln) : Prop := ∀ i (h : i < L.length), (L[i].1.size ≤ 1000000000000 ∧ -9223372036854775808 ≤ L[i].2 ∧ L[i].2 ≤ 9223372036854775807) ∧ ∃ g off, ao = some ⟨g, off, none⟩ ∧ g < B ∧ w.cell? ⟨g, off + i * 2, none⟩ = some (.string L[i].1) ∧ w.cell? ⟨g, off + i * 2 + 1, none⟩ = some (.int .i64 L[i].2)
theorem WS.old {wb most : Nat} {v v' : Value} {l : List UInt8} {w w' : World} (h : WS wb v w v' w') (hr : WR w wb v l most) (g j : Nat) (u : Value) (hc : w.cell? ⟨g, j, none⟩ = some u) (hg : g < wb) : w'.cell? ⟨g, j, none⟩ = some u :=
  Wp.cell h g j u hc (by omega) (fun e => by have := hr.2.block_ge g e; omega)
theorem LL.old {wb most : Nat} {v v' : Value} {l : List UInt8} {w w' : World} {ao : Option Addr} {L : List Ln} (hL : LL w wb ao L) (h : WS wb v w v' w') (hr : WR w wb v l most) : LL w' wb ao L := fun i hi => by
  obtain ⟨hb, g, off, ha, hg, c0, c1⟩ := hL i hi
  exact ⟨hb, g, off, ha, hg, h.old hr _ _ _ c0 hg, h.old hr _ _ _ c1 hg⟩
set_option maxHeartbeats 1000000 in
theorem wlist_any (pg po cb cap : Nat) (ao : Option Addr) (L : List Ln) (w : World) {wb most : Nat} {v : Value} {l : List UInt8} (h : WR w wb v l most) (hm : most ≤ 1000000000)
    (hcb : w.cell? ⟨cb, 0, none⟩ = some (iw wb)) (hcw : cb ≠ wb ∧ v.ownBlock ≠ some cb)
    (hp : w.cell? ⟨pg, po, none⟩ = some (.slice ao L.length cap)) (hpg : pg < wb) (hn : L.length ≤ 9223372036854775807) (hL : LL w wb ao L) :
    Calls Try.prog 93 #[iw wb, .pointer (some ⟨pg, po, none⟩), .func (.func 94) #[] #[.pointer (some ⟨cb, 0, none⟩)]] w fun e w' => Wp wb v l most (grp L.length ++ lnB L) (.returned (.tuple #[])) w e w' := by
  have hmf : ∀ (fn : Fn) (first cap : Array Value) (w : World), (Instr.makeFunc fn first cap).run Try.prog w = .ok (.func fn first cap) w := fun _ _ _ _ => rfl
  have HC := hid (fun q => wcount_any L.length (w.drewN q) (most := most) (v := v) (l := l) (wb := wb) h hm hn)
  have H := hid h
  have HCB := hid hcb
  have HCW := hid hcw
  have HP := hid hp
  have HL := hid hL
  have hna := na_count wb
  have hme := me_count
  clear h hcw hL hcb
  go_enter Try.func93, Try.ntmps93
  go_wp2_with fail
  refine wp_region_any (by kernel_rfl) ?_
  try (change wpAny _ _ _ _ _ _ _ (World.drew _))
  refine wpAny_take (i := 0) (v := iw wb) rfl (by kernel_rfl) (by kernel_rfl) (by kernel_rfl) (fun _ _ _ h => h) (Or.inl ⟨by rfl, by intro w; go_simp⟩) ?_
  refine wpAny_take (i := 1) (v := .pointer (some ⟨pg, po, none⟩)) rfl (by kernel_rfl) (by kernel_rfl) (by kernel_rfl) (fun _ _ _ h => h) (Or.inl ⟨by rfl, by intro w; go_simp⟩) ?_
  refine wpAny_take (i := 2) (v := .pointer (some ⟨pg, po, none⟩)) rfl (by kernel_rfl) (by kernel_rfl) (by kernel_rfl) (fun _ _ _ h => h) (Or.inl ⟨by rfl, by intro w; go_simp⟩) ?_
  refine wpAny_take (i := 9) (v := .int .i64 0) rfl (by kernel_rfl) (by kernel_rfl) (by kernel_rfl) (fun _ _ _ h => h) (Or.inl ⟨by rfl, by intro w; go_simp⟩) ?_
  refine wpAny_take (i := 5) (v := .func (.method "larder/codec.count") #[iw wb] #[]) rfl (by kernel_rfl) (by kernel_rfl) (by kernel_rfl) (fun _ _ _ h => h) (Or.inl ⟨by rfl, by intro w; go_simp⟩) ?_
  refine wpAny_take (i := 6) (v := .func (.method "larder/codec.count") #[iw wb] #[]) rfl (by kernel_rfl) (by kernel_rfl) (by kernel_rfl) (fun _ _ _ h => h) (Or.inl ⟨by rfl, by intro w; go_simp⟩) ?_
  refine wpAny_take (i := 7) (v := iw wb) rfl (by kernel_rfl) (by kernel_rfl) (by kernel_rfl) (fun _ _ _ h => h) (Or.inl ⟨by rfl, by intro w; go_simp⟩) ?_
  refine wpAny_ready (rs := [3]) (by kernel_rfl) (by simp) ?_
  refine AllReady.cons rfl (fun K hK => ?_) AllReady.nil
  go_simp
  refine hK _ _ ?_
  clear hK K
  refine wpAny_take (i := 4) (v := .int .i64 (L.length : Int)) rfl (by kernel_rfl) (by kernel_rfl) (by kernel_rfl) (fun _ _ _ h => h) (Or.inl ⟨by rfl, by intro w; go_simp⟩) ?_
  refine wpAny_ready (rs := [8]) (by kernel_rfl) (by simp) ?_
  refine AllReady.cons rfl (fun K hK => ?_) AllReady.nil
  go_simp
  go_wp2_with fail
  refine (HC.out _).mono ?_
  rintro e w2 ⟨v2, hs2, ⟨hf2, rfl, hr2⟩ | ⟨hf2, rfl⟩⟩
  · go_wp2_with fail
    refine wpAny_done (by kernel_rfl) ?_ _
    have HS2 := hid ((WS.drewN wb v w 1).trans hs2)
    have HR2 := hid hr2
    have hw0 := World.block_lt_of_cell? _ _ HCB.out
    clear hs2 hr2 HC hp
    go_wp2_with fail
    go_loopw [6, 17] (fun _ vi wx => ∃ (j : Nat) (v' : Value), j ≤ L.length ∧ vi = .int .i64 (j : Int) ∧ WS wb v w v' wx ∧ WR wx wb v' (l ++ (grp L.length ++ lnB (L.take j))) most ∧ l.length + (grp L.length ++ lnB (L.take j)).length ≤ most) (fun _ vi _ => L.length - (intOf vi).toNat)
    case atStart => exact ⟨0, v2, Nat.zero_le _, rfl, HS2.out, by simpa [lnB] using HR2.out, by simpa [lnB] using hf2⟩
    case round =>
      obtain ⟨j, v', hj, rfl, hs, hr, hfj⟩ := hrel
      have HS := hid hs
      have HR := hid hr
      clear HS2 HR2
      by_cases hlt : j < L.length
      · have hI : (j : Int) < (L.length : Int) := by omega
        have hIb : ((j : Int) == (L.length : Int)) = false := by simp; omega
        have hp := hs.old H.out pg po _ HP.out hpg
        have hcb := Wp.cell hs cb 0 _ HCB.out HCW.out.1 HCW.out.2
        have hcw : cb ≠ wb ∧ v'.ownBlock ≠ some cb := ⟨HCW.out.1, fun e => by
          rcases hs.own cb e with e | e
          · exact HCW.out.2 e
          · omega⟩
        obtain ⟨⟨b1, b2, b3⟩, g, off, hao, hg, c0, c1⟩ := HL.out j hlt
        subst hao
        have c0 := hs.old H.out _ _ _ c0 hg
        have c1 := hs.old H.out _ _ _ c1 hg
        have HLn := hid (lnB_succ L j hlt)
        have HEl := hid (wline_any cb g (off + j * 2) L[j].1 L[j].2 wr hr hm hcb hcw c0 c1 ⟨by omega, fun e => by have := hr.2.block_ge g e; omega⟩ b1 b2 b3)
        clear hs hr c0 c1 hcb hcw b1 b2 b3
        go_wp2_with fail
        refine Calls.mono HEl.out ?_
        rintro e w3 ⟨v3, hs3, ⟨hf3, rfl, hr3⟩ | ⟨hf3, rfl⟩⟩
        · go_wp2_with fail
          go_roundw
          case rel =>
            have h2 : (ln1 L[j]).length = (grp L[j].1.size ++ L[j].1.data.toList ++ grp (foldI L[j].2)).length := rfl
            refine ⟨j + 1, v3, by omega, by go_num, HS.out.trans hs3, ?_, ?_⟩
            · rw [HLn.out, ← List.append_assoc, ← List.append_assoc, List.append_assoc l]
              exact hr3
            · rw [HLn.out]
              simp only [List.length_append] at *
              omega
          case measure => simp [intOf]; omega
        · go_wp2_with fail
          refine ⟨rfl, v3, HS.out.trans hs3, .inr ⟨?_, rfl⟩⟩
          have h1 := lnB_le L (j + 1)
          have h2 : (ln1 L[j]).length = (grp L[j].1.size ++ L[j].1.data.toList ++ grp (foldI L[j].2)).length := rfl
          rw [HLn.out] at h1
          simp only [List.length_append] at *
          omega
      · have hI : ¬ (j : Int) < (L.length : Int) := by omega
        obtain rfl : j = L.length := by omega
        have HF := hid (show WR wr wb v' (l ++ (grp L.length ++ lnB L)) most by have := HR.out; rwa [List.take_length] at this)
        have hfit : l.length + (grp L.length ++ lnB L).length ≤ most := by
          rw [List.take_length] at hfj
          exact hfj
        clear hs hr
        go_wp2_with fail
        go_end0
        exact ⟨v', HS.out, .inl ⟨hfit, rfl, HF.out⟩⟩
  · go_wp2_with fail
    refine ⟨rfl, v2, (WS.drewN _ _ _ _).trans hs2, .inr ⟨?_, rfl⟩⟩
    rw [List.length_append]
    omega
theorem WR.box {w : World} {wb most : Nat} {v : Value} {l : List UInt8} (h : WR w wb v l most) : w.heap.size ≠ wb ∧ v.ownBlock ≠ some w.heap.size := by
  refine ⟨by have := h.lt; omega, fun e => ?_⟩
  have := World.ownsRow.lt h.2 _ e
  omega
set_option maxHeartbeats 1000000 in
theorem wlines_any (pg po cap : Nat) (ao : Option Addr) (L : List Ln) (w : World) {wb most : Nat} {v : Value} {l : List UInt8} (h : WR w wb v l most) (hm : most ≤ 1000000000)
    (hp : w.cell? ⟨pg, po, none⟩ = some (.slice ao L.length cap)) (hpg : pg < wb) (hn : L.length ≤ 9223372036854775807) (hL : LL w wb ao L) :
    Calls Try.prog 76 #[iw wb, .pointer (some ⟨pg, po, none⟩)] w fun e w' => Wp wb v l most (grp L.length ++ lnB L) (.returned (.tuple #[])) w e w' := by
  have hmf : ∀ (fn : Fn) (first cap : Array Value) (w : World), (Instr.makeFunc fn first cap).run Try.prog w = .ok (.func fn first cap) w := fun _ _ _ _ => rfl
  obtain ⟨W, hW⟩ : ∃ W, w.alloc (.cells #[iw wb] 129) = W := ⟨_, rfl⟩
  have hB : Below w.heap.size w W := by rw [← hW]; exact (Below.refl _ _).alloc (Nat.le_refl _) _
  have HWS := hid (WS.below (wb := wb) (v := v) hB)
  have hcb : W.cell? ⟨w.heap.size, 0, none⟩ = some (iw wb) := by rw [← hW, cell_of_row _ _ _ _ _ _ (heap_alloc_new w _)]; rfl
  have HLi := hid (wlist_any pg po w.heap.size cap ao L W (h.later hB) hm hcb h.box (HWS.out.old h _ _ _ hp hpg) hpg hn (hL.old HWS.out h))
  clear h hB hp hL
  go_enter Try.func76, Try.ntmps76
  go_wp2_with fail
  try rw [hW]
  refine Calls.mono HLi.out ?_
  rintro e w2 ⟨v', hs, ⟨hf, rfl, hr⟩ | ⟨hf, rfl⟩⟩
  · go_wp2_with fail
    go_end0
    exact ⟨v', HWS.out.trans hs, .inl ⟨hf, rfl, hr⟩⟩
  · go_wp2_with fail
    exact ⟨rfl, v', HWS.out.trans hs, .inr ⟨hf, rfl⟩⟩
def txB (s : ByteArray) : List UInt8 := grp s.size ++ s.data.toList
/-- a request -/
structure Rq where
  id : ByteArray
  kind : Int
  lines : List Ln
  hold : ByteArray
  ttl : Int
  now : Int
/-- a request's fields as bytes -/
def rqB (r : Rq) : List UInt8 := txB r.id ++ (grp (foldI r.kind) ++ ((grp r.lines.length ++ lnB r.lines) ++ (txB r.hold ++ (grp (foldI r.ttl) ++ grp (foldI r.now)))))
/-- a request in block rb, ahead of block B -/
structure RqM (w : World) (B rb po : Nat) (r : Rq) : Prop where
  ahead : rb < B
  c0 : w.cell? ⟨rb, po, none⟩ = some (.string r.id)
  c1 : w.cell? ⟨rb, po + 1, none⟩ = some (.int .i64 r.kind)
  c2 : ∃ ao cap, w.cell? ⟨rb, po + 2, none⟩ = some (.slice ao r.lines.length cap) ∧ LL w B ao r.lines
  c3 : w.cell? ⟨rb, po + 3, none⟩ = some (.string r.hold)
  c4 : w.cell? ⟨rb, po + 4, none⟩ = some (.int .i64 r.ttl)
  c5 : w.cell? ⟨rb, po + 5, none⟩ = some (.int .i64 r.now)
  b0 : r.id.size ≤ 1000000000000 ∧ r.hold.size ≤ 1000000000000 ∧ r.lines.length ≤ 9223372036854775807
  b1 : -9223372036854775808 ≤ r.kind ∧ r.kind ≤ 9223372036854775807
  b2 : -9223372036854775808 ≤ r.ttl ∧ r.ttl ≤ 9223372036854775807
  b3 : -9223372036854775808 ≤ r.now ∧ r.now ≤ 9223372036854775807
theorem RqM.old {wb most rb po : Nat} {v v' : Value} {l : List UInt8} {w w' : World} {r : Rq} (h : RqM w wb rb po r) (k : WS wb v w v' w') (hr : WR w wb v l most) : RqM w' wb rb po r := by
  obtain ⟨ao, cap, c2, hL⟩ := h.c2
  exact ⟨h.ahead, k.old hr _ _ _ h.c0 h.ahead, k.old hr _ _ _ h.c1 h.ahead, ⟨ao, cap, k.old hr _ _ _ c2 h.ahead, hL.old k hr⟩, k.old hr _ _ _ h.c3 h.ahead, k.old hr _ _ _ h.c4 h.ahead, k.old hr _ _ _ h.c5 h.ahead, h.b0, h.b1, h.b2, h.b3⟩
set_option maxHeartbeats 4000000 in
theorem wfields_any (rb po : Nat) (r : Rq) (w : World) {wb most : Nat} {v : Value} {l : List UInt8} (h : WR w wb v l most) (hm : most ≤ 1000000000) (m : RqM w wb rb po r) :
    Calls Try.prog 72 #[iw wb, .pointer (some ⟨rb, po, none⟩)] w fun e w' => Wp wb v l most (rqB r) (.returned (.tuple #[])) w e w' := by
  have hmf : ∀ (fn : Fn) (first cap : Array Value) (w : World), (Instr.makeFunc fn first cap).run Try.prog w = .ok (.func fn first cap) w := fun _ _ _ _ => rfl
  have HS0 := hid (WS.refl wb v w)
  have HR0 := hid h
  have HM0 := hid m
  clear h m
  go_enter Try.func72, Try.ntmps72
  unfold rqB
  have m := HM0.out
  have HC1 := hid (fun q => wtext_any ⟨rb, po, none⟩ r.id (w.drewN q) (most := most) (v := v) (wb := wb) HR0.out hm m.c0 m.b0.1)
  have hna := na_text wb
  have hme := me_text
  clear m
  go_wp2_with fail
  refine wp_region_any (by kernel_rfl) ?_
  try (change wpAny _ _ _ _ _ _ _ (World.drew _))
  refine wpAny_take (i := 0) (v := iw wb) rfl (by kernel_rfl) (by kernel_rfl) (by kernel_rfl) (fun _ _ _ h => h) (Or.inl ⟨by rfl, by intro w; go_simp⟩) ?_
  refine wpAny_take (i := 1) (v := .pointer (some ⟨rb, po, none⟩)) rfl (by kernel_rfl) (by kernel_rfl) (by kernel_rfl) (fun _ _ _ h => h) (Or.inl ⟨by rfl, by intro w; go_simp⟩) ?_
  refine wpAny_take (i := 2) (v := .pointer (some ⟨rb, po, none⟩)) rfl (by kernel_rfl) (by kernel_rfl) (by kernel_rfl) (fun _ _ _ h => h) (Or.inl ⟨by rfl, by intro w; go_simp⟩) ?_
  refine wpAny_take (i := 3) (v := .pointer (some ⟨rb, po, none⟩)) rfl (by kernel_rfl) (by kernel_rfl) (by kernel_rfl) (fun _ _ _ h => h) (Or.inl ⟨by rfl, by intro w; go_simp⟩) ?_
  refine wpAny_ready (rs := [4]) (by kernel_rfl) (by simp) ?_
  refine AllReady.cons rfl (fun K hK => ?_) AllReady.nil
  go_simp
  refine hK _ _ ?_
  clear hK K
  refine wpAny_take (i := 5) (v := .func (.method "larder/codec.text") #[iw wb] #[]) rfl (by kernel_rfl) (by kernel_rfl) (by kernel_rfl) (fun _ _ _ h => h) (Or.inl ⟨by rfl, by intro w; go_simp⟩) ?_
  refine wpAny_take (i := 6) (v := iw wb) rfl (by kernel_rfl) (by kernel_rfl) (by kernel_rfl) (fun _ _ _ h => h) (Or.inl ⟨by rfl, by intro w; go_simp⟩) ?_
  refine wpAny_ready (rs := [7]) (by kernel_rfl) (by simp) ?_
  refine AllReady.cons rfl (fun K hK => ?_) AllReady.nil
  go_simp
  go_wp2_with fail
  refine (HC1.out _).mono ?_
  rintro e w1 ⟨v1, hs, ⟨hf1, rfl, hr⟩ | ⟨hf, rfl⟩⟩
  rotate_left
  · go_wp2_with fail
    refine ⟨rfl, v1, HS0.out.trans ((WS.drewN wb v w 1).trans hs), .inr ⟨?_, rfl⟩⟩
    unfold txB at *
    simp only [List.length_append] at *
    omega
  go_wp2_with fail
  refine wpAny_done (by kernel_rfl) ?_ _
  have HS1 := hid (HS0.out.trans ((WS.drewN wb v w 1).trans hs))
  have HR1 := hid hr
  have HM1 := hid (HM0.out.old ((WS.drewN wb v w 1).trans hs) HR0.out)
  clear hs hr HC1 HS0 HR0 HM0
  clear hna hme
  have m := HM1.out
  have HC2 := hid (fun q => wwhole_any ⟨rb, po + 1, none⟩ r.kind (w1.drewN q) (most := most) (v := v1) (wb := wb) HR1.out hm m.c1 m.b1.1 m.b1.2)
  have hna := na_whole wb
  have hme := me_whole
  clear m
  go_wp2_with fail
  refine wp_region_any (by kernel_rfl) ?_
  try (change wpAny _ _ _ _ _ _ _ (World.drew _))
  refine wpAny_take (i := 0) (v := iw wb) rfl (by kernel_rfl) (by kernel_rfl) (by kernel_rfl) (fun _ _ _ h => h) (Or.inl ⟨by rfl, by intro w; go_simp⟩) ?_
  refine wpAny_take (i := 1) (v := .pointer (some ⟨rb, po, none⟩)) rfl (by kernel_rfl) (by kernel_rfl) (by kernel_rfl) (fun _ _ _ h => h) (Or.inl ⟨by rfl, by intro w; go_simp⟩) ?_
  refine wpAny_take (i := 2) (v := .pointer (some ⟨rb, po, none⟩)) rfl (by kernel_rfl) (by kernel_rfl) (by kernel_rfl) (fun _ _ _ h => h) (Or.inl ⟨by rfl, by intro w; go_simp⟩) ?_
  refine wpAny_take (i := 3) (v := .pointer (some ⟨rb, po + 1, none⟩)) rfl (by kernel_rfl) (by kernel_rfl) (by kernel_rfl) (fun _ _ _ h => h) (Or.inl ⟨by rfl, by intro w; go_simp⟩) ?_
  refine wpAny_ready (rs := [4]) (by kernel_rfl) (by simp) ?_
  refine AllReady.cons rfl (fun K hK => ?_) AllReady.nil
  go_simp
  refine hK _ _ ?_
  clear hK K
  refine wpAny_take (i := 5) (v := .func (.method "larder/codec.whole") #[iw wb] #[]) rfl (by kernel_rfl) (by kernel_rfl) (by kernel_rfl) (fun _ _ _ h => h) (Or.inl ⟨by rfl, by intro w; go_simp⟩) ?_
  refine wpAny_take (i := 6) (v := iw wb) rfl (by kernel_rfl) (by kernel_rfl) (by kernel_rfl) (fun _ _ _ h => h) (Or.inl ⟨by rfl, by intro w; go_simp⟩) ?_
  refine wpAny_ready (rs := [7]) (by kernel_rfl) (by simp) ?_
  refine AllReady.cons rfl (fun K hK => ?_) AllReady.nil
  go_simp
  go_wp2_with fail
  refine (HC2.out _).mono ?_
  rintro e w2 ⟨v2, hs, ⟨hf2, rfl, hr⟩ | ⟨hf, rfl⟩⟩
  rotate_left
  · go_wp2_with fail
    refine ⟨rfl, v2, HS1.out.trans ((WS.drewN wb v1 w1 1).trans hs), .inr ⟨?_, rfl⟩⟩
    unfold txB at *
    simp only [List.length_append] at *
    omega
  go_wp2_with fail
  refine wpAny_done (by kernel_rfl) ?_ _
  have HS2 := hid (HS1.out.trans ((WS.drewN wb v1 w1 1).trans hs))
  have HR2 := hid hr
  have HM2 := hid (HM1.out.old ((WS.drewN wb v1 w1 1).trans hs) HR1.out)
  clear hs hr HC2 HS1 HR1 HM1
  clear hna hme
  obtain ⟨ao, cap, c2, hL⟩ := HM2.out.c2
  have HC3 := hid (wlines_any rb (po + 2) cap ao r.lines w2 HR2.out hm c2 HM2.out.ahead HM2.out.b0.2.2 hL)
  clear c2 hL
  go_wp2_with fail
  refine Calls.mono HC3.out ?_
  rintro e w3 ⟨v3, hs, ⟨hf3, rfl, hr⟩ | ⟨hf, rfl⟩⟩
  rotate_left
  · go_wp2_with fail
    refine ⟨rfl, v3, HS2.out.trans (hs), .inr ⟨?_, rfl⟩⟩
    unfold txB at *
    simp only [List.length_append] at *
    omega
  go_wp2_with fail
  have HS3 := hid (HS2.out.trans (hs))
  have HR3 := hid hr
  have HM3 := hid (HM2.out.old (hs) HR2.out)
  clear hs hr HC3 HS2 HR2 HM2
  have m := HM3.out
  have HC4 := hid (fun q => wtext_any ⟨rb, po + 3, none⟩ r.hold (w3.drewN q) (most := most) (v := v3) (wb := wb) HR3.out hm m.c3 m.b0.2.1)
  have hna := na_text wb
  have hme := me_text
  clear m
  go_wp2_with fail
  refine wp_region_any (by kernel_rfl) ?_
  try (change wpAny _ _ _ _ _ _ _ (World.drew _))
  refine wpAny_take (i := 0) (v := iw wb) rfl (by kernel_rfl) (by kernel_rfl) (by kernel_rfl) (fun _ _ _ h => h) (Or.inl ⟨by rfl, by intro w; go_simp⟩) ?_
  refine wpAny_take (i := 1) (v := .pointer (some ⟨rb, po, none⟩)) rfl (by kernel_rfl) (by kernel_rfl) (by kernel_rfl) (fun _ _ _ h => h) (Or.inl ⟨by rfl, by intro w; go_simp⟩) ?_
  refine wpAny_take (i := 2) (v := .pointer (some ⟨rb, po, none⟩)) rfl (by kernel_rfl) (by kernel_rfl) (by kernel_rfl) (fun _ _ _ h => h) (Or.inl ⟨by rfl, by intro w; go_simp⟩) ?_
  refine wpAny_take (i := 3) (v := .pointer (some ⟨rb, po + 3, none⟩)) rfl (by kernel_rfl) (by kernel_rfl) (by kernel_rfl) (fun _ _ _ h => h) (Or.inl ⟨by rfl, by intro w; go_simp⟩) ?_
  refine wpAny_ready (rs := [4]) (by kernel_rfl) (by simp) ?_
  refine AllReady.cons rfl (fun K hK => ?_) AllReady.nil
  go_simp
  refine hK _ _ ?_
  clear hK K
  refine wpAny_take (i := 5) (v := .func (.method "larder/codec.text") #[iw wb] #[]) rfl (by kernel_rfl) (by kernel_rfl) (by kernel_rfl) (fun _ _ _ h => h) (Or.inl ⟨by rfl, by intro w; go_simp⟩) ?_
  refine wpAny_take (i := 6) (v := iw wb) rfl (by kernel_rfl) (by kernel_rfl) (by kernel_rfl) (fun _ _ _ h => h) (Or.inl ⟨by rfl, by intro w; go_simp⟩) ?_
  refine wpAny_ready (rs := [7]) (by kernel_rfl) (by simp) ?_
  refine AllReady.cons rfl (fun K hK => ?_) AllReady.nil
  go_simp
  go_wp2_with fail
  refine (HC4.out _).mono ?_
  rintro e w4 ⟨v4, hs, ⟨hf4, rfl, hr⟩ | ⟨hf, rfl⟩⟩
  rotate_left
  · go_wp2_with fail
    refine ⟨rfl, v4, HS3.out.trans ((WS.drewN wb v3 w3 1).trans hs), .inr ⟨?_, rfl⟩⟩
    unfold txB at *
    simp only [List.length_append] at *
    omega
  go_wp2_with fail
  refine wpAny_done (by kernel_rfl) ?_ _
  have HS4 := hid (HS3.out.trans ((WS.drewN wb v3 w3 1).trans hs))
  have HR4 := hid hr
  have HM4 := hid (HM3.out.old ((WS.drewN wb v3 w3 1).trans hs) HR3.out)
  clear hs hr HC4 HS3 HR3 HM3
  clear hna hme
  have m := HM4.out
  have HC5 := hid (fun q => wwhole_any ⟨rb, po + 4, none⟩ r.ttl (w4.drewN q) (most := most) (v := v4) (wb := wb) HR4.out hm m.c4 m.b2.1 m.b2.2)
  have hna := na_whole wb
  have hme := me_whole
  clear m
  go_wp2_with fail
  refine wp_region_any (by kernel_rfl) ?_
  try (change wpAny _ _ _ _ _ _ _ (World.drew _))
  refine wpAny_take (i := 0) (v := iw wb) rfl (by kernel_rfl) (by kernel_rfl) (by kernel_rfl) (fun _ _ _ h => h) (Or.inl ⟨by rfl, by intro w; go_simp⟩) ?_
  refine wpAny_take (i := 1) (v := .pointer (some ⟨rb, po, none⟩)) rfl (by kernel_rfl) (by kernel_rfl) (by kernel_rfl) (fun _ _ _ h => h) (Or.inl ⟨by rfl, by intro w; go_simp⟩) ?_
  refine wpAny_take (i := 2) (v := .pointer (some ⟨rb, po, none⟩)) rfl (by kernel_rfl) (by kernel_rfl) (by kernel_rfl) (fun _ _ _ h => h) (Or.inl ⟨by rfl, by intro w; go_simp⟩) ?_
  refine wpAny_take (i := 3) (v := .pointer (some ⟨rb, po + 4, none⟩)) rfl (by kernel_rfl) (by kernel_rfl) (by kernel_rfl) (fun _ _ _ h => h) (Or.inl ⟨by rfl, by intro w; go_simp⟩) ?_
  refine wpAny_ready (rs := [4]) (by kernel_rfl) (by simp) ?_
  refine AllReady.cons rfl (fun K hK => ?_) AllReady.nil
  go_simp
  refine hK _ _ ?_
  clear hK K
  refine wpAny_take (i := 5) (v := .func (.method "larder/codec.whole") #[iw wb] #[]) rfl (by kernel_rfl) (by kernel_rfl) (by kernel_rfl) (fun _ _ _ h => h) (Or.inl ⟨by rfl, by intro w; go_simp⟩) ?_
  refine wpAny_take (i := 6) (v := iw wb) rfl (by kernel_rfl) (by kernel_rfl) (by kernel_rfl) (fun _ _ _ h => h) (Or.inl ⟨by rfl, by intro w; go_simp⟩) ?_
  refine wpAny_ready (rs := [7]) (by kernel_rfl) (by simp) ?_
  refine AllReady.cons rfl (fun K hK => ?_) AllReady.nil
  go_simp
  go_wp2_with fail
  refine (HC5.out _).mono ?_
  rintro e w5 ⟨v5, hs, ⟨hf5, rfl, hr⟩ | ⟨hf, rfl⟩⟩
  rotate_left
  · go_wp2_with fail
    refine ⟨rfl, v5, HS4.out.trans ((WS.drewN wb v4 w4 1).trans hs), .inr ⟨?_, rfl⟩⟩
    unfold txB at *
    simp only [List.length_append] at *
    omega
  go_wp2_with fail
  refine wpAny_done (by kernel_rfl) ?_ _
  have HS5 := hid (HS4.out.trans ((WS.drewN wb v4 w4 1).trans hs))
  have HR5 := hid hr
  have HM5 := hid (HM4.out.old ((WS.drewN wb v4 w4 1).trans hs) HR4.out)
  clear hs hr HC5 HS4 HR4 HM4
  clear hna hme
  have m := HM5.out
  have HC6 := hid (fun q => wwhole_any ⟨rb, po + 5, none⟩ r.now (w5.drewN q) (most := most) (v := v5) (wb := wb) HR5.out hm m.c5 m.b3.1 m.b3.2)
  have hna := na_whole wb
  have hme := me_whole
  clear m
  go_wp2_with fail
  refine wp_region_any (by kernel_rfl) ?_
  try (change wpAny _ _ _ _ _ _ _ (World.drew _))
  refine wpAny_take (i := 0) (v := iw wb) rfl (by kernel_rfl) (by kernel_rfl) (by kernel_rfl) (fun _ _ _ h => h) (Or.inl ⟨by rfl, by intro w; go_simp⟩) ?_
  refine wpAny_take (i := 1) (v := .pointer (some ⟨rb, po, none⟩)) rfl (by kernel_rfl) (by kernel_rfl) (by kernel_rfl) (fun _ _ _ h => h) (Or.inl ⟨by rfl, by intro w; go_simp⟩) ?_
  refine wpAny_take (i := 2) (v := .pointer (some ⟨rb, po, none⟩)) rfl (by kernel_rfl) (by kernel_rfl) (by kernel_rfl) (fun _ _ _ h => h) (Or.inl ⟨by rfl, by intro w; go_simp⟩) ?_
  refine wpAny_take (i := 3) (v := .pointer (some ⟨rb, po + 5, none⟩)) rfl (by kernel_rfl) (by kernel_rfl) (by kernel_rfl) (fun _ _ _ h => h) (Or.inl ⟨by rfl, by intro w; go_simp⟩) ?_
  refine wpAny_ready (rs := [4]) (by kernel_rfl) (by simp) ?_
  refine AllReady.cons rfl (fun K hK => ?_) AllReady.nil
  go_simp
  refine hK _ _ ?_
  clear hK K
  refine wpAny_take (i := 5) (v := .func (.method "larder/codec.whole") #[iw wb] #[]) rfl (by kernel_rfl) (by kernel_rfl) (by kernel_rfl) (fun _ _ _ h => h) (Or.inl ⟨by rfl, by intro w; go_simp⟩) ?_
  refine wpAny_take (i := 6) (v := iw wb) rfl (by kernel_rfl) (by kernel_rfl) (by kernel_rfl) (fun _ _ _ h => h) (Or.inl ⟨by rfl, by intro w; go_simp⟩) ?_
  refine wpAny_ready (rs := [7]) (by kernel_rfl) (by simp) ?_
  refine AllReady.cons rfl (fun K hK => ?_) AllReady.nil
  go_simp
  go_wp2_with fail
  refine (HC6.out _).mono ?_
  rintro e w6 ⟨v6, hs, ⟨hf6, rfl, hr⟩ | ⟨hf, rfl⟩⟩
  rotate_left
  · go_wp2_with fail
    refine ⟨rfl, v6, HS5.out.trans ((WS.drewN wb v5 w5 1).trans hs), .inr ⟨?_, rfl⟩⟩
    unfold txB at *
    simp only [List.length_append] at *
    omega
  go_wp2_with fail
  refine wpAny_done (by kernel_rfl) ?_ _
  have HS6 := hid (HS5.out.trans ((WS.drewN wb v5 w5 1).trans hs))
  have HR6 := hid hr
  have HM6 := hid (HM5.out.old ((WS.drewN wb v5 w5 1).trans hs) HR5.out)
  clear hs hr HC6 HS5 HR5 HM5
  clear hna hme
  go_wp2_with fail
  go_end0
  refine ⟨v6, HS6.out, .inl ⟨?_, rfl, ?_⟩⟩
  · unfold txB at *
    simp only [List.length_append] at *
    omega
  · have := HR6.out
    unfold txB
    simp only [List.append_assoc] at *
    exact this
end Go.Proofs.Ytfhicemfhkhjaab
