/-
  codec's forms with a writer: a line.
-/
import Derived.Test.YtfhicemfhkhjaabCw1
import Derived.Deep.RegionHeld3
import Derived.Deep.RegionWith
namespace Go.Proofs.Ytfhicemfhkhjaab
open Go.RowKit
set_option maxRecDepth 100000

/-- a writer as a carrier -/
abbrev iw (wb : Nat) : Value := .iface 84 (.pointer (some ⟨wb, 0, none⟩))
theorem Wp.cell {wb : Nat} {v v' : Value} {w w' : World} (h : WS wb v w v' w') (g j : Nat) (u : Value) (hc : w.cell? ⟨g, j, none⟩ = some u) (h1 : g ≠ wb) (h2 : v.ownBlock ≠ some g) : w'.cell? ⟨g, j, none⟩ = some u := by
  have hlt := World.block_lt_of_cell? _ _ hc
  have hb := h.block g hlt h1 h2
  simp only [World.cell?] at hc ⊢
  rw [hb]
  exact hc
theorem Wp.yes {wb most : Nat} {v : Value} {l m : List UInt8} {r e : Ending} {w w' : World} (h : Wp wb v l most m r w e w') (hf : l.length + m.length ≤ most) : e = r ∧ ∃ v', WS wb v w v' w' ∧ WR w' wb v' (l ++ m) most := by
  obtain ⟨v', hs, ⟨_, he, hr⟩ | ⟨hn, _⟩⟩ := h
  · exact ⟨he, v', hs, hr⟩
  · omega
theorem Wp.no {wb most : Nat} {v : Value} {l m : List UInt8} {r e : Ending} {w w' : World} (h : Wp wb v l most m r w e w') (hf : ¬ l.length + m.length ≤ most) : e = flt 1 0 ∧ ∃ v', WS wb v w v' w' := by
  obtain ⟨v', hs, ⟨hn, _⟩ | ⟨_, he⟩⟩ := h
  · omega
  · exact ⟨he, v', hs⟩
theorem na_text (wb : Nat) (w : World) : (nilAhead 292 84 (.pointer (some ⟨wb, 0, none⟩)) "larder/codec.text").run Try.prog w = .ok (some false) w := by kernel_rfl
theorem na_whole (wb : Nat) (w : World) : (nilAhead 292 84 (.pointer (some ⟨wb, 0, none⟩)) "larder/codec.whole").run Try.prog w = .ok (some false) w := by kernel_rfl
theorem na_count (wb : Nat) (w : World) : (nilAhead 292 84 (.pointer (some ⟨wb, 0, none⟩)) "larder/codec.count").run Try.prog w = .ok (some false) w := by kernel_rfl
theorem me_text (v : Value) (w : World) : (Go.method 292 84 v "larder/codec.text").run Try.prog w = .ok (112, v) w := by kernel_rfl
theorem me_whole (v : Value) (w : World) : (Go.method 292 84 v "larder/codec.whole").run Try.prog w = .ok (113, v) w := by kernel_rfl
theorem me_count (v : Value) (w : World) : (Go.method 292 84 v "larder/codec.count").run Try.prog w = .ok (110, v) w := by kernel_rfl
theorem me_key (v : Value) (w : World) : (Go.method 292 84 v "larder/codec.key").run Try.prog w = .ok (111, v) w := by kernel_rfl
set_option maxHeartbeats 1000000 in
theorem wline_any (cb g off : Nat) (s : ByteArray) (n : Int) (w : World) {wb most : Nat} {v : Value} {l : List UInt8} (h : WR w wb v l most) (hm : most ≤ 1000000000)
    (hcb : w.cell? ⟨cb, 0, none⟩ = some (iw wb)) (hcw : cb ≠ wb ∧ v.ownBlock ≠ some cb)
    (c0 : w.cell? ⟨g, off, none⟩ = some (.string s)) (c1 : w.cell? ⟨g, off + 1, none⟩ = some (.int .i64 n)) (hg : g ≠ wb ∧ v.ownBlock ≠ some g)
    (hs : s.size ≤ 1000000000000) (h0 : -9223372036854775808 ≤ n) (h1 : n ≤ 9223372036854775807) :
    Calls Try.prog 94 #[.pointer (some ⟨g, off, none⟩), .pointer (some ⟨cb, 0, none⟩)] w fun e w' => Wp wb v l most (grp s.size ++ s.data.toList ++ grp (foldI n)) (.returned (.tuple #[])) w e w' := by
  have hmf : ∀ (fn : Fn) (first cap : Array Value) (w : World), (Instr.makeFunc fn first cap).run Try.prog w = .ok (.func fn first cap) w := fun _ _ _ _ => rfl
  have HT := hid (fun n => wtext_any ⟨g, off, none⟩ s (w.drewN n) (most := most) (v := v) (l := l) (wb := wb) h hm c0 hs)
  have HCB := hid hcb
  have HCW := hid hcw
  have HG := hid hg
  have HC1 := hid c1
  have hna := na_text wb
  have hme := me_text
  clear h c0 c1 hcw hg
  go_enter Try.func94, Try.ntmps94
  go_wp2_with fail
  refine wp_region_any (by kernel_rfl) ?_
  try (change wpAny _ _ _ _ _ _ _ (World.drew _))
  refine wpAny_take (i := 1) (v := .pointer (some ⟨g, off, none⟩)) rfl (by kernel_rfl) (by kernel_rfl) (by kernel_rfl) (fun _ _ _ h => h) (Or.inl ⟨by rfl, by intro w; go_simp⟩) ?_
  refine wpAny_take (i := 2) (v := .pointer (some ⟨g, off, none⟩)) rfl (by kernel_rfl) (by kernel_rfl) (by kernel_rfl) (fun _ _ _ h => h) (Or.inl ⟨by rfl, by intro w; go_simp⟩) ?_
  refine wpAny_take (i := 3) (v := .pointer (some ⟨g, off, none⟩)) rfl (by kernel_rfl) (by kernel_rfl) (by kernel_rfl) (fun _ _ _ h => h) (Or.inl ⟨by rfl, by intro w; go_simp⟩) ?_
  refine wpAny_ready (rs := [0]) (by kernel_rfl) (by simp) ?_
  refine AllReady.cons rfl (fun K hK => ?_) AllReady.nil
  go_simp
  refine hK _ _ ?_
  clear hK K
  refine wpAny_ready (rs := [4]) (by kernel_rfl) (by simp) ?_
  refine AllReady.cons rfl (fun K hK => ?_) AllReady.nil
  go_simp
  refine hK _ _ ?_
  clear hK K
  refine wpAny_take (i := 5) (v := .func (.method "larder/codec.text") #[iw wb] #[]) rfl (by kernel_rfl) (by kernel_rfl) (by kernel_rfl) (fun _ _ _ h => h) (Or.inl ⟨by rfl, by intro w; go_simp⟩) ?_
  refine wpAny_take (i := 6) (v := iw wb) rfl (by kernel_rfl) (by kernel_rfl) (by kernel_rfl) (fun _ _ _ h => h) (Or.inl ⟨by rfl, by intro w; go_simp⟩) ?_
  refine wpAny_ready (rs := [7]) (by kernel_rfl) (by simp) ?_
  refine AllReady.cons rfl (fun K hK => ?_) AllReady.nil
  go_simp
  go_wp2_with fail
  refine (HT.out _).mono ?_
  rintro e w2 ⟨v2, hs2, ⟨hf2, rfl, hr2⟩ | ⟨hf2, rfl⟩⟩
  · go_wp2_with fail
    refine wpAny_done (by kernel_rfl) ?_ _
    have HS2 := hid ((WS.drewN wb v w 1).trans hs2)
    have hcb2 := Wp.cell hs2 cb 0 _ HCB.out HCW.out.1 HCW.out.2
    have hcw2 : cb ≠ wb ∧ v2.ownBlock ≠ some cb := ⟨HCW.out.1, fun e => by
      rcases hs2.own cb e with e | e
      · exact HCW.out.2 e
      · have := World.block_lt_of_cell? _ _ HCB.out
        have e : w.heap.size ≤ cb := e
        simp at this
        omega⟩
    have c12 := Wp.cell hs2 g (off + 1) _ HC1.out HG.out.1 HG.out.2
    have HT2 := hid (fun q => wwhole_any ⟨g, off + 1, none⟩ n (w2.drewN q) (most := most) (v := v2) (wb := wb) hr2 hm c12 h0 h1)
    have hna := na_whole wb
    have hme := me_whole
    have HF := hid hf2
    clear hs2 hr2 HT hf2
    clear hcb
    go_wp2_with fail
    refine wp_region_any (by kernel_rfl) ?_
    try (change wpAny _ _ _ _ _ _ _ (World.drew _))
    refine wpAny_take (i := 1) (v := .pointer (some ⟨g, off, none⟩)) rfl (by kernel_rfl) (by kernel_rfl) (by kernel_rfl) (fun _ _ _ h => h) (Or.inl ⟨by rfl, by intro w; go_simp⟩) ?_
    refine wpAny_take (i := 2) (v := .pointer (some ⟨g, off, none⟩)) rfl (by kernel_rfl) (by kernel_rfl) (by kernel_rfl) (fun _ _ _ h => h) (Or.inl ⟨by rfl, by intro w; go_simp⟩) ?_
    refine wpAny_take (i := 3) (v := .pointer (some ⟨g, off + 1, none⟩)) rfl (by kernel_rfl) (by kernel_rfl) (by kernel_rfl) (fun _ _ _ h => h) (Or.inl ⟨by rfl, by intro w; go_simp⟩) ?_
    refine wpAny_ready (rs := [0]) (by kernel_rfl) (by simp) ?_
    refine AllReady.cons rfl (fun K hK => ?_) AllReady.nil
    go_simp
    refine hK _ _ ?_
    clear hK K
    refine wpAny_ready (rs := [4]) (by kernel_rfl) (by simp) ?_
    refine AllReady.cons rfl (fun K hK => ?_) AllReady.nil
    go_simp
    refine hK _ _ ?_
    clear hK K
    refine wpAny_take (i := 5) (v := .func (.method "larder/codec.whole") #[iw wb] #[]) rfl (by kernel_rfl) (by kernel_rfl) (by kernel_rfl) (fun _ _ _ h => h) (Or.inl ⟨by rfl, by intro w; go_simp⟩) ?_
    refine wpAny_take (i := 6) (v := iw wb) rfl (by kernel_rfl) (by kernel_rfl) (by kernel_rfl) (fun _ _ _ h => h) (Or.inl ⟨by rfl, by intro w; go_simp⟩) ?_
    refine wpAny_ready (rs := [7]) (by kernel_rfl) (by simp) ?_
    refine AllReady.cons rfl (fun K hK => ?_) AllReady.nil
    go_simp
    go_wp2_with fail
    refine (HT2.out _).mono ?_
    rintro e w3 ⟨v3, hs3, ⟨hf3, rfl, hr3⟩ | ⟨hf3, rfl⟩⟩
    · go_wp2_with fail
      refine wpAny_done (by kernel_rfl) ?_ _
      go_wp2_with fail
      go_end0
      refine ⟨v3, HS2.out.trans ((WS.drewN wb v2 w2 1).trans hs3), .inl ⟨?_, rfl, ?_⟩⟩
      · rw [List.length_append] at hf3 ⊢; omega
      · rw [← List.append_assoc]; exact hr3
    · go_wp2_with fail
      refine ⟨rfl, v3, HS2.out.trans ((WS.drewN wb v2 w2 1).trans hs3), .inr ⟨?_, rfl⟩⟩
      rw [List.length_append] at hf3 ⊢; omega
  · go_wp2_with fail
    refine ⟨rfl, v2, (WS.drewN _ _ _ _).trans hs2, .inr ⟨?_, rfl⟩⟩
    rw [List.length_append]
    omega
end Go.Proofs.Ytfhicemfhkhjaab
