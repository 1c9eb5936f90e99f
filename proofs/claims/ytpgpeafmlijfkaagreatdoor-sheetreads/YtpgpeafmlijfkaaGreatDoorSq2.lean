/-
  Sheets: the Reader's Builder, which lies in its tenth cell. Laid by v18.py.
-/
import Derived.Test.YtpgpeafmlijfkaaGreatDoorSq1
namespace Go.Proofs.YtpgpeafmlijfkaaGreatDoor
open Go.RowKit
set_option maxRecDepth 100000
set_option linter.unusedVariables false
set_option linter.unusedSimpArgs false

theorem Kg.drew {G : Nat → Prop} {a w : World} (h : Kg G a w) : Kg G a w.drew := ⟨h.os, h.tape, h.output, h.size, h.block⟩
theorem R18.drew {w : World} {b : Nat} {v0 v1 v2 v3 v4 v5 v6 v7 v8 v9 v10 v11 v12 v13 v14 v15 v16 v17 : Value} (h : R18 w b v0 v1 v2 v3 v4 v5 v6 v7 v8 v9 v10 v11 v12 v13 v14 v15 v16 v17) : R18 w.drew b v0 v1 v2 v3 v4 v5 v6 v7 v8 v9 v10 v11 v12 v13 v14 v15 v16 v17 := h
theorem rsize : (Tryz.prog.info? 73).map (·.size) = some 2 := by kernel_rfl
theorem rlies : liesAt Tryz.prog Tryz.prog.depth 77 (18 / Tryz.prog.cellsOf 77) 10 73 1 = true := by kernel_rfl
theorem u8i : (Tryz.prog.info? 5).map (fun i => (i.zero, i.size, i.bytes)) = some (some (.int .u8 0), 1, 1) := by kernel_rfl

set_option maxHeartbeats 1000000 in
theorem len_raw (b : Nat) {v0 v1 v2 v3 v4 v5 v6 v7 v8 v9 v10 v12 v13 v14 v15 v16 v17 : Value} (ao : Option Addr) (n cap : Nat) (w : World) (h : R18 w b v0 v1 v2 v3 v4 v5 v6 v7 v8 v9 v10 (.slice ao n cap) v12 v13 v14 v15 v16 v17) :
    Calls Tryz.prog 65 #[.pointer (some ⟨b, 10, none⟩)] w fun e w' => e = .returned (.int .i64 (n : Int)) ∧ w' = w := by
  have c11 := h.c11
  clear h
  go_enter Tryz.func65, Tryz.ntmps65
  go_wp2
  go_ret
  exact ⟨rfl, rfl⟩

set_option maxHeartbeats 1000000 in
theorem copyCheck_old (b : Nat) {v0 v1 v2 v3 v4 v5 v6 v7 v8 v9 v11 v12 v13 v14 v15 v16 v17 : Value} (w : World) (h : R18 w b v0 v1 v2 v3 v4 v5 v6 v7 v8 v9 (.pointer (some ⟨b, 10, none⟩)) v11 v12 v13 v14 v15 v16 v17) :
    Calls Tryz.prog 82 #[.pointer (some ⟨b, 10, none⟩)] w fun e w' => e = .returned (.tuple #[]) ∧ w' = w := by
  obtain ⟨j, hj, hjs⟩ := Option.map_eq_some_iff.1 rsize
  have hnq := fun w => Lib.run_neq_ptr_same (P := Tryz.prog) w ⟨b, 10, none⟩ Tryz.underlying71 hj
  have c10 := h.c10
  clear h
  go_enter Tryz.func82, Tryz.ntmps82
  go_wp2
  go_end0
  exact ⟨rfl, rfl⟩
set_option maxHeartbeats 1000000 in
theorem copyCheck_new (b : Nat) {v0 v1 v2 v3 v4 v5 v6 v7 v8 v9 v11 v12 v13 v14 v15 v16 v17 : Value} (w : World) (h : R18 w b v0 v1 v2 v3 v4 v5 v6 v7 v8 v9 (.pointer none) v11 v12 v13 v14 v15 v16 v17) :
    Calls Tryz.prog 82 #[.pointer (some ⟨b, 10, none⟩)] w fun e w' => e = .returned (.tuple #[]) ∧ w' = w.setCell ⟨b, 10, none⟩ (.pointer (some ⟨b, 10, none⟩)) := by
  obtain ⟨j, hj, hjs⟩ := Option.map_eq_some_iff.1 rsize
  have hsh : w.shape? b = some (77, 18) := by
    have h' : w.heap[b]? = _ := h
    simp [World.shape?, h']
  have k1 := Lib.run_to_unsafe (P := Tryz.prog) w ⟨b, 10, none⟩ Tryz.underlying71 Tryz.underlying105 hj (by rw [hjs]; decide) hsh (show 10 < 18 by decide)
  have k3 := Lib.run_from_unsafe (P := Tryz.prog) w ⟨b, 10, none⟩ Tryz.underlying105 Tryz.underlying71 hj hsh rlies
  have k2 : ∀ x, (callFunc 95 #[x]).run Tryz.prog w = .ok (.value x) w := fun x => by
    rw [run_callFunc_extern Tryz.func95 (by kernel_rfl) (by kernel_rfl) (by kernel_rfl) (e := Extern.AbiNoEscape.same) (by kernel_rfl), Lib.run_noEscape]
    rfl
  have c10 := h.c10
  have f10 := h.fr 10
  clear h
  go_enter Tryz.func82, Tryz.ntmps82
  go_wp2
  go_end0
  exact ⟨rfl, rfl⟩
theorem copyCheck_raw (b : Nat) {v0 v1 v2 v3 v4 v5 v6 v7 v8 v9 v10 v11 v12 v13 v14 v15 v16 v17 : Value} (w : World) (hp : v10 = .pointer none ∨ v10 = .pointer (some ⟨b, 10, none⟩)) (h : R18 w b v0 v1 v2 v3 v4 v5 v6 v7 v8 v9 v10 v11 v12 v13 v14 v15 v16 v17) :
    Calls Tryz.prog 82 #[.pointer (some ⟨b, 10, none⟩)] w fun e w' => e = .returned (.tuple #[]) ∧ R18 w' b v0 v1 v2 v3 v4 v5 v6 v7 v8 v9 (.pointer (some ⟨b, 10, none⟩)) v11 v12 v13 v14 v15 v16 v17 ∧ w.grownBy w' (some b) := by
  rcases hp with rfl | rfl
  · refine (copyCheck_new b w h).mono ?_
    rintro e w' ⟨rfl, rfl⟩
    have hs := (Below.refl 0 w).setCell (p := ⟨b, 10, none⟩) (Nat.zero_le _) (.pointer (some ⟨b, 10, none⟩))
    exact ⟨rfl, h.put10 _, hs.os, hs.tape, hs.output, hs.size, fun k hk hne => Below.heap_setCell _ _ _ _ (by show k ≠ b; rintro rfl; exact hne rfl)⟩
  · refine (copyCheck_old b w h).mono ?_
    rintro e w' ⟨rfl, rfl⟩
    exact ⟨rfl, h, rfl, rfl, rfl, Nat.le_refl _, fun _ _ _ => rfl⟩

theorem cells_snoc (l : List UInt8) (c : UInt8) : Lib.byteCells (l ++ [c]) = Lib.byteCells l ++ [.int .u8 (c.toNat : Int)] := by simp [Lib.byteCells]
theorem own_ne {w : World} {b : Nat} {base e size n : Nat} {v : Value} {xs : List Value} {cs : Array Value} {t : TypeId} {fr : Nat × Nat} (h : w.ownsRow base e size v n xs) (hb : w.heap[b]? = some (.cells cs t fr)) (hne : t ≠ e) : v.ownBlock ≠ some b := by
  rcases h.2 with ⟨rfl, _⟩ | ⟨g, cap, cur, rfl, _, hg, _⟩
  · simp [Value.ownBlock]
  · intro hh
    have : g = b := by simpa [Value.ownBlock] using hh
    subst this
    rw [hb] at hg
    cases hg
    exact hne rfl
theorem own_slice {w : World} {base e size n : Nat} {v : Value} {xs : List Value} (h : w.ownsRow base e size v n xs) : ∃ ao cap, v = .slice ao n cap := by
  rcases h.2 with ⟨rfl, h0⟩ | ⟨g, cap, cur, rfl, _⟩
  · subst h0; exact ⟨_, _, rfl⟩
  · exact ⟨_, _, rfl⟩
theorem own_keep {w w' : World} {b base e size n : Nat} {v : Value} {xs : List Value} (h : w.ownsRow base e size v n xs) (hg : w.grownBy w' (some b)) (hne : v.ownBlock ≠ some b) : w'.ownsRow base e size v n xs := World.ownsRow.kept h hg (.inr hne)

set_option maxHeartbeats 2000000 in
theorem writeByte_raw (b : Nat) {v0 v1 v2 v3 v4 v5 v6 v7 v8 v9 v10 v11 v12 v13 v14 v15 v16 v17 : Value} (l : List UInt8) (c : UInt8) (z : Int) (w : World) (hp : v10 = .pointer none ∨ v10 = .pointer (some ⟨b, 10, none⟩)) (h : R18 w b v0 v1 v2 v3 v4 v5 v6 v7 v8 v9 v10 v11 v12 v13 v14 v15 v16 v17) (ho : w.ownsRow 0 5 1 v11 l.length (Lib.byteCells l)) (hz : z = (c.toNat : Int)) (hlen : l.length ≤ 1000000) :
    Calls Tryz.prog 74 #[.pointer (some ⟨b, 10, none⟩), .int .u8 z] w fun e w' => e = .returned .nilIface ∧ ∃ u, R18 w' b v0 v1 v2 v3 v4 v5 v6 v7 v8 v9 (.pointer (some ⟨b, 10, none⟩)) u v12 v13 v14 v15 v16 v17 ∧ w'.ownsRow 0 5 1 u (l.length + 1) (Lib.byteCells (l ++ [c])) ∧ (∀ k, k < w.heap.size → k ≠ b → v11.ownBlock ≠ some k → w'.heap[k]? = w.heap[k]?) ∧ (u.ownBlock = v11.ownBlock ∨ ∃ g, u.ownBlock = some g ∧ w.heap.size ≤ g) ∧ w'.os = w.os ∧ w'.tape = w.tape ∧ w'.output = w.output ∧ w.heap.size ≤ w'.heap.size := by
  subst hz
  have hne : v11.ownBlock ≠ some b := own_ne ho h (by decide)
  have hbl := h.lt
  obtain ⟨ao, cp, rfl⟩ := own_slice ho
  have HC : Hid (_) := copyCheck_raw b w hp h
  have HO := hid ho
  have HN := hid hne
  clear h ho hne hp
  go_enter Tryz.func74, Tryz.ntmps74
  go_wp2_with fail
  refine Calls.mono HC.out ?_
  rintro e w1 ⟨rfl, h1, hg1⟩
  clear HC
  have ho1 := own_keep HO.out hg1 HN.out
  have hz1 := hg1.size
  have c11 := h1.c11
  have H1 := hid h1
  have HG1 := hid hg1
  have HO1 := hid ho1
  clear h1 hg1 ho1
  go_wp2_with (at_builtin; refine wpList_append_own_at _ rfl _ _ 37 rfl 0 5 _ (.int .u8 0) 1 1 Tryz.underlying37 (info_parts u8i).choose_spec.1 (info_parts u8i).choose_spec.2.1 (info_parts u8i).choose_spec.2.2.1 (info_parts u8i).choose_spec.2.2.2 rfl (by decide) _ _ _ rfl (HO1.out.alloc _) ⟨w1.heap.size, 0, none⟩ 1 1 [.int .u8 (c.toNat : Int)] rfl rfl ?c1 ?c2 ?c3 ?c4 ?c5 ?_)
  case c1 =>
    intro j u hj
    match j, hj with
    | 0, hj => simp at hj; subst hj; simp [Addr.add]
  case c2 => intro u hu; simp at hu; subst hu; rfl
  case c3 => unfold maxLen; omega
  case c4 => omega
  case c5 => omega
  intro v' w2 hown' hgrow _ hblk
  have h2 : R18 w2 b v0 v1 v2 v3 v4 v5 v6 v7 v8 v9 (.pointer (some ⟨b, 10, none⟩)) (.slice ao l.length cp) v12 v13 v14 v15 v16 v17 := by
    refine (hgrow.block b (by simp; omega) (fun e => HN.out e.symm)).trans ?_
    exact H1.out.alloc _
  have f11 := h2.fr 11
  have d11 := h2.c11
  have H2 := hid h2
  have HW2 := hid hown'
  have HGr := hid hgrow
  obtain ⟨ao', cap', rfl⟩ := own_slice hown'
  clear h2 hown' hgrow
  go_wp2
  go_ret
  have hs := (Below.refl 0 w2).setCell (p := ⟨b, 11, none⟩) (Nat.zero_le _) (.slice ao' (l.length + 1) cap')
  refine ⟨rfl, _, H2.out.put11 _, ?_, ?_, ?_, ?_⟩
  · rw [cells_snoc]
    have hne2 : (Value.slice ao' (l.length + 1) cap').ownBlock ≠ some b := own_ne HW2.out H2.out (by decide)
    exact own_keep HW2.out ⟨hs.os, hs.tape, hs.output, hs.size, fun k hk hne => Below.heap_setCell _ _ _ _ (by show k ≠ b; rintro rfl; exact hne rfl)⟩ hne2
  · intro k hk hkb hkv
    rw [Below.heap_setCell _ _ _ _ (by show k ≠ b; exact hkb), HGr.out.block k (by simp; omega) (fun e => hkv e.symm), Lib.alloc_old w1 _ k (by omega), HG1.out.block k hk (fun e => hkb (by cases e; rfl))]
  · rcases hblk with hb | hb
    · exact .inl hb
    · exact .inr ⟨_, hb, by first | omega | (simp; omega)⟩
  · refine ⟨hs.os.trans (HGr.out.os.trans HG1.out.os), hs.tape.trans (HGr.out.tape.trans HG1.out.tape), hs.output.trans (HGr.out.output.trans HG1.out.output), Nat.le_trans hz1 (Nat.le_trans ?_ hs.size)⟩
    have := HGr.out.size
    simp at this
    omega

theorem Kg.freeze {G : Nat → Prop} {a w : World} (h : Kg G a w) {g : Nat} (hg : ¬ G g) (n : Nat) : Kg G a (w.freeze ⟨g, 0, none⟩ n) := by
  have hb := fun B (hB : B ≤ g) => Lib.below_freeze (Below.refl B w) (p := ⟨g, 0, none⟩) hB n
  have h0 := hb 0 (Nat.zero_le _)
  refine ⟨h0.os.trans h.os, h0.tape.trans h.tape, h0.output.trans h.output, Nat.le_trans h.size h0.size, fun k hk => ?_⟩
  refine Eq.trans ?_ (h.block k hk)
  have hkg : k ≠ g := by rintro rfl; exact hg hk
  unfold World.freeze
  split
  · rfl
  · simp only [Array.getElem?_modify]
    rw [if_neg (fun e => hkg e.symm)]
set_option maxHeartbeats 2000000 in
theorem string_nil (b : Nat) {v0 v1 v2 v3 v4 v5 v6 v7 v8 v9 v10 v12 v13 v14 v15 v16 v17 : Value} (w : World) (h : R18 w b v0 v1 v2 v3 v4 v5 v6 v7 v8 v9 v10 (.slice none 0 0) v12 v13 v14 v15 v16 v17) :
    Calls Tryz.prog 66 #[.pointer (some ⟨b, 10, none⟩)] w fun e w' => e = .returned (.string ⟨#[]⟩) ∧ w' = w.drew := by
  have hUS := fun (W : World) (q : Option Addr) => Lib.run_unsafeString_none (P := Tryz.prog) W 162 3 9 q
  have c11 : w.drew.cell? ⟨b, 11, none⟩ = some (.slice none 0 0) := h.c11
  have hSD : (Builtin.unsafeSliceData_ #[37] 162 #[.slice none 0 0]).run Tryz.prog w.drew = .ok (.pointer none) w.drew := rfl
  clear h
  go_enter Tryz.func66, Tryz.ntmps66
  go_wp2
  go_region
  all_goals (go_wp2; go_ret; exact ⟨rfl, rfl⟩)
set_option maxHeartbeats 2000000 in
theorem string_some (b : Nat) {v0 v1 v2 v3 v4 v5 v6 v7 v8 v9 v10 v12 v13 v14 v15 v16 v17 : Value} (l : List UInt8) (g cap : Nat) (w : World) (h : R18 w b v0 v1 v2 v3 v4 v5 v6 v7 v8 v9 v10 (.slice (some ⟨g, 0, none⟩) l.length cap) v12 v13 v14 v15 v16 v17) (ho : w.ownsRow 0 5 1 (.slice (some ⟨g, 0, none⟩) l.length cap) l.length (Lib.byteCells l)) (h0 : l ≠ []) :
    Calls Tryz.prog 66 #[.pointer (some ⟨b, 10, none⟩)] w fun e w' => e = .returned (.string ⟨l.toArray⟩) ∧ w' = w.drew.freeze ⟨g, 0, none⟩ l.length := by
  have hl0 : l.length ≠ 0 := by simpa using h0
  have hcells := ho.cells (g := g) rfl
  obtain ⟨cur, hg, hnc, hcm, hcs⟩ : ∃ cur, w.heap[g]? = some (.cells cur 5 (0, 0)) ∧ l.length ≤ cap ∧ cap ≤ maxLen ∧ cur.size = cap * 1 := by
    rcases ho.2 with ⟨hn, _⟩ | ⟨g', cap', cur, hv, _, hg, h1, h2, h3, _⟩
    · cases hn
    · cases hv
      exact ⟨cur, hg, h1, h2, h3⟩
  have c11 : w.drew.cell? ⟨b, 11, none⟩ = some (.slice (some ⟨g, 0, none⟩) l.length cap) := h.c11
  have hSD : (Builtin.unsafeSliceData_ #[37] 162 #[.slice (some ⟨g, 0, none⟩) l.length cap]).run Tryz.prog w.drew = .ok (.pointer (some ⟨g, 0, none⟩)) w.drew :=
    Lib.run_unsafeSliceData_row _ _ _ _ _ _ (by omega)
  have hUS : (Builtin.unsafeString_ #[162, 3] 9 #[.pointer (some ⟨g, 0, none⟩), .int .i64 l.length]).run Tryz.prog w.drew = .ok (.string ⟨l.toArray⟩) (w.drew.freeze ⟨g, 0, none⟩ l.length) := by
    refine Lib.run_unsafeString_row w.drew 162 3 9 5 Tryz.underlying162 (by kernel_rfl) g cur.size (by have hg' : w.drew.heap[g]? = some (.cells cur 5 (0, 0)) := hg; simp [World.shape?, hg']) l h0 (by omega) (by unfold maxLen at hcm; omega) ?_
    intro j x hx
    exact hcells j (.int .u8 x.toNat) (by simp [Lib.byteCells, hx])
  clear h ho hg hcells
  go_enter Tryz.func66, Tryz.ntmps66
  go_wp2
  go_region
  all_goals (go_wp2; go_ret; exact ⟨rfl, rfl⟩)
set_option maxHeartbeats 1000000 in
theorem reset_raw (b : Nat) {v0 v1 v2 v3 v4 v5 v6 v7 v8 v9 v10 v11 v12 v13 v14 v15 v16 v17 : Value} (w : World) (h : R18 w b v0 v1 v2 v3 v4 v5 v6 v7 v8 v9 v10 v11 v12 v13 v14 v15 v16 v17) :
    Calls Tryz.prog 114 #[.pointer (some ⟨b, 10, none⟩)] w fun e w' => e = .returned (.tuple #[]) ∧ w' = (w.setCell ⟨b, 10, none⟩ (.pointer none)).setCell ⟨b, 11, none⟩ (.slice none 0 0) := by
  have f10 := h.fr 10
  have f11 := h.fr 11
  have c10 := h.c10
  have c11 := h.c11
  clear h
  go_enter Tryz.func114, Tryz.ntmps114
  go_wp2
  go_end0
  exact ⟨rfl, rfl⟩
end Go.Proofs.YtpgpeafmlijfkaaGreatDoor
