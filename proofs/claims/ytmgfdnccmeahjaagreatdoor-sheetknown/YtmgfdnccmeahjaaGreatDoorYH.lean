/-
  Sq2: Sheets: the Reader's Builder, which lies in its tenth cell. Laid by v18.py.
  Sq3: Sheets: the Reader's states in memory. Laid by v18.py.
  Sq4: Sheets: the Reader's steps: a byte added, a cell ended. Laid by v18.py and mksq4.py.
  Sf1: Sheets: errors.Is of a Fault.
  Snt: Sheets: the errors of reading, as package-level variables hold them.
  Sq5: Sheets: a cell ended. Laid by v18.py.
  Sq6: Sheets: a cell ended, a row ended. Laid by v18.py.
-/
import Derived.Test.YtmgfdnccmeahjaaGreatDoorYF
import Derived.LaidEql
import Derived.Stop.Asserts
import Derived.RowKitTokens
import Derived.Stop.LaidErr
import Derived.Deep.RegionLaw
namespace Go.Proofs.YtmgfdnccmeahjaaGreatDoor
open Go.RowKit
set_option maxRecDepth 100000
set_option linter.unusedVariables false
set_option linter.unusedSimpArgs false

theorem Kg.drew {G : Nat → Prop} {a w : World} (h : Kg G a w) : Kg G a w.drew := ⟨h.os, h.tape, h.output, h.size, h.block⟩
theorem R18.drew {w : World} {b : Nat} {v0 v1 v2 v3 v4 v5 v6 v7 v8 v9 v10 v11 v12 v13 v14 v15 v16 v17 : Value} (h : R18 w b v0 v1 v2 v3 v4 v5 v6 v7 v8 v9 v10 v11 v12 v13 v14 v15 v16 v17) : R18 w.drew b v0 v1 v2 v3 v4 v5 v6 v7 v8 v9 v10 v11 v12 v13 v14 v15 v16 v17 := h
theorem rsize : (Tryz.prog.info? 94).map (·.size) = some 2 := by kernel_rfl
theorem rlies : liesAt Tryz.prog Tryz.prog.depth 179 (18 / Tryz.prog.cellsOf 179) 10 94 1 = true := by kernel_rfl
theorem u8i : (Tryz.prog.info? 5).map (fun i => (i.zero, i.size, i.bytes)) = some (some (.int .u8 0), 1, 1) := by kernel_rfl

set_option maxHeartbeats 1000000 in
theorem len_raw (b : Nat) {v0 v1 v2 v3 v4 v5 v6 v7 v8 v9 v10 v12 v13 v14 v15 v16 v17 : Value} (ao : Option Addr) (n cap : Nat) (w : World) (h : R18 w b v0 v1 v2 v3 v4 v5 v6 v7 v8 v9 v10 (.slice ao n cap) v12 v13 v14 v15 v16 v17) :
    Calls Tryz.prog 38 #[.pointer (some ⟨b, 10, none⟩)] w fun e w' => e = .returned (.int .i64 (n : Int)) ∧ w' = w := by
  have c11 := h.c11
  clear h
  go_enter Tryz.func38, Tryz.ntmps38
  go_wp2
  go_ret
  exact ⟨rfl, rfl⟩

set_option maxHeartbeats 1000000 in
theorem copyCheck_old (b : Nat) {v0 v1 v2 v3 v4 v5 v6 v7 v8 v9 v11 v12 v13 v14 v15 v16 v17 : Value} (w : World) (h : R18 w b v0 v1 v2 v3 v4 v5 v6 v7 v8 v9 (.pointer (some ⟨b, 10, none⟩)) v11 v12 v13 v14 v15 v16 v17) :
    Calls Tryz.prog 114 #[.pointer (some ⟨b, 10, none⟩)] w fun e w' => e = .returned (.tuple #[]) ∧ w' = w := by
  obtain ⟨j, hj, hjs⟩ := Option.map_eq_some_iff.1 rsize
  have hnq := fun w => Lib.run_neq_ptr_same (P := Tryz.prog) w ⟨b, 10, none⟩ Tryz.underlying91 hj
  have c10 := h.c10
  clear h
  go_enter Tryz.func114, Tryz.ntmps114
  go_wp2
  go_end0
  exact ⟨rfl, rfl⟩
set_option maxHeartbeats 1000000 in
theorem copyCheck_new (b : Nat) {v0 v1 v2 v3 v4 v5 v6 v7 v8 v9 v11 v12 v13 v14 v15 v16 v17 : Value} (w : World) (h : R18 w b v0 v1 v2 v3 v4 v5 v6 v7 v8 v9 (.pointer none) v11 v12 v13 v14 v15 v16 v17) :
    Calls Tryz.prog 114 #[.pointer (some ⟨b, 10, none⟩)] w fun e w' => e = .returned (.tuple #[]) ∧ w' = w.setCell ⟨b, 10, none⟩ (.pointer (some ⟨b, 10, none⟩)) := by
  obtain ⟨j, hj, hjs⟩ := Option.map_eq_some_iff.1 rsize
  have hsh : w.shape? b = some (179, 18) := by
    have h' : w.heap[b]? = _ := h
    simp [World.shape?, h']
  have k1 := Lib.run_to_unsafe (P := Tryz.prog) w ⟨b, 10, none⟩ Tryz.underlying91 Tryz.underlying104 hj (by rw [hjs]; decide) hsh (show 10 < 18 by decide)
  have k3 := Lib.run_from_unsafe (P := Tryz.prog) w ⟨b, 10, none⟩ Tryz.underlying104 Tryz.underlying91 hj hsh rlies
  have k2 : ∀ x, (callFunc 152 #[x]).run Tryz.prog w = .ok (.value x) w := fun x => by
    rw [run_callFunc_extern Tryz.func152 (by kernel_rfl) (by kernel_rfl) (by kernel_rfl) (e := Extern.AbiNoEscape.same) (by kernel_rfl), Lib.run_noEscape]
    rfl
  have c10 := h.c10
  have f10 := h.fr 10
  clear h
  go_enter Tryz.func114, Tryz.ntmps114
  go_wp2
  go_end0
  exact ⟨rfl, rfl⟩
theorem copyCheck_raw (b : Nat) {v0 v1 v2 v3 v4 v5 v6 v7 v8 v9 v10 v11 v12 v13 v14 v15 v16 v17 : Value} (w : World) (hp : v10 = .pointer none ∨ v10 = .pointer (some ⟨b, 10, none⟩)) (h : R18 w b v0 v1 v2 v3 v4 v5 v6 v7 v8 v9 v10 v11 v12 v13 v14 v15 v16 v17) :
    Calls Tryz.prog 114 #[.pointer (some ⟨b, 10, none⟩)] w fun e w' => e = .returned (.tuple #[]) ∧ R18 w' b v0 v1 v2 v3 v4 v5 v6 v7 v8 v9 (.pointer (some ⟨b, 10, none⟩)) v11 v12 v13 v14 v15 v16 v17 ∧ w.grownBy w' (some b) := by
  rcases hp with rfl | rfl
  · refine (copyCheck_new b w h).mono ?_
    rintro e w' ⟨rfl, rfl⟩
    have hs := (Below.refl 0 w).setCell (p := ⟨b, 10, none⟩) (Nat.zero_le _) (.pointer (some ⟨b, 10, none⟩))
    exact ⟨rfl, h.put10 _, hs.os, hs.tape, hs.output, hs.size, fun k hk hne => Below.heap_setCell _ _ _ _ (by show k ≠ b; rintro rfl; exact hne rfl)⟩
  · refine (copyCheck_old b w h).mono ?_
    rintro e w' ⟨rfl, rfl⟩
    exact ⟨rfl, h, rfl, rfl, rfl, Nat.le_refl _, fun _ _ _ => rfl⟩

theorem cells_snoc (l : List UInt8) (c : UInt8) : Lib.byteCells (l ++ [c]) = Lib.byteCells l ++ [.int .u8 (c.toNat : Int)] := by simp [Lib.byteCells]
theorem own_ne {w : World} {b : Nat} {base e size n : Nat} {v : Value} {xs : List Value} {cs : Array Value} {t : TypeId} {fr : Nat × Nat} (h : w.ownsRow base e size v n xs) (hb : w.heap[b]? = some (.cells cs t fr)) (hne : t ≠ e) : v.ownBlock ≠ some b := by
  rcases h.2 with ⟨rfl, _⟩ | ⟨g, cap, cur, rfl, _, hg, _⟩
  · simp [Value.ownBlock]
  · intro hh
    have : g = b := by simpa [Value.ownBlock] using hh
    subst this
    rw [hb] at hg
    cases hg
    exact hne rfl
theorem own_slice {w : World} {base e size n : Nat} {v : Value} {xs : List Value} (h : w.ownsRow base e size v n xs) : ∃ ao cap, v = .slice ao n cap := by
  rcases h.2 with ⟨rfl, h0⟩ | ⟨g, cap, cur, rfl, _⟩
  · subst h0; exact ⟨_, _, rfl⟩
  · exact ⟨_, _, rfl⟩
theorem own_keep {w w' : World} {b base e size n : Nat} {v : Value} {xs : List Value} (h : w.ownsRow base e size v n xs) (hg : w.grownBy w' (some b)) (hne : v.ownBlock ≠ some b) : w'.ownsRow base e size v n xs := World.ownsRow.kept h hg (.inr hne)

set_option maxHeartbeats 2000000 in
theorem writeByte_raw (b : Nat) {v0 v1 v2 v3 v4 v5 v6 v7 v8 v9 v10 v11 v12 v13 v14 v15 v16 v17 : Value} (l : List UInt8) (c : UInt8) (z : Int) (w : World) (hp : v10 = .pointer none ∨ v10 = .pointer (some ⟨b, 10, none⟩)) (h : R18 w b v0 v1 v2 v3 v4 v5 v6 v7 v8 v9 v10 v11 v12 v13 v14 v15 v16 v17) (ho : w.ownsRow 0 5 1 v11 l.length (Lib.byteCells l)) (hz : z = (c.toNat : Int)) (hlen : l.length ≤ 1000000) :
    Calls Tryz.prog 83 #[.pointer (some ⟨b, 10, none⟩), .int .u8 z] w fun e w' => e = .returned .nilIface ∧ ∃ u, R18 w' b v0 v1 v2 v3 v4 v5 v6 v7 v8 v9 (.pointer (some ⟨b, 10, none⟩)) u v12 v13 v14 v15 v16 v17 ∧ w'.ownsRow 0 5 1 u (l.length + 1) (Lib.byteCells (l ++ [c])) ∧ (∀ k, k < w.heap.size → k ≠ b → v11.ownBlock ≠ some k → w'.heap[k]? = w.heap[k]?) ∧ (u.ownBlock = v11.ownBlock ∨ ∃ g, u.ownBlock = some g ∧ w.heap.size ≤ g) ∧ w'.os = w.os ∧ w'.tape = w.tape ∧ w'.output = w.output ∧ w.heap.size ≤ w'.heap.size := by
  subst hz
  have hne : v11.ownBlock ≠ some b := own_ne ho h (by decide)
  have hbl := h.lt
  obtain ⟨ao, cp, rfl⟩ := own_slice ho
  have HC : Hid (_) := copyCheck_raw b w hp h
  have HO := hid ho
  have HN := hid hne
  clear h ho hne hp
  go_enter Tryz.func83, Tryz.ntmps83
  go_wp2_with fail
  refine Calls.mono HC.out ?_
  rintro e w1 ⟨rfl, h1, hg1⟩
  clear HC
  have ho1 := own_keep HO.out hg1 HN.out
  have hz1 := hg1.size
  have c11 := h1.c11
  have H1 := hid h1
  have HG1 := hid hg1
  have HO1 := hid ho1
  clear h1 hg1 ho1
  go_wp2_with (at_builtin; refine wpList_append_own_at _ rfl _ _ 92 rfl 0 5 _ (.int .u8 0) 1 1 Tryz.underlying92 (info_parts u8i).choose_spec.1 (info_parts u8i).choose_spec.2.1 (info_parts u8i).choose_spec.2.2.1 (info_parts u8i).choose_spec.2.2.2 rfl (by decide) _ _ _ rfl (HO1.out.alloc _) ⟨w1.heap.size, 0, none⟩ 1 1 [.int .u8 (c.toNat : Int)] rfl rfl ?c1 ?c2 ?c3 ?c4 ?c5 ?_)
  case c1 =>
    intro j u hj
    match j, hj with
    | 0, hj => simp at hj; subst hj; simp [Addr.add]
  case c2 => intro u hu; simp at hu; subst hu; rfl
  case c3 => unfold maxLen; omega
  case c4 => omega
  case c5 => omega
  intro v' w2 hown' hgrow _ hblk
  have h2 : R18 w2 b v0 v1 v2 v3 v4 v5 v6 v7 v8 v9 (.pointer (some ⟨b, 10, none⟩)) (.slice ao l.length cp) v12 v13 v14 v15 v16 v17 := by
    refine (hgrow.block b (by simp; omega) (fun e => HN.out e.symm)).trans ?_
    exact H1.out.alloc _
  have f11 := h2.fr 11
  have d11 := h2.c11
  have H2 := hid h2
  have HW2 := hid hown'
  have HGr := hid hgrow
  obtain ⟨ao', cap', rfl⟩ := own_slice hown'
  clear h2 hown' hgrow
  go_wp2
  go_ret
  have hs := (Below.refl 0 w2).setCell (p := ⟨b, 11, none⟩) (Nat.zero_le _) (.slice ao' (l.length + 1) cap')
  refine ⟨rfl, _, H2.out.put11 _, ?_, ?_, ?_, ?_⟩
  · rw [cells_snoc]
    have hne2 : (Value.slice ao' (l.length + 1) cap').ownBlock ≠ some b := own_ne HW2.out H2.out (by decide)
    exact own_keep HW2.out ⟨hs.os, hs.tape, hs.output, hs.size, fun k hk hne => Below.heap_setCell _ _ _ _ (by show k ≠ b; rintro rfl; exact hne rfl)⟩ hne2
  · intro k hk hkb hkv
    rw [Below.heap_setCell _ _ _ _ (by show k ≠ b; exact hkb), HGr.out.block k (by simp; omega) (fun e => hkv e.symm), Lib.alloc_old w1 _ k (by omega), HG1.out.block k hk (fun e => hkb (by cases e; rfl))]
  · rcases hblk with hb | hb
    · exact .inl hb
    · exact .inr ⟨_, hb, by first | omega | (simp; omega)⟩
  · refine ⟨hs.os.trans (HGr.out.os.trans HG1.out.os), hs.tape.trans (HGr.out.tape.trans HG1.out.tape), hs.output.trans (HGr.out.output.trans HG1.out.output), Nat.le_trans hz1 (Nat.le_trans ?_ hs.size)⟩
    have := HGr.out.size
    simp at this
    omega

theorem Kg.freeze {G : Nat → Prop} {a w : World} (h : Kg G a w) {g : Nat} (hg : ¬ G g) (n : Nat) : Kg G a (w.freeze ⟨g, 0, none⟩ n) := by
  have hb := fun B (hB : B ≤ g) => Lib.below_freeze (Below.refl B w) (p := ⟨g, 0, none⟩) hB n
  have h0 := hb 0 (Nat.zero_le _)
  refine ⟨h0.os.trans h.os, h0.tape.trans h.tape, h0.output.trans h.output, Nat.le_trans h.size h0.size, fun k hk => ?_⟩
  refine Eq.trans ?_ (h.block k hk)
  have hkg : k ≠ g := by rintro rfl; exact hg hk
  unfold World.freeze
  split
  · rfl
  · simp only [Array.getElem?_modify]
    rw [if_neg (fun e => hkg e.symm)]
set_option maxHeartbeats 2000000 in
theorem string_nil (b : Nat) {v0 v1 v2 v3 v4 v5 v6 v7 v8 v9 v10 v12 v13 v14 v15 v16 v17 : Value} (w : World) (h : R18 w b v0 v1 v2 v3 v4 v5 v6 v7 v8 v9 v10 (.slice none 0 0) v12 v13 v14 v15 v16 v17) :
    Calls Tryz.prog 39 #[.pointer (some ⟨b, 10, none⟩)] w fun e w' => e = .returned (.string ⟨#[]⟩) ∧ w' = w.drew := by
  have hUS := fun (W : World) (q : Option Addr) => Lib.run_unsafeString_none (P := Tryz.prog) W 156 3 9 q
  have c11 : w.drew.cell? ⟨b, 11, none⟩ = some (.slice none 0 0) := h.c11
  have hSD : (Builtin.unsafeSliceData_ #[92] 156 #[.slice none 0 0]).run Tryz.prog w.drew = .ok (.pointer none) w.drew := rfl
  clear h
  go_enter Tryz.func39, Tryz.ntmps39
  go_wp2
  go_region
  all_goals (go_wp2; go_ret; exact ⟨rfl, rfl⟩)
set_option maxHeartbeats 2000000 in
theorem string_some (b : Nat) {v0 v1 v2 v3 v4 v5 v6 v7 v8 v9 v10 v12 v13 v14 v15 v16 v17 : Value} (l : List UInt8) (g cap : Nat) (w : World) (h : R18 w b v0 v1 v2 v3 v4 v5 v6 v7 v8 v9 v10 (.slice (some ⟨g, 0, none⟩) l.length cap) v12 v13 v14 v15 v16 v17) (ho : w.ownsRow 0 5 1 (.slice (some ⟨g, 0, none⟩) l.length cap) l.length (Lib.byteCells l)) (h0 : l ≠ []) :
    Calls Tryz.prog 39 #[.pointer (some ⟨b, 10, none⟩)] w fun e w' => e = .returned (.string ⟨l.toArray⟩) ∧ w' = w.drew.freeze ⟨g, 0, none⟩ l.length := by
  have hl0 : l.length ≠ 0 := by simpa using h0
  have hcells := ho.cells (g := g) rfl
  obtain ⟨cur, hg, hnc, hcm, hcs⟩ : ∃ cur, w.heap[g]? = some (.cells cur 5 (0, 0)) ∧ l.length ≤ cap ∧ cap ≤ maxLen ∧ cur.size = cap * 1 := by
    rcases ho.2 with ⟨hn, _⟩ | ⟨g', cap', cur, hv, _, hg, h1, h2, h3, _⟩
    · cases hn
    · cases hv
      exact ⟨cur, hg, h1, h2, h3⟩
  have c11 : w.drew.cell? ⟨b, 11, none⟩ = some (.slice (some ⟨g, 0, none⟩) l.length cap) := h.c11
  have hSD : (Builtin.unsafeSliceData_ #[92] 156 #[.slice (some ⟨g, 0, none⟩) l.length cap]).run Tryz.prog w.drew = .ok (.pointer (some ⟨g, 0, none⟩)) w.drew :=
    Lib.run_unsafeSliceData_row _ _ _ _ _ _ (by omega)
  have hUS : (Builtin.unsafeString_ #[156, 3] 9 #[.pointer (some ⟨g, 0, none⟩), .int .i64 l.length]).run Tryz.prog w.drew = .ok (.string ⟨l.toArray⟩) (w.drew.freeze ⟨g, 0, none⟩ l.length) := by
    refine Lib.run_unsafeString_row w.drew 156 3 9 5 Tryz.underlying156 (by kernel_rfl) g cur.size (by have hg' : w.drew.heap[g]? = some (.cells cur 5 (0, 0)) := hg; simp [World.shape?, hg']) l h0 (by omega) (by unfold maxLen at hcm; omega) ?_
    intro j x hx
    exact hcells j (.int .u8 x.toNat) (by simp [Lib.byteCells, hx])
  clear h ho hg hcells
  go_enter Tryz.func39, Tryz.ntmps39
  go_wp2
  go_region
  all_goals (go_wp2; go_ret; exact ⟨rfl, rfl⟩)
set_option maxHeartbeats 1000000 in
theorem reset_raw (b : Nat) {v0 v1 v2 v3 v4 v5 v6 v7 v8 v9 v10 v11 v12 v13 v14 v15 v16 v17 : Value} (w : World) (h : R18 w b v0 v1 v2 v3 v4 v5 v6 v7 v8 v9 v10 v11 v12 v13 v14 v15 v16 v17) :
    Calls Tryz.prog 276 #[.pointer (some ⟨b, 10, none⟩)] w fun e w' => e = .returned (.tuple #[]) ∧ w' = (w.setCell ⟨b, 10, none⟩ (.pointer none)).setCell ⟨b, 11, none⟩ (.slice none 0 0) := by
  have f10 := h.fr 10
  have f11 := h.fr 11
  have c10 := h.c10
  have c11 := h.c11
  clear h
  go_enter Tryz.func276, Tryz.ntmps276
  go_wp2
  go_end0
  exact ⟨rfl, rfl⟩
end Go.Proofs.YtmgfdnccmeahjaaGreatDoor

namespace Go.Proofs.YtmgfdnccmeahjaaGreatDoor
open Go.RowKit
set_option maxRecDepth 100000
set_option linter.unusedVariables false
set_option linter.unusedSimpArgs false

/-- texts as cells -/
def tl (L : List (List UInt8)) : List Value := L.map fun l => .string ⟨l.toArray⟩
theorem tl_snoc (L : List (List UInt8)) (l : List UInt8) : tl (L ++ [l]) = tl L ++ [.string ⟨l.toArray⟩] := by simp [tl]
/-- the errors: nil, or one of errors.New's make in block A c -/
def erV (A : Nat → Addr) (c : Nat) : Value := if c = 0 then .nilIface else .iface 312 (.pointer (some (A c)))
theorem erV_zero (A : Nat → Addr) : erV A 0 = .nilIface := rfl
theorem erV_pos (A : Nat → Addr) {c : Nat} (h : c ≠ 0) : erV A c = .iface 312 (.pointer (some (A c))) := if_neg h
/-- the rows of V read as the lists of T -/
structure RwS (w : World) (V : List Value) (T : List (List (List UInt8))) : Prop where
  len : V.length = T.length
  row : ∀ j (hj : j < T.length) (hv : j < V.length), w.ownsRow 0 9 1 V[j] T[j].length (tl T[j])
theorem RwS.nil (w : World) : RwS w [] [] := ⟨rfl, fun j hj => absurd hj (Nat.not_lt_zero _)⟩
theorem RwS.snoc {w : World} {V : List Value} {T : List (List (List UInt8))} (h : RwS w V T) {v : Value} {t : List (List UInt8)} (hv : w.ownsRow 0 9 1 v t.length (tl t)) : RwS w (V ++ [v]) (T ++ [t]) := by
  refine ⟨by simp [h.len], fun j hj hj2 => ?_⟩
  have hl := h.len
  by_cases hlt : j < T.length
  · have e1 : (T ++ [t])[j] = T[j] := List.getElem_append_left hlt
    have e2 : (V ++ [v])[j] = V[j]'(by omega) := List.getElem_append_left (by omega)
    rw [e1, e2]
    exact h.row j hlt (by omega)
  · have he : j = T.length := by simp at hj; omega
    subst he
    have e1 : (T ++ [t])[T.length] = t := by simp
    have e2 : (V ++ [v])[T.length] = v := by simp [← hl]
    rw [e1, e2]
    exact hv
theorem RwS.kept {w w' : World} {V : List Value} {T : List (List (List UInt8))} (h : RwS w V T) (hk : ∀ k, (∃ v ∈ V, v.ownBlock = some k) → w'.heap[k]? = w.heap[k]?) : RwS w' V T := by
  refine ⟨h.len, fun j hj hv => ?_⟩
  have hr := h.row j hj hv
  refine ⟨hr.1, ?_⟩
  rcases hr.2 with hn | ⟨g, cap, cur, e, h0, hg, h1⟩
  · exact .inl hn
  · refine .inr ⟨g, cap, cur, e, h0, ?_, h1⟩
    rw [hk g ⟨_, List.getElem_mem hv, by rw [e]; rfl⟩]
    exact hg

/-- no two of these slices share a block -/
def Dj (V : List Value) : Prop := V.Pairwise fun a b => ∀ g, a.ownBlock = some g → b.ownBlock ≠ some g
theorem Dj.nil : Dj [] := List.Pairwise.nil
theorem Dj.snoc {V : List Value} {v : Value} (h : Dj V) (hv : ∀ u ∈ V, ∀ g, u.ownBlock = some g → v.ownBlock ≠ some g) : Dj (V ++ [v]) := by
  unfold Dj
  rw [List.pairwise_append]
  refine ⟨h, List.pairwise_singleton _ _, fun a ha b hb => ?_⟩
  rw [List.mem_singleton.1 hb]
  exact hv a ha
/-- the Reader in block b is in state s; the blocks of G are not its own -/
structure RM (A : Nat → Addr) (G : Nat → Prop) (w : World) (b : Nat) (s : Rs) (bp bv cv tv : Value) (V : List Value) : Prop where
  gs : ∀ k, G k → k < w.heap.size
  nb : ¬ G b
  nbv : ∀ g, bv.ownBlock = some g → ¬ G g
  ncv : ∀ g, cv.ownBlock = some g → ¬ G g
  ntv : ∀ g, tv.ownBlock = some g → ¬ G g
  top : RB w b (nxV b s.md) s.sz s.hp s.op s.ep s.rw s.wd bp bv cv tv s.fp (erV A s.er) false
  bpo : bp = .pointer none ∨ bp = .pointer (some ⟨b, 10, none⟩)
  bz : s.cur = [] → bv = .slice none 0 0
  buf : w.ownsRow 0 5 1 bv s.cur.length (Lib.byteCells s.cur)
  cel : w.ownsRow 0 9 1 cv s.cs.length (tl s.cs)
  tol : w.ownsRow 0 32 1 tv V.length V
  rws : RwS w V s.td
  ap : ∀ v ∈ V, ∀ g, v.ownBlock = some g → cv.ownBlock ≠ some g
  vlt : ∀ v ∈ V, ∀ g, v.ownBlock = some g → ¬ G g
  dis : Dj V
def RX (A : Nat → Addr) (G : Nat → Prop) (w : World) (b : Nat) (s : Rs) : Prop := ∃ bp bv cv tv V, RM A G w b s bp bv cv tv V

/-- another owned row's block is another block -/
theorem own_two {w : World} {b1 e1 s1 n1 b2 e2 s2 n2 : Nat} {v1 v2 : Value} {x1 x2 : List Value} (h1 : w.ownsRow b1 e1 s1 v1 n1 x1) (h2 : w.ownsRow b2 e2 s2 v2 n2 x2) (hne : e1 ≠ e2) : ∀ g, v1.ownBlock = some g → v2.ownBlock ≠ some g := by
  intro g hg
  rcases h1.2 with ⟨rfl, _⟩ | ⟨g1, cap, cur, rfl, _, hb, _⟩
  · simp [Value.ownBlock] at hg
  · have : g1 = g := by simpa [Value.ownBlock] using hg
    subst this
    exact own_ne h2 hb hne
theorem own_of {w w' : World} {base e size n : Nat} {v : Value} {xs : List Value} (h : w.ownsRow base e size v n xs) (hk : ∀ g, v.ownBlock = some g → w'.heap[g]? = w.heap[g]?) : w'.ownsRow base e size v n xs := by
  refine ⟨h.1, ?_⟩
  rcases h.2 with hn | ⟨g, cap, cur, rfl, h0, hg, h1⟩
  · exact .inl hn
  · refine .inr ⟨g, cap, cur, rfl, h0, ?_, h1⟩
    rw [hk g rfl]
    exact hg

/-- only the Reader's block has turned: its rows lie as they lay -/
theorem RM.rows {A : Nat → Addr} {G : Nat → Prop} {w w' : World} {b : Nat} {s : Rs} {bp bv cv tv : Value} {V : List Value} (h : RM A G w b s bp bv cv tv V) (hk : Kg (But w b) w w') :
    w'.ownsRow 0 5 1 bv s.cur.length (Lib.byteCells s.cur) ∧ w'.ownsRow 0 9 1 cv s.cs.length (tl s.cs) ∧ w'.ownsRow 0 32 1 tv V.length V ∧ RwS w' V s.td := by
  have ne : ∀ {e n : Nat} {v : Value} {xs : List Value}, w.ownsRow 0 e 1 v n xs → 179 ≠ e → w'.ownsRow 0 e 1 v n xs := fun {e n v xs} ho hne => own_of ho fun g hg => hk.block g ⟨(World.ownsRow.lt ho g hg).2, fun e => own_ne ho h.top hne (e ▸ hg)⟩
  refine ⟨ne h.buf (by decide), ne h.cel (by decide), ne h.tol (by decide), h.rws.len, fun j hj hv => ne (h.rws.row j hj hv) (by decide)⟩
theorem RM.kg {A : Nat → Addr} {G : Nat → Prop} {w w' : World} {b : Nat} {s : Rs} {bp bv cv tv : Value} {V : List Value} (h : RM A G w b s bp bv cv tv V) (hk : Kg (But w b) w w') : Kg G w w' := hk.mono fun k hG => ⟨h.gs k hG, fun e => h.nb (e ▸ hG)⟩

theorem fail_any (A : Nat → Addr) (G : Nat → Prop) (b : Nat) (s : Rs) (c : Nat) (hc : c ≠ 0) (p : Nat × Nat) (w : World) (h : RX A G w b s) :
    Calls Tryz.prog 119 #[.pointer (some ⟨b, 0, none⟩), .iface 312 (.pointer (some (A c))), plV p] w fun e w' => e = .returned (.tuple #[]) ∧ RX A G w' b (s.fail c p) ∧ Kg G w w' := by
  obtain ⟨bp, bv, cv, tv, V, h⟩ := h
  refine (fail_raw b _ _ _ _ _ _ _ _ _ _ _ _ _ _ _ _ p w h.top).mono ?_
  rintro e w' ⟨rfl, ht, hk⟩
  obtain ⟨r1, r2, r3, r4⟩ := h.rows hk
  refine ⟨rfl, ⟨.pointer none, .slice none 0 0, .slice none 0 0, tv, V, ?_⟩, h.kg hk⟩
  exact { gs := fun k hG => Nat.lt_of_lt_of_le (h.gs k hG) hk.size, nb := h.nb, nbv := by simp [Value.ownBlock], ncv := by simp [Value.ownBlock], ntv := h.ntv, top := by rw [← erV_pos A hc] at ht; exact ht, bpo := .inl rfl, bz := fun _ => rfl, buf := World.ownsRow_nil _ _ _ _, cel := World.ownsRow_nil _ _ _ _, tol := r3, rws := r4, ap := by simp [Value.ownBlock], vlt := h.vlt, dis := h.dis }
end Go.Proofs.YtmgfdnccmeahjaaGreatDoor

namespace Go.Proofs.YtmgfdnccmeahjaaGreatDoor
open Go.RowKit
set_option maxRecDepth 100000
set_option linter.unusedVariables false
set_option linter.unusedSimpArgs false

/-- the variables of reading -/
def gls : List Nat := [8, 4, 3, 9, 10, 11, 12, 5, 13, 0]
/-- the variables of reading hold errors of errors.New's make, each in its block -/
structure HE (A : Nat → Addr) (w : World) : Prop where
  e1 : w.cell? ⟨8, 0, none⟩ = some (.iface 312 (.pointer (some (A 1))))
  e2 : w.cell? ⟨4, 0, none⟩ = some (.iface 312 (.pointer (some (A 2))))
  e3 : w.cell? ⟨3, 0, none⟩ = some (.iface 312 (.pointer (some (A 3))))
  e4 : w.cell? ⟨9, 0, none⟩ = some (.iface 312 (.pointer (some (A 4))))
  e5 : w.cell? ⟨10, 0, none⟩ = some (.iface 312 (.pointer (some (A 5))))
  e6 : w.cell? ⟨11, 0, none⟩ = some (.iface 312 (.pointer (some (A 6))))
  e7 : w.cell? ⟨12, 0, none⟩ = some (.iface 312 (.pointer (some (A 7))))
  e8 : w.cell? ⟨5, 0, none⟩ = some (.iface 312 (.pointer (some (A 8))))
  e9 : w.cell? ⟨13, 0, none⟩ = some (.iface 312 (.pointer (some (A 9))))
  e20 : w.cell? ⟨0, 0, none⟩ = some (.iface 312 (.pointer (some (A 20))))
theorem HE.kept {A : Nat → Addr} {G : Nat → Prop} {w w' : World} (h : HE A w) (hk : Kg G w w') (hG : ∀ k, k ∈ gls → G k) : HE A w' where
  e1 := hk.cell (p := ⟨8, 0, none⟩) (hG _ (by decide)) h.e1
  e2 := hk.cell (p := ⟨4, 0, none⟩) (hG _ (by decide)) h.e2
  e3 := hk.cell (p := ⟨3, 0, none⟩) (hG _ (by decide)) h.e3
  e4 := hk.cell (p := ⟨9, 0, none⟩) (hG _ (by decide)) h.e4
  e5 := hk.cell (p := ⟨10, 0, none⟩) (hG _ (by decide)) h.e5
  e6 := hk.cell (p := ⟨11, 0, none⟩) (hG _ (by decide)) h.e6
  e7 := hk.cell (p := ⟨12, 0, none⟩) (hG _ (by decide)) h.e7
  e8 := hk.cell (p := ⟨5, 0, none⟩) (hG _ (by decide)) h.e8
  e9 := hk.cell (p := ⟨13, 0, none⟩) (hG _ (by decide)) h.e9
  e20 := hk.cell (p := ⟨0, 0, none⟩) (hG _ (by decide)) h.e20
theorem HE.lt {A : Nat → Addr} {w : World} (h : HE A w) : ∀ k, k ∈ gls → k < w.heap.size := by
  intro k hk
  simp only [gls, List.mem_cons, List.not_mem_nil, or_false] at hk
  rcases hk with rfl | rfl | rfl | rfl | rfl | rfl | rfl | rfl | rfl | rfl
  · exact World.block_lt_of_cell? _ _ h.e1
  · exact World.block_lt_of_cell? _ _ h.e2
  · exact World.block_lt_of_cell? _ _ h.e3
  · exact World.block_lt_of_cell? _ _ h.e4
  · exact World.block_lt_of_cell? _ _ h.e5
  · exact World.block_lt_of_cell? _ _ h.e6
  · exact World.block_lt_of_cell? _ _ h.e7
  · exact World.block_lt_of_cell? _ _ h.e8
  · exact World.block_lt_of_cell? _ _ h.e9
  · exact World.block_lt_of_cell? _ _ h.e20
/-- what every step leans on -/
structure Lea (A : Nat → Addr) (G : Nat → Prop) (w : World) : Prop where
  er : HE A w
  gl : ∀ k, k ∈ gls → G k
theorem Lea.kept {A : Nat → Addr} {G : Nat → Prop} {w w' : World} (h : Lea A G w) (hk : Kg G w w') : Lea A G w' := ⟨h.er.kept hk h.gl, h.gl⟩

/-- what a step comes to -/
def Stp (A : Nat → Addr) (G : Nat → Prop) (w : World) (b : Nat) (s : Rs) (e : Ending) (w' : World) : Prop := e = .returned (.tuple #[]) ∧ RX A G w' b s ∧ Kg G w w'
theorem RX.drew {A : Nat → Addr} {G : Nat → Prop} {w : World} {b : Nat} {s : Rs} (h : RX A G w b s) : RX A G w.drew b s := by
  obtain ⟨bp, bv, cv, tv, V, h⟩ := h
  exact ⟨bp, bv, cv, tv, V, ⟨h.gs, h.nb, h.nbv, h.ncv, h.ntv, h.top, h.bpo, h.bz, h.buf, h.cel, h.tol, ⟨h.rws.len, h.rws.row⟩, h.ap, h.vlt, h.dis⟩⟩
theorem Kg.of_drew {G : Nat → Prop} {w w' : World} (h : Kg G w.drew w') : Kg G w w' := ⟨h.os, h.tape, h.output, h.size, h.block⟩

set_option maxHeartbeats 2000000 in
theorem add_any (A : Nat → Addr) (G : Nat → Prop) (b : Nat) (s : Rs) (c : UInt8) (w : World) (hl : s.cur.length ≤ 4096) (hE : Lea A G w) (h : RX A G w b s) :
    Calls Tryz.prog 219 #[.pointer (some ⟨b, 0, none⟩), .int .i64 (c.toNat : Int)] w fun e w' => Stp A G w b (s.add c) e w' := by
  have hd := RX.drew h
  obtain ⟨bp, bv, cv, tv, V, h⟩ := h
  obtain ⟨ao, cp, rfl⟩ := own_slice h.buf
  have HLn := hid (fun w' (hw : w' = w) => hw ▸ len_raw b ao s.cur.length cp w h.top)
  have c2 := h.top.c2
  have c3 := h.top.c3
  have g5 := hE.er.e5
  by_cases h4 : s.cur.length = 4096
  · have hb : ((s.cur.length : Int) == 4096) = true := by rw [h4]; rfl
    have HF := hid (fail_any A G b s 5 (by decide) s.hp w.drew hd)
    have HS := hid (show s.add c = s.fail 5 s.hp by unfold Rs.add; rw [if_pos h4])
    clear h h4 hd
    go_enter Tryz.func219, Tryz.ntmps219
    go_wp2_with fail
    refine Calls.mono (HLn.out _ rfl) ?_
    rintro e w1 ⟨rfl, rfl⟩
    go_wp2_with fail
    go_region_with (go_at_call 119; refine Calls.mono HF.out ?_; rintro e w' ⟨rfl, hx, hk⟩)
    all_goals (go_wp2; go_end0; exact ⟨rfl, by rw [HS.out]; exact hx, hk.of_drew⟩)
  · have hb : ((s.cur.length : Int) == 4096) = false := by rw [beq_eq_false_iff_ne]; omega
    have HW := hid (writeByte_raw b s.cur c (c.toNat : Int) w h.bpo h.top h.buf rfl (by omega))
    have HS := hid (show s.add c = { s with cur := s.cur ++ [c] } by unfold Rs.add; rw [if_neg h4])
    have HM := hid h
    have hc8 : ((c.toNat : Int)) < 256 := by have := c.toNat_lt; omega
    clear h h4 hd
    go_enter Tryz.func219, Tryz.ntmps219
    go_wp2_with fail
    refine Calls.mono (HLn.out _ rfl) ?_
    rintro e w1 ⟨rfl, rfl⟩
    go_wp2_with fail
    refine Calls.mono HW.out ?_
    rintro e w' ⟨rfl, u, h1, ho1, hk1, hu1, hos, htp, hout, hsz⟩
    go_wp2
    go_end0
    rw [HS.out]
    have hM := HM.out
    have ne1 : ∀ {e n : Nat} {v : Value} {xs : List Value}, w1.ownsRow 0 e 1 v n xs → 179 ≠ e → 5 ≠ e → w'.ownsRow 0 e 1 v n xs := fun {e n v xs} ho hn1 hn2 => own_of ho fun g hg => hk1 g (World.ownsRow.lt ho g hg).2 (fun e => own_ne ho hM.top hn1 (e ▸ hg)) (fun e => own_two hM.buf ho hn2 g e hg)
    have hG : ∀ k, G k → w'.heap[k]? = w1.heap[k]? := fun k hk => hk1 k (hM.gs k hk) (fun e => hM.nb (e ▸ hk)) (fun e => hM.nbv k e hk)
    refine ⟨rfl, ⟨.pointer (some ⟨b, 10, none⟩), u, cv, tv, V, ?_⟩, ⟨hos, htp, hout, hsz, hG⟩⟩
    exact { gs := fun k hk => Nat.lt_of_lt_of_le (hM.gs k hk) hsz, nb := hM.nb,
            nbv := fun g hg hk => by
              rcases hu1 with hu | ⟨g', hg', hge⟩
              · exact hM.nbv g (hu ▸ hg) hk
              · rw [hg'] at hg
                cases hg
                exact absurd (hM.gs _ hk) (by omega),
            ncv := hM.ncv, ntv := hM.ntv, top := h1, bpo := .inr rfl, bz := fun hz => by simp at hz, buf := by simpa using ho1,
            cel := ne1 hM.cel (by decide) (by decide), tol := ne1 hM.tol (by decide) (by decide), rws := ⟨hM.rws.len, fun j hj hv => ne1 (hM.rws.row j hj hv) (by decide) (by decide)⟩, ap := hM.ap, vlt := hM.vlt, dis := hM.dis }
end Go.Proofs.YtmgfdnccmeahjaaGreatDoor

namespace Go.Proofs.YtmgfdnccmeahjaaGreatDoor
open Go.RowKit Go.Extern.Stop Go.Stop Go.Extern
set_option maxRecDepth 100000
set_option linter.unusedVariables false
set_option linter.unusedSimpArgs false

theorem isTypeOf (v : Value) (w : World) : (callFunc 40 #[.iface 312 v]).run Tryz.prog w = .ok (.value (.iface 158 (.agg #[.pointer (some ⟨35, 312, none⟩)]))) w := by kernel_rfl
theorem isComparable (w : World) : (callFunc 303 #[.agg #[.pointer (some ⟨35, 312, none⟩)]]).run Tryz.prog w = .ok (.value (.bool true)) w := by kernel_rfl
theorem isComp : (Tryz.prog.info? 312).map (·.comparable) = some true := by kernel_rfl
theorem isSize : (Tryz.prog.info? 314).map (·.size) = some 1 := by kernel_rfl
theorem noIsE (v : Value) (xT : TypeId) (w : World) : (Instr.typeAssert (.iface 312 v) xT 160 true).run Tryz.prog w = .ok (.tuple #[.nilIface, .bool false]) w := run_typeAssert_lacksB Tryz.underlying160 (by kernel_rfl) (by kernel_rfl) v xT w
theorem noUnwrapE (v : Value) (xT : TypeId) (w : World) : (Instr.typeAssert (.iface 312 v) xT 163 true).run Tryz.prog w = .ok (.tuple #[.nilIface, .bool false]) w := run_typeAssert_lacksB Tryz.underlying163 (by kernel_rfl) (by kernel_rfl) v xT w
theorem noUnwrapsE (v : Value) (xT : TypeId) (w : World) : (Instr.typeAssert (.iface 312 v) xT 164 true).run Tryz.prog w = .ok (.tuple #[.nilIface, .bool false]) w := run_typeAssert_lacksB Tryz.underlying164 (by kernel_rfl) (by kernel_rfl) v xT w
theorem noIsF (v : Value) (xT : TypeId) (w : World) : (Instr.typeAssert (.iface 38 v) xT 160 true).run Tryz.prog w = .ok (.tuple #[.nilIface, .bool false]) w := run_typeAssert_lacksB Tryz.underlying160 (by kernel_rfl) (by kernel_rfl) v xT w
theorem hasUnwrapF (v : Value) (xT : TypeId) (w : World) : (Instr.typeAssert (.iface 38 v) xT 163 true).run Tryz.prog w = .ok (.tuple #[.iface 38 v, .bool true]) w := run_typeAssert_hasB Tryz.underlying163 (by kernel_rfl) v xT w
theorem faultVs (vx vy : Value) (w : World) : (binOp .eql 27 (.iface 38 vx) (.iface 312 vy)).run Tryz.prog w = .ok (.bool false) w := run_eql_iface_types _ _ vx vy Tryz.underlying27 (by decide) w

set_option maxHeartbeats 1000000 in
theorem unwrap_any (f : Nat) (x y : Value) (t : TypeId) (v : Value) (w : World) (h : w.heap[f]? = some (.cells #[x, y, .iface t v] 42 (0, 0))) :
    Calls Tryz.prog 58 #[.pointer (some ⟨f, 0, none⟩)] w fun e w' => e = .returned (.iface t v) ∧ w' = w := by
  have c2 : w.cell? ⟨f, 2, none⟩ = some (.iface t v) := by rw [Lib.cell_of_heap h]; rfl
  clear h
  go_enter Tryz.func58, Tryz.ntmps58
  go_wp2
  go_ret
  exact ⟨rfl, rfl⟩

set_option maxHeartbeats 2000000 in
theorem is0_fault_same (f : Nat) (a : Addr) (x y : Value) (w : World) (h : w.heap[f]? = some (.cells #[x, y, .iface 312 (.pointer (some a))] 42 (0, 0))) :
    Calls Tryz.prog 41 #[.iface 38 (.pointer (some ⟨f, 0, none⟩)), .iface 312 (.pointer (some a)), .bool true] w fun e w' => e = .returned (.bool true) ∧ w' = w := by
  obtain ⟨i, hi, hcmp⟩ := Option.map_eq_some_iff.1 isComp
  obtain ⟨j, hj, hjs⟩ := Option.map_eq_some_iff.1 isSize
  have heq := run_eql_iface_ptr_same (P := Tryz.prog) w a Tryz.underlying27 Tryz.underlying312 hi hcmp hj
  have nF := noIsF
  have uF := hasUnwrapF
  have qF := faultVs
  have HU := hid (unwrap_any f x y _ _ w h)
  clear h
  go_enter Tryz.func41, Tryz.ntmps41
  go_wp2
  refine wp_loop_rounds 2 ?_
  rw [rounds_succ]
  go_wp2_with fail
  refine Calls.mono HU.out ?_
  rintro e w1 ⟨rfl, hw⟩
  replace hw := hw.symm
  subst hw
  go_wp2
  rw [rounds_succ]
  go_wp2
  go_ret
  exact ⟨rfl, rfl⟩
set_option maxHeartbeats 2000000 in
theorem is0_fault_other (f : Nat) (a b : Addr) (x y : Value) (ca cb : Array Value) (ta tb : TypeId) (w : World) (h : w.heap[f]? = some (.cells #[x, y, .iface 312 (.pointer (some a))] 42 (0, 0))) (hne : a ≠ b) (ha : w.heap[a.block]? = some (.cells ca ta (0, 0))) (hb : w.heap[b.block]? = some (.cells cb tb (0, 0))) :
    Calls Tryz.prog 41 #[.iface 38 (.pointer (some ⟨f, 0, none⟩)), .iface 312 (.pointer (some b)), .bool true] w fun e w' => e = .returned (.bool false) ∧ w' = w := by
  obtain ⟨i, hi, hcmp⟩ := Option.map_eq_some_iff.1 isComp
  obtain ⟨j, hj, hjs⟩ := Option.map_eq_some_iff.1 isSize
  have heq := run_eql_iface_ptr_other (P := Tryz.prog) w Tryz.underlying27 Tryz.underlying312 hi hcmp hj (by rw [hjs]; decide) hne ha hb
  have nF := noIsF
  have uF := hasUnwrapF
  have qF := faultVs
  have nE := noIsE
  have uE := noUnwrapE
  have vE := noUnwrapsE
  have HU := hid (unwrap_any f x y _ _ w h)
  clear h ha hb
  go_enter Tryz.func41, Tryz.ntmps41
  go_wp2
  refine wp_loop_rounds 2 ?_
  rw [rounds_succ]
  go_wp2_with fail
  refine Calls.mono HU.out ?_
  rintro e w1 ⟨rfl, hw⟩
  replace hw := hw.symm
  subst hw
  go_wp2
  rw [rounds_succ]
  go_wp2
  go_ret
  exact ⟨rfl, rfl⟩
set_option maxHeartbeats 1000000 in
theorem is_of (x : Value) (p : Addr) (r : Bool) (w : World) (tx : TypeId)
    (h : Calls Tryz.prog 41 #[.iface tx x, .iface 312 (.pointer (some p)), .bool true] w fun e w' => e = .returned (.bool r) ∧ w' = w) :
    Calls Tryz.prog 13 #[.iface tx x, .iface 312 (.pointer (some p))] w fun e w' => e = .returned (.bool r) ∧ w' = w := by
  have tT := isTypeOf
  have cT := isComparable
  have H := hid h
  clear h
  go_enter Tryz.func13, Tryz.ntmps13
  go_wp2_with fail
  refine H.out.mono ?_
  rintro e w1 ⟨rfl, rfl⟩
  go_wp2
  go_ret
  exact ⟨rfl, rfl⟩
/-- a fault of reading -/
def Cod (c : Nat) : Prop := (1 ≤ c ∧ c ≤ 9) ∨ c = 20
theorem Cod.pos {c : Nat} (h : Cod c) : c ≠ 0 := by unfold Cod at h; omega
end Go.Proofs.YtmgfdnccmeahjaaGreatDoor

namespace Go.Proofs.YtmgfdnccmeahjaaGreatDoor
open Go.RowKit Go.ChangeShapes
set_option maxRecDepth 100000
set_option linter.unusedVariables false

theorem laid_one {P : Program} {n nm : String} {text : List UInt8} {r : List (String × DataW Unit)} {W : World} {g : Nat} {ti tp te ts : TypeId} {ms : Array (String × TypeId)} {f : Field}
    (h : laidMet P ((n, .iface nm (.ptr (.agg [.lit (.string text)]))) :: r) W)
    (hg : P.globalNamed n = some g) (ht : (P.globals[g]?).map (·.type) = some ti) (hi : P.underlying ti = some (.interface ms)) (hrow : ∀ u, P.typeName? 3 u = some nm → u = tp)
    (hp : P.underlying tp = some (.pointer te)) (he : P.underlying te = some (.struct #[f])) (hft : f.type = ts) (hfo : f.offset = 0) (hs : P.underlying ts = some .string) (hc : P.cellsOf te = 1) (hcs : P.cellsOf ts = 1) :
    ∃ (a : Addr) (s : ByteArray) (c : Array Value) (t : TypeId), W.cell? ⟨g, 0, none⟩ = some (.iface tp (.pointer (some a))) ∧ W.cell? a = some (.string s) ∧ s.data.toList = text ∧ W.heap[a.block]? = some (.cells c t (0, 0)) := by
  obtain ⟨ps, ⟨g0, t0, cs0, f0, p0, q0, hg0, ht0, hv0, hd0, _, e0⟩, _, hrows⟩ := h
  obtain rfl := Option.some.inj (hg.symm.trans hg0)
  obtain rfl := Option.some.inj (ht.symm.trans ht0)
  subst e0
  obtain ⟨l0⟩ := cs0
  have ok0 : ∀ u v, l0 = [.iface u v] → Value.okWide P W .any 0 u v := fun u v e => by
    subst e
    exact (hrows g 0 (by simp [MemPlace.row])).2 u v (by simpa using World.var?_cell hg0 hv0 0)
  obtain ⟨a0, s0, rfl, hc0, hs0, hz0, rfl⟩ := errorString_of_trod hi hrow hp he hft hfo hs hc hcs hd0 ok0
  obtain ⟨c0, t0, hb0⟩ := (hrows a0.block a0.off (by simp [MemPlace.row])).1
  exact ⟨a0, s0, c0, t0, by simpa using World.var?_cell hg0 hv0 0, hc0, hs0, hb0⟩

theorem starE : "*" ++ "errors.errorString" = "*errors.errorString" := by decide
theorem rowE (u : TypeId) (h : Tryz.prog.typeName? 3 u = some "*errors.errorString") : u = 312 :=
  typeName_ptr_named (nm := "errors.errorString") (by rw [starE]; kernel_rfl) (by kernel_rfl) (by decide) u (by rw [starE]; exact h)

/-- variable g holds an error of errors.New's make with this text, at a -/
def SE (w : World) (g : Nat) (a : Addr) (l : List UInt8) : Prop :=
  w.cell? ⟨g, 0, none⟩ = some (.iface 312 (.pointer (some a))) ∧ (∃ s : ByteArray, w.cell? a = some (.string s) ∧ s.data.toList = l) ∧ ∃ c t, w.heap[a.block]? = some (.cells c t (0, 0))

theorem sent_of {n : String} {text : List UInt8} {r : List (String × DataW Unit)} {W : World} {g : Nat} (h : laidMet Tryz.prog ((n, .iface "*errors.errorString" (.ptr (.agg [.lit (.string text)]))) :: r) W)
    (hg : Tryz.prog.globalNamed n = some g) (ht : (Tryz.prog.globals[g]?).map (·.type) = some 27) : ∃ a, SE W g a text := by
  obtain ⟨a, s, c, t, h1, h2, h3, h4⟩ := laid_one h hg ht Tryz.underlying27 rowE Tryz.underlying312 Tryz.underlying314 rfl rfl Tryz.underlying9 (by kernel_rfl) (by kernel_rfl)
  exact ⟨a, h1, ⟨s, h2, h3⟩, c, t, h4⟩

theorem SE.below {w w' : World} {g : Nat} {a : Addr} {l : List UInt8} (h : SE w g a l) (hb : Below w.heap.size w w') : SE w' g a l := by
  obtain ⟨h1, ⟨s, h2, h3⟩, c, t, h4⟩ := h
  exact ⟨(hb.cell (p := ⟨g, 0, none⟩) (World.block_lt_of_cell? _ _ h1)).trans h1, ⟨s, (hb.cell (p := a) (World.block_lt_of_cell? _ _ h2)).trans h2, h3⟩, c, t, (hb.block _ (Array.getElem?_eq_some_iff.1 h4).1).trans h4⟩
theorem SE.ne {w : World} {g g' : Nat} {a a' : Addr} {l l' : List UInt8} (h : SE w g a l) (h' : SE w g' a' l') (hl : l ≠ l') : a ≠ a' := by
  rintro rfl
  obtain ⟨_, ⟨s, h2, h3⟩, _⟩ := h
  obtain ⟨_, ⟨s', h2', h3'⟩, _⟩ := h'
  rw [h2] at h2'
  have : s = s' := by simpa using h2'
  subst this
  exact hl (h3.symm.trans h3')

end Go.Proofs.YtmgfdnccmeahjaaGreatDoor

namespace Go.Proofs.YtmgfdnccmeahjaaGreatDoor
open Go.RowKit
set_option maxRecDepth 100000
set_option linter.unusedVariables false
set_option linter.unusedSimpArgs false

theorem si : (Tryz.prog.info? 9).map (fun i => (i.zero, i.size, i.bytes)) = some (some (.string ⟨#[]⟩), 1, 16) := by kernel_rfl
theorem ssi : (Tryz.prog.info? 32).map (fun i => (i.zero, i.size, i.bytes)) = some (some (.slice none 0 0), 1, 24) := by kernel_rfl
theorem set_grown (w : World) (b j : Nat) (u : Value) : w.grownBy (w.setCell ⟨b, j, none⟩ u) (some b) := by
  have hs := (Below.refl 0 w).setCell (p := ⟨b, j, none⟩) (Nat.zero_le _) u
  exact ⟨hs.os, hs.tape, hs.output, hs.size, fun k hk hne => Below.heap_setCell _ _ _ _ (by show k ≠ b; rintro rfl; exact hne rfl)⟩
/-- an append in a region that draws, by its equation -/
theorem step_app {st : TypeId} {ops : Array Oper} {o : Oper} {a : Act} {w w' : World} {K : Act → World → Prop} {Q : Exit → Act → World → Prop} {E : Prop} {v xv v' : Value}
    (hg : o.guard = none) (s x : Operand) (hop : o.op = Op.call { callee := Callee.builtin Builtin.append, args := #[s, x], argTypes := #[st, st] })
    (hs : a.eval s = v) (hx : a.eval x = xv) (hrun : (Builtin.append_ #[st, st] o.type #[v, xv]).run Tryz.prog w = .ok v' w') (hK : K (a.put o.dst v') w') :
    if Region.wanted o (yielded ops a.tmps) = true then Oper.wp Tryz.prog o a w K Q else E := by
  have hw : Region.wanted o (yielded ops a.tmps) = true := by simp [Region.wanted, hg]
  rw [if_pos hw]
  unfold Oper.wp
  simp [execOp, hop, resolve, invoke, builtin, hs, hx, hrun, Result.andThen]
  exact hK

set_option maxHeartbeats 4000000 in
theorem rowEnd_of (b : Nat) {v0 v1 v2 v3 v4 v5 v6 v7 v8 v9 v10 v11 v12 v13 v14 v15 v16 v17 : Value} (l : List UInt8) (cs : List (List UInt8)) (w W1 : World) (h : R18 w b v0 v1 v2 v3 v4 v5 v6 v7 v8 v9 v10 v11 v12 v13 v14 v15 v16 v17)
    (hs : Calls Tryz.prog 39 #[.pointer (some ⟨b, 10, none⟩)] w.drew fun e w' => e = .returned (.string ⟨l.toArray⟩) ∧ w' = W1)
    (h1 : R18 W1 b v0 v1 v2 v3 v4 v5 v6 v7 v8 v9 v10 v11 v12 v13 v14 v15 v16 v17) (ho : W1.ownsRow 0 9 1 v12 cs.length (tl cs)) (hlen : cs.length ≤ 1000000) :
    Calls Tryz.prog 258 #[.pointer (some ⟨b, 10, none⟩)] w fun e w' => e = .returned (.tuple #[]) ∧ ∃ u, R18 w' b v0 v1 v2 v3 v4 v5 v6 v7 v8 v9 (.pointer none) (.slice none 0 0) u v13 v14 v15 v16 v17 ∧ w'.ownsRow 0 9 1 u (cs.length + 1) (tl (cs ++ [l])) ∧ (∀ k, k < W1.heap.size → k ≠ b → v12.ownBlock ≠ some k → w'.heap[k]? = W1.heap[k]?) ∧ (u.ownBlock = v12.ownBlock ∨ ∃ g, u.ownBlock = some g ∧ W1.heap.size ≤ g) ∧ w'.os = W1.os ∧ w'.tape = W1.tape ∧ w'.output = W1.output ∧ W1.heap.size ≤ w'.heap.size := by
  have hne : v12.ownBlock ≠ some b := own_ne ho h1 (by decide)
  obtain ⟨ao, cp, rfl⟩ := own_slice ho
  obtain ⟨i, hi, hz, hsz, hby⟩ := info_parts si
  obtain ⟨W2, hW2⟩ : ∃ W2, W2 = W1.alloc (.cells #[.string ⟨l.toArray⟩] 9) := ⟨_, rfl⟩
  have h2 : R18 W2 b v0 v1 v2 v3 v4 v5 v6 v7 v8 v9 v10 v11 (.slice ao cs.length cp) v13 v14 v15 v16 v17 := hW2 ▸ h1.alloc _
  have hn2 : W2.heap[W1.heap.size]? = some (.cells #[.string ⟨l.toArray⟩] 9 (0, 0)) := hW2 ▸ heap_alloc_new _ _
  have ho2 : W2.ownsRow 0 9 1 (.slice ao cs.length cp) cs.length (tl cs) := hW2 ▸ ho.alloc _
  have hz2 : W2.heap.size = W1.heap.size + 1 := by rw [hW2]; simp
  obtain ⟨v', w3, hrun, hown, hgrow, _, hblk⟩ := run_append_own_at (P := Tryz.prog) W2 0 32 32 9 i _ 1 16 Tryz.underlying32 hi hz hsz hby rfl (by decide) _ _ _ ho2 ⟨W1.heap.size, 0, none⟩ 1 1 [.string ⟨l.toArray⟩] rfl (by
    intro j u hj
    match j, hj with
    | 0, hj => simp at hj; subst hj; rw [Addr.add_lit, Lib.cell_of_heap hn2]; rfl) (by intro u hu; simp at hu; subst hu; rfl) (by unfold maxLen; omega) (by omega) (Nat.zero_le _)
  obtain ⟨ao', cap', rfl⟩ := own_slice hown
  have h3 : R18 w3 b v0 v1 v2 v3 v4 v5 v6 v7 v8 v9 v10 v11 (.slice ao cs.length cp) v13 v14 v15 v16 v17 := (hgrow.block b (by have := h1.lt; omega) (fun e => hne e.symm)).trans h2
  have c12a : w.drew.cell? ⟨b, 12, none⟩ = some (.slice ao cs.length cp) := h.c12
  have c12b := h1.c12
  have c12c := h2.c12
  have f12 := h3.fr 12
  have d12 := h3.c12
  have HS := hid hs
  have H3 := hid h3
  have HO := hid hown
  have HGr := hid hgrow
  have HB := hid hblk
  have HW2 := hid hW2
  have h4 : R18 (w3.setCell ⟨b, 12, none⟩ (.slice ao' (cs.length + 1) cap')) b v0 v1 v2 v3 v4 v5 v6 v7 v8 v9 v10 v11 (.slice ao' (cs.length + 1) cap') v13 v14 v15 v16 v17 := h3.put12 _
  have HRs := hid (reset_raw b _ h4)
  have q1 := set_grown w3 b 12 (.slice ao' (cs.length + 1) cap')
  have q2 := set_grown (w3.setCell ⟨b, 12, none⟩ (.slice ao' (cs.length + 1) cap')) b 10 (.pointer none)
  have q3 := set_grown ((w3.setCell ⟨b, 12, none⟩ (.slice ao' (cs.length + 1) cap')).setCell ⟨b, 10, none⟩ (.pointer none)) b 11 (.slice none 0 0)
  have hne3 : (Value.slice ao' (cs.length + 1) cap').ownBlock ≠ some b := own_ne hown h3 (by decide)
  have hfin : ∃ u, R18 (((w3.setCell ⟨b, 12, none⟩ (.slice ao' (cs.length + 1) cap')).setCell ⟨b, 10, none⟩ (.pointer none)).setCell ⟨b, 11, none⟩ (.slice none 0 0)) b v0 v1 v2 v3 v4 v5 v6 v7 v8 v9 (.pointer none) (.slice none 0 0) u v13 v14 v15 v16 v17 ∧ World.ownsRow (((w3.setCell ⟨b, 12, none⟩ (.slice ao' (cs.length + 1) cap')).setCell ⟨b, 10, none⟩ (.pointer none)).setCell ⟨b, 11, none⟩ (.slice none 0 0)) 0 9 1 u (cs.length + 1) (tl (cs ++ [l])) ∧ (∀ k, k < W1.heap.size → k ≠ b → (Value.slice ao cs.length cp).ownBlock ≠ some k → (((w3.setCell ⟨b, 12, none⟩ (.slice ao' (cs.length + 1) cap')).setCell ⟨b, 10, none⟩ (.pointer none)).setCell ⟨b, 11, none⟩ (.slice none 0 0)).heap[k]? = W1.heap[k]?) ∧ (u.ownBlock = (Value.slice ao cs.length cp).ownBlock ∨ ∃ g, u.ownBlock = some g ∧ W1.heap.size ≤ g) ∧ (((w3.setCell ⟨b, 12, none⟩ (.slice ao' (cs.length + 1) cap')).setCell ⟨b, 10, none⟩ (.pointer none)).setCell ⟨b, 11, none⟩ (.slice none 0 0)).os = W1.os ∧ (((w3.setCell ⟨b, 12, none⟩ (.slice ao' (cs.length + 1) cap')).setCell ⟨b, 10, none⟩ (.pointer none)).setCell ⟨b, 11, none⟩ (.slice none 0 0)).tape = W1.tape ∧ (((w3.setCell ⟨b, 12, none⟩ (.slice ao' (cs.length + 1) cap')).setCell ⟨b, 10, none⟩ (.pointer none)).setCell ⟨b, 11, none⟩ (.slice none 0 0)).output = W1.output ∧ W1.heap.size ≤ (((w3.setCell ⟨b, 12, none⟩ (.slice ao' (cs.length + 1) cap')).setCell ⟨b, 10, none⟩ (.pointer none)).setCell ⟨b, 11, none⟩ (.slice none 0 0)).heap.size := by
    have hg0 := hgrow.size
    refine ⟨_, (h4.put10 _).put11 _, ?_, ?_, ?_, ?_, ?_, ?_, ?_⟩
    · rw [tl_snoc]
      exact own_keep (own_keep (own_keep hown q1 hne3) q2 hne3) q3 hne3
    · intro k hk hkb hkv
      rw [q3.block k (by have := q1.size; have := q2.size; omega) (fun e => hkb (by cases e; rfl)), q2.block k (by have := q1.size; omega) (fun e => hkb (by cases e; rfl)), q1.block k (by omega) (fun e => hkb (by cases e; rfl)), hgrow.block k (by omega) (fun e => hkv e.symm), hW2]
      exact Lib.alloc_old W1 _ k hk
    · rcases hblk with hb | hb
      · exact .inl hb
      · exact .inr ⟨_, hb, by omega⟩
    · rw [q3.os, q2.os, q1.os, hgrow.os, hW2]; rfl
    · rw [q3.tape, q2.tape, q1.tape, hgrow.tape, hW2]; rfl
    · rw [q3.output, q2.output, q1.output, hgrow.output, hW2]; rfl
    · have := q1.size
      have := q2.size
      have := q3.size
      omega
  have HFin := hid hfin
  clear hfin q1 q2 q3
  subst hW2
  clear h h1 h2 h3 h4 hs ho ho2 hown hgrow hblk hn2
  go_enter Tryz.func258, Tryz.ntmps258
  go_wp2_with fail
  go_region_law (first | (with_reducible change (if Region.wanted { dst := some 10, op := _, type := _, pos := _, after := _, guard := _ } _ = true then _ else _); go_simp; go_wp2_with (go_at_call 39; refine Calls.mono HS.out ?_; rintro e w' ⟨rfl, rfl⟩)) | refine step_app rfl (.tmp 6) (.tmp 11) rfl rfl rfl hrun ?_)
  all_goals
    go_wp2_with fail
    refine Calls.mono HRs.out ?_
    rintro e w'' ⟨rfl, rfl⟩
    go_wp2
    go_end0
    exact ⟨rfl, HFin.out⟩
end Go.Proofs.YtmgfdnccmeahjaaGreatDoor

namespace Go.Proofs.YtmgfdnccmeahjaaGreatDoor
open Go.RowKit
set_option maxRecDepth 100000
set_option linter.unusedVariables false
set_option linter.unusedSimpArgs false

theorem freeze_other (w : World) (g n k : Nat) (h : k ≠ g) : (w.freeze ⟨g, 0, none⟩ n).heap[k]? = w.heap[k]? := by
  unfold World.freeze
  split
  · rfl
  · simp only [Array.getElem?_modify]
    rw [if_neg (fun e => h e.symm)]
theorem freeze_rest (w : World) (g n : Nat) : (w.freeze ⟨g, 0, none⟩ n).os = w.os ∧ (w.freeze ⟨g, 0, none⟩ n).tape = w.tape ∧ (w.freeze ⟨g, 0, none⟩ n).output = w.output ∧ (w.freeze ⟨g, 0, none⟩ n).heap.size = w.heap.size := by
  unfold World.freeze
  split
  · exact ⟨rfl, rfl, rfl, rfl⟩
  · exact ⟨rfl, rfl, rfl, by simp⟩

theorem rowEnd_any (A : Nat → Addr) (G : Nat → Prop) (b : Nat) (s : Rs) (w : World) (hcl : s.cs.length ≤ 1000000) (h : RX A G w b s) :
    Calls Tryz.prog 258 #[.pointer (some ⟨b, 10, none⟩)] w fun e w' => Stp A G w b s.cel e w' := by
  obtain ⟨bp, bv, cv, tv, V, h⟩ := h
  obtain ⟨W1, hs, hW, h1, h2, h3, h4⟩ : ∃ W1, (Calls Tryz.prog 39 #[.pointer (some ⟨b, 10, none⟩)] w.drew fun e w' => e = .returned (.string ⟨s.cur.toArray⟩) ∧ w' = W1) ∧ (∀ k, bv.ownBlock ≠ some k → W1.heap[k]? = w.heap[k]?) ∧ W1.os = w.os ∧ W1.tape = w.tape ∧ W1.output = w.output ∧ W1.heap.size = w.heap.size := by
    by_cases hz : s.cur = []
    · have hb := h.bz hz
      have ht := h.top
      rw [hb] at ht
      refine ⟨w.drew.drew, ?_, fun k _ => rfl, rfl, rfl, rfl, rfl⟩
      rw [hz]
      exact string_nil b w.drew ht
    · have hb := h.buf
      have ht := h.top
      rcases h.buf.2 with ⟨_, hl⟩ | ⟨g, cap, cur, hv, _⟩
      · exact absurd (List.eq_nil_of_length_eq_zero hl) hz
      · rw [hv] at hb ht
        obtain ⟨f1, f2, f3, f4⟩ := freeze_rest w.drew.drew g s.cur.length
        refine ⟨w.drew.drew.freeze ⟨g, 0, none⟩ s.cur.length, string_some b s.cur g cap w.drew ht hb hz, fun k hk => ?_, f1, f2, f3, f4⟩
        exact freeze_other w.drew.drew g _ k (by rintro rfl; exact hk (by rw [hv]; rfl))
  have nb1 : bv.ownBlock ≠ some b := own_ne h.buf h.top (by decide)
  have ht1 : RB W1 b (nxV b s.md) s.sz s.hp s.op s.ep s.rw s.wd bp bv cv tv s.fp (erV A s.er) false := (hW b nb1).trans h.top
  have hc1 : W1.ownsRow 0 9 1 cv s.cs.length (tl s.cs) := own_of h.cel fun g hg => hW g (own_two h.cel h.buf (by decide) g hg)
  refine (rowEnd_of b s.cur s.cs w W1 h.top hs ht1 hc1 hcl).mono ?_
  rintro e w' ⟨rfl, u, k1, k2, k3, k4, k5, k6, k7, k8⟩
  have all : ∀ k, k < w.heap.size → k ≠ b → bv.ownBlock ≠ some k → cv.ownBlock ≠ some k → w'.heap[k]? = w.heap[k]? := fun k hk a1 a2 a3 => (k3 k (by omega) a1 a3).trans (hW k a2)
  refine ⟨rfl, ⟨.pointer none, .slice none 0 0, u, tv, V, ?_⟩, ⟨k5.trans h1, k6.trans h2, k7.trans h3, by omega, fun k hk => all k (h.gs k hk) (fun e => h.nb (e ▸ hk)) (fun e => h.nbv k e hk) (fun e => h.ncv k e hk)⟩⟩
  exact { gs := fun k hk => by have := h.gs k hk; omega, nb := h.nb, nbv := by simp [Value.ownBlock],
          ncv := fun g hg hk => by
            rcases k4 with hu | ⟨g', hg', hge⟩
            · exact h.ncv g (hu ▸ hg) hk
            · rw [hg'] at hg
              cases hg
              have := h.gs _ hk
              omega,
          ntv := h.ntv, top := k1, bpo := .inl rfl, bz := fun _ => rfl, buf := World.ownsRow_nil _ _ _ _, cel := by simpa [Rs.cel] using k2,
          tol := own_of h.tol fun g hg => all g (World.ownsRow.lt h.tol g hg).2 (fun e => own_ne h.tol h.top (by decide) (e ▸ hg)) (own_two h.tol h.buf (by decide) g hg) (own_two h.tol h.cel (by decide) g hg),
          rws := ⟨h.rws.len, fun j hj hv => own_of (h.rws.row j hj hv) fun g hg => all g (World.ownsRow.lt (h.rws.row j hj hv) g hg).2 (fun e => own_ne (h.rws.row j hj hv) h.top (by decide) (e ▸ hg)) (own_two (h.rws.row j hj hv) h.buf (by decide) g hg) (h.ap _ (List.getElem_mem hv) g hg)⟩,
          ap := fun v hv g hg hu => by
            rcases k4 with hu' | ⟨g', hg', hge⟩
            · exact h.ap v hv g hg (hu' ▸ hu)
            · rw [hg'] at hu
              cases hu
              obtain ⟨j, hj, rfl⟩ := List.mem_iff_getElem.1 hv
              have := (World.ownsRow.lt (h.rws.row j (by rw [← h.rws.len]; exact hj) hj) g hg).2
              omega,
          vlt := h.vlt, dis := h.dis }

/-- behind a new block -/
theorem RX.alloc {A : Nat → Addr} {G : Nat → Prop} {w : World} {b : Nat} {s : Rs} (h : RX A G w b s) (o : Obj) : RX A G (w.alloc o) b s := by
  obtain ⟨bp, bv, cv, tv, V, h⟩ := h
  exact ⟨bp, bv, cv, tv, V, ⟨fun k hk => Nat.lt_of_lt_of_le (h.gs k hk) (by simp), h.nb, h.nbv, h.ncv, h.ntv, h.top.alloc _, h.bpo, h.bz, h.buf.alloc _, h.cel.alloc _, h.tol.alloc _, ⟨h.rws.len, fun j hj hv => (h.rws.row j hj hv).alloc _⟩, h.ap, h.vlt, h.dis⟩⟩
theorem RX.drewN {A : Nat → Addr} {G : Nat → Prop} {w : World} {b : Nat} {s : Rs} (h : RX A G w b s) : ∀ n, RX A G (w.drewN n) b s
  | 0 => h
  | n + 1 => RX.drew (RX.drewN h n)
theorem drewN_heap (w : World) : ∀ n, (w.drewN n).heap = w.heap
  | 0 => rfl
  | n + 1 => drewN_heap w n
theorem Kg.drewN {G : Nat → Prop} {a w : World} (h : Kg G a w) : ∀ n, Kg G a (w.drewN n)
  | 0 => h
  | n + 1 => Kg.drew (Kg.drewN h n)
theorem Kg.of_drewN {G : Nat → Prop} {w w' : World} : ∀ n, Kg G (w.drewN n) w' → Kg G w w'
  | 0, h => h
  | n + 1, h => Kg.of_drewN n (Kg.of_drew h)
set_option maxHeartbeats 1000000 in
theorem endRow_bad (A : Nat → Addr) (G : Nat → Prop) (b : Nat) (s : Rs) (p : Nat × Nat) (w : World) (hE : Lea A G w) (h : RX A G w b s) (hr : 0 < s.rw) (hc : s.cs.length ≠ s.wd) :
    Calls Tryz.prog 259 #[.pointer (some ⟨b, 0, none⟩), plV p] w fun e w' => Stp A G w b (s.fail 8 p) e w' := by
  obtain ⟨w1, hw1⟩ : ∃ w1, w1 = w.alloc (.cells #[.int .i64 (p.1 : Int), .int .i64 (p.2 : Int)] 175) := ⟨_, rfl⟩
  have hx1 : RX A G w1 b s := hw1 ▸ h.alloc _
  have hk1 : Kg G w w1 := hw1 ▸ (Kg.refl G w).alloc (by obtain ⟨_, _, _, _, _, h⟩ := h; exact h.gs) _
  have hn : w1.heap[w.heap.size]? = some (.cells #[.int .i64 (p.1 : Int), .int .i64 (p.2 : Int)] 175 (0, 0)) := hw1 ▸ heap_alloc_new _ _
  have n0 : w1.cell? ⟨w.heap.size, 0, none⟩ = some (.int .i64 (p.1 : Int)) := by rw [Lib.cell_of_heap hn]; rfl
  have n1 : w1.cell? ⟨w.heap.size, 1, none⟩ = some (.int .i64 (p.2 : Int)) := by rw [Lib.cell_of_heap hn]; rfl
  have g8 := (hE.kept hk1).er.e8
  have HF := hid (fun n => fail_any A G b s 8 (by decide) p (w1.drewN n) (hx1.drewN n))
  obtain ⟨bp, bv, cv, tv, V, hx⟩ := hx1
  obtain ⟨ao, cp, rfl⟩ := own_slice hx.cel
  have c8 := hx.top.c8
  have c12 := hx.top.c12
  have c9 := hx.top.c9
  have hd : decide ((0 : Int) < (s.rw : Int)) = true := by simp; omega
  have hq : ((s.cs.length : Int) != (s.wd : Int)) = true := by simp; omega
  have hi1 : (0 : Int) < (s.rw : Int) := by omega
  have hd2 : decide (0 < s.rw) = true := by simp; omega
  have hq2 : (s.cs.length == s.wd) = false := by simp; omega
  have HK := hid hk1
  have HW1 := hid hw1
  clear h hx hE hk1 hn
  unfold plV
  go_enter Tryz.func259, Tryz.ntmps259
  go_wp2_with fail
  rw [← hw1]
  clear hw1
  go_quiet (fail)
  go_wp2_with fail
  refine Calls.mono (HF.out _) ?_
  rintro e w' ⟨rfl, hx, hk⟩
  go_wp2
  go_end0
  exact ⟨rfl, hx, HK.out.trans (Kg.of_drewN _ hk)⟩
theorem endRow_rest {A : Nat → Addr} {G : Nat → Prop} {w1 : World} {b : Nat} {s : Rs} {bp bv cv tv : Value} {V : List Value} (hx : RM A G w1 b s bp bv cv tv V) (X : World) (hX : Kg (But w1 b) w1 X) (hr : ∀ k, k < w1.heap.size → k ≠ b → X.heap[k]? = w1.heap[k]?) (hXs : X.heap.size = w1.heap.size)
    (ht : RB X b (nxV b s.md) s.sz s.hp s.op s.ep (s.rw + 1) s.cs.length bp bv cv tv s.fp (erV A s.er) false) (htd : s.td.length ≤ 1000000) :
    ∃ v' w3, (Builtin.append_ #[22, 22] 22 #[tv, .slice (some ⟨X.heap.size, 0, none⟩) 1 1]).run Tryz.prog (X.drew.alloc (.cells #[cv] 32)) = .ok v' w3 ∧ (∃ ao n cap, v' = .slice ao n cap)
      ∧ RB w3 b (nxV b s.md) s.sz s.hp s.op s.ep (s.rw + 1) s.cs.length bp bv cv tv s.fp (erV A s.er) false
      ∧ RX A G (((((w3.setCell ⟨b, 13, none⟩ v').setCell ⟨b, 10, none⟩ (.pointer none)).setCell ⟨b, 11, none⟩ (.slice none 0 0)).setCell ⟨b, 12, none⟩ (.slice none 0 0)).setCell ⟨b, 0, none⟩ (nxV b 1)) b { s with rw := s.rw + 1, wd := s.cs.length, td := s.td ++ [s.cs], cur := [], cs := [], md := 1 }
      ∧ Kg G w1 (((((w3.setCell ⟨b, 13, none⟩ v').setCell ⟨b, 10, none⟩ (.pointer none)).setCell ⟨b, 11, none⟩ (.slice none 0 0)).setCell ⟨b, 12, none⟩ (.slice none 0 0)).setCell ⟨b, 0, none⟩ (nxV b 1)) := by
  obtain ⟨i, hi, hz, hsz, hby⟩ := info_parts ssi
  obtain ⟨W2, hW2⟩ : ∃ W2, W2 = X.drew.alloc (.cells #[cv] 32) := ⟨_, rfl⟩
  obtain ⟨r1, r2, r3, r4⟩ := hx.rows hX
  have old : ∀ k, k < w1.heap.size → W2.heap[k]? = X.heap[k]? := fun k hk => by rw [hW2]; exact Lib.alloc_old X.drew _ k (by show k < X.heap.size; omega)
  have lt1 : b < w1.heap.size := hx.top.lt
  have h2 : RB W2 b (nxV b s.md) s.sz s.hp s.op s.ep (s.rw + 1) s.cs.length bp bv cv tv s.fp (erV A s.er) false := (old b lt1).trans ht
  have hn2 : W2.heap[X.heap.size]? = some (.cells #[cv] 32 (0, 0)) := by rw [hW2]; exact heap_alloc_new X.drew _
  have ho2 : W2.ownsRow 0 32 1 tv V.length V := own_of r3 fun g hg => old g (World.ownsRow.lt hx.tol g hg).2
  have hz2 : W2.heap.size = w1.heap.size + 1 := by rw [hW2]; simp; exact hXs
  have hVl : V.length ≤ 1000000 := by rw [hx.rws.len]; exact htd
  obtain ⟨co, cc, hcv⟩ := own_slice hx.cel
  have hvone : ∀ u ∈ V, u.oneCell' = true := by
    intro u hu
    obtain ⟨j, hj, rfl⟩ := List.mem_iff_getElem.1 hu
    obtain ⟨a, c, e⟩ := own_slice (hx.rws.row j (by rw [← hx.rws.len]; exact hj) hj)
    rw [e]
    rfl
  obtain ⟨v', w3, hrun, hown, hgrow, _, hblk⟩ := run_append_own_at (P := Tryz.prog) W2 0 22 22 32 i _ 1 24 Tryz.underlying22 hi hz hsz hby rfl (by decide) _ _ _ ho2 ⟨X.heap.size, 0, none⟩ 1 1 [cv] rfl (by
    intro j u hj
    match j, hj with
    | 0, hj => simp at hj; subst hj; rw [Addr.add_lit, Lib.cell_of_heap hn2]; rfl) (by intro u hu; simp at hu; subst hu; rw [hcv]; rfl) (by unfold maxLen; omega) (by omega) (Nat.zero_le _)
  have hne : tv.ownBlock ≠ some b := own_ne ho2 h2 (by decide)
  have h3 : RB w3 b (nxV b s.md) s.sz s.hp s.op s.ep (s.rw + 1) s.cs.length bp bv cv tv s.fp (erV A s.er) false := (hgrow.block b (by omega) (fun e => hne e.symm)).trans h2
  have hne3 : v'.ownBlock ≠ some b := own_ne hown h3 (by decide)
  have q1 := set_grown w3 b 13 v'
  have q2 := set_grown (w3.setCell ⟨b, 13, none⟩ v') b 10 (.pointer none)
  have q3 := set_grown ((w3.setCell ⟨b, 13, none⟩ v').setCell ⟨b, 10, none⟩ (.pointer none)) b 11 (.slice none 0 0)
  have q4 := set_grown (((w3.setCell ⟨b, 13, none⟩ v').setCell ⟨b, 10, none⟩ (.pointer none)).setCell ⟨b, 11, none⟩ (.slice none 0 0)) b 12 (.slice none 0 0)
  have q5 := set_grown ((((w3.setCell ⟨b, 13, none⟩ v').setCell ⟨b, 10, none⟩ (.pointer none)).setCell ⟨b, 11, none⟩ (.slice none 0 0)).setCell ⟨b, 12, none⟩ (.slice none 0 0)) b 0 (nxV b 1)
  have hfr := ((((h3.put13 v').put10 (.pointer none)).put11 (.slice none 0 0)).put12 (.slice none 0 0)).put0 (nxV b 1)
  have hownZ := own_keep (own_keep (own_keep (own_keep (own_keep hown q1 hne3) q2 hne3) q3 hne3) q4 hne3) q5 hne3
  have s0 := hgrow.size
  have s1 := q1.size
  have s2 := q2.size
  have s3 := q3.size
  have s4 := q4.size
  have s5 := q5.size
  have o1 : w3.os = w1.os := by rw [hgrow.os, hW2]; exact hX.os
  have o2 : w3.tape = w1.tape := by rw [hgrow.tape, hW2]; exact hX.tape
  have o3 : w3.output = w1.output := by rw [hgrow.output, hW2]; exact hX.output
  have z1 := (((q5.os.trans q4.os).trans q3.os).trans q2.os).trans q1.os
  have z2 := (((q5.tape.trans q4.tape).trans q3.tape).trans q2.tape).trans q1.tape
  have z3 := (((q5.output.trans q4.output).trans q3.output).trans q2.output).trans q1.output
  have blk : ∀ k, k < w3.heap.size → k ≠ b → (((((w3.setCell ⟨b, 13, none⟩ v').setCell ⟨b, 10, none⟩ (.pointer none)).setCell ⟨b, 11, none⟩ (.slice none 0 0)).setCell ⟨b, 12, none⟩ (.slice none 0 0)).setCell ⟨b, 0, none⟩ (nxV b 1)).heap[k]? = w3.heap[k]? := fun k hk hkb => by
    have hne : some k ≠ some b := fun e => hkb (by cases e; rfl)
    rw [q5.block k (by omega) hne, q4.block k (by omega) hne, q3.block k (by omega) hne, q2.block k (by omega) hne, q1.block k hk hne]
  obtain ⟨Z, hZ⟩ : ∃ Z, Z = (((((w3.setCell ⟨b, 13, none⟩ v').setCell ⟨b, 10, none⟩ (.pointer none)).setCell ⟨b, 11, none⟩ (.slice none 0 0)).setCell ⟨b, 12, none⟩ (.slice none 0 0)).setCell ⟨b, 0, none⟩ (nxV b 1)) := ⟨_, rfl⟩
  refine ⟨v', w3, (by rw [hW2] at hrun; exact hrun), (by obtain ⟨a, c, e⟩ := own_slice hown; exact ⟨_, _, _, e⟩), h3, ?_⟩
  rw [← hZ] at hfr hownZ s5 z1 z2 z3 blk ⊢
  clear q1 q2 q3 q4 q5 hZ
  have all : ∀ k, k < w1.heap.size → k ≠ b → tv.ownBlock ≠ some k → Z.heap[k]? = w1.heap[k]? := fun k hk a1 a2 => by
    rw [blk k (by omega) a1, hgrow.block k (by omega) (fun e => a2 e.symm), old k hk, hr k hk a1]
  refine ⟨⟨.pointer none, .slice none 0 0, .slice none 0 0, v', V ++ [cv], ?_⟩, ⟨z1.trans o1, z2.trans o2, z3.trans o3, by omega, fun k hk => all k (hx.gs k hk) (fun e => hx.nb (e ▸ hk)) (fun e => hx.ntv k e hk)⟩⟩
  have row : ∀ {v : Value} {n : Nat} {xs : List Value}, w1.ownsRow 0 9 1 v n xs → Z.ownsRow 0 9 1 v n xs := fun {v n xs} ho => own_of ho fun g hg => all g (World.ownsRow.lt ho g hg).2 (fun e => own_ne ho hx.top (by decide) (e ▸ hg)) (own_two ho hx.tol (by decide) g hg)
  exact { gs := fun k hk => by have := hx.gs k hk; omega, nb := hx.nb, nbv := by simp [Value.ownBlock], ncv := by simp [Value.ownBlock],
          ntv := fun g hg hk => by
            rcases hblk with hu | hu
            · exact hx.ntv g (hu ▸ hg) hk
            · rw [hu] at hg
              cases hg
              have := hx.gs _ hk
              omega,
          top := hfr, bpo := .inl rfl, bz := fun _ => rfl, buf := World.ownsRow_nil _ _ _ _, cel := World.ownsRow_nil _ _ _ _, tol := by simpa using hownZ,
          rws := RwS.snoc ⟨hx.rws.len, fun j hj hv => row (hx.rws.row j hj hv)⟩ (row hx.cel),
          ap := by simp [Value.ownBlock],
          dis := hx.dis.snoc hx.ap,
          vlt := fun v hv g hg => by
            rcases List.mem_append.1 hv with hv | hv
            · exact hx.vlt v hv g hg
            · simp at hv; subst hv; exact hx.ncv g hg }
set_option maxHeartbeats 1000000 in
theorem endRow_ok (A : Nat → Addr) (G : Nat → Prop) (b : Nat) (s : Rs) (p : Nat × Nat) (w : World) (hE : Lea A G w) (h : RX A G w b s) (hn : ¬ (0 < s.rw ∧ s.cs.length ≠ s.wd)) (hrw : s.rw ≤ 1000000) (htd : s.td.length ≤ 1000000) :
    Calls Tryz.prog 259 #[.pointer (some ⟨b, 0, none⟩), plV p] w fun e w' => Stp A G w b { s with rw := s.rw + 1, wd := s.cs.length, td := s.td ++ [s.cs], cur := [], cs := [], md := 1 } e w' := by
  obtain ⟨w1, hw1⟩ : ∃ w1, w1 = w.alloc (.cells #[.int .i64 (p.1 : Int), .int .i64 (p.2 : Int)] 175) := ⟨_, rfl⟩
  have hx1 : RX A G w1 b s := hw1 ▸ h.alloc _
  have hk1 : Kg G w w1 := hw1 ▸ (Kg.refl G w).alloc (by obtain ⟨_, _, _, _, _, h⟩ := h; exact h.gs) _
  obtain ⟨bp, bv, cv, tv, V, hx⟩ := hx1
  obtain ⟨ao, cp, rfl⟩ := own_slice hx.cel
  obtain ⟨to, tp, rfl⟩ := own_slice hx.tol
  have c8 := hx.top.c8
  have c12 := hx.top.c12
  have c9 := hx.top.c9
  have f8 := hx.top.fr 8
  have f9 := hx.top.fr 9
  have HK := hid hk1
  have HX := hid hx
  have HW1 := hid hw1
  have hq : (0 < s.rw ∧ (s.cs.length == s.wd) = true) ∨ (¬ 0 < s.rw) := by
    by_cases h0 : 0 < s.rw
    · left; refine ⟨h0, ?_⟩; simp; exact Decidable.not_not.1 fun h' => hn ⟨h0, h'⟩
    · exact .inr h0
  clear h hx hE hk1 hn c9
  have c9 := HX.out.top.c9
  unfold plV
  rcases hq with ⟨hr, hq2⟩ | hr
  · have hd2 : decide (0 < s.rw) = true := by simp; omega
    go_enter Tryz.func259, Tryz.ntmps259
    go_wp2_with fail
    rw [← hw1]
    clear hw1
    go_quiet (fail)
    go_wp2_with fail
    obtain ⟨X, hX⟩ : ∃ X, X = ((w1.drewN nq).setCell ⟨b, 8, none⟩ (.int .i64 ((s.rw : Int) + 1))).setCell ⟨b, 9, none⟩ (.int .i64 (s.cs.length : Int)) := ⟨_, rfl⟩
    rw [← hX]
    have x1 := set_grown (w1.drewN nq) b 8 (.int .i64 ((s.rw : Int) + 1))
    have x2 := set_grown ((w1.drewN nq).setCell ⟨b, 8, none⟩ (.int .i64 ((s.rw : Int) + 1))) b 9 (.int .i64 (s.cs.length : Int))
    have xz : X.heap.size = w1.heap.size := by rw [hX]; simp [World.setCell, drewN_heap]
    have xb : ∀ k, k < w1.heap.size → k ≠ b → X.heap[k]? = w1.heap[k]? := fun k hk hkb => by
      have hne : some k ≠ some b := fun e => hkb (by cases e; rfl)
      rw [hX, x2.block k (by have := x1.size; rw [drewN_heap] at this; omega) hne, x1.block k (by rw [drewN_heap]; exact hk) hne, drewN_heap]
    have hXk : Kg (But w1 b) w1 X := hX ▸ ((Kg.drewN (Kg.refl (But w1 b) w1) nq).set (But.not w1 b) _).set (But.not w1 b) _
    have hXt : RB X b (nxV b s.md) s.sz s.hp s.op s.ep (s.rw + 1) s.cs.length bp bv (.slice ao s.cs.length cp) (.slice to V.length tp) s.fp (erV A s.er) false := by
      rw [hX]
      exact ((show R18 (w1.drewN nq) b _ _ _ _ _ _ _ _ _ _ _ _ _ _ _ _ _ _ from (by unfold R18; rw [drewN_heap]; exact HX.out.top)).put8 _).put9 _
    obtain ⟨v', w3, hrun, ⟨a1, a2, a3, rfl⟩, h3, hrx, hkz⟩ := endRow_rest HX.out X hXk xb xz hXt htd
    have c13 := hXt.c13
    have c12 := hXt.c12
    have d0 := h3.fr 0
    have d10 := h3.fr 10
    have d11 := h3.fr 11
    have d12 := h3.fr 12
    have d13 := h3.fr 13
    have e0 := h3.c0
    have e10 := h3.c10
    have e11 := h3.c11
    have e12 := h3.c12
    have e13 := h3.c13
    rw [nx1] at hrx hkz
    have HZ := hid (And.intro hrx hkz)
    have c12b : (X.drew.alloc (.cells #[.slice ao s.cs.length cp] 32)).cell? ⟨b, 13, none⟩ = some (.slice to V.length tp) := (World.cell?_of_block (a := ⟨b, 13, none⟩) (Lib.alloc_old X.drew _ b (by show b < X.heap.size; have := hXt.lt; omega))).trans hXt.c13
    have hrun2 : (Builtin.append_ #[22, 22] 22 #[.slice to V.length tp, .slice (some ⟨X.heap.size, 0, none⟩) 1 1]).run Tryz.prog ((X.alloc (.cells #[.slice ao s.cs.length cp] 32)).drew) = .ok (.slice a1 a2 a3) w3 := hrun
    have c12c : ((X.alloc (.cells #[.slice ao s.cs.length cp] 32)).drew).cell? ⟨b, 13, none⟩ = some (.slice to V.length tp) := c12b
    clear hrx hkz hXt hXk xb x1 x2 h3 hX hrun xz
    go_region_law (refine step_app (v := .slice to V.length tp) (xv := .slice (some ⟨X.heap.size, 0, none⟩) 1 1) rfl (.tmp 46) (.tmp 52) rfl (by rfl) (by rfl) hrun2 ?_)
    all_goals (go_wp2; go_end0; exact ⟨rfl, HZ.out.1, HK.out.trans HZ.out.2⟩)
  · have hd2 : decide (0 < s.rw) = false := by simp; omega
    go_enter Tryz.func259, Tryz.ntmps259
    go_wp2_with fail
    rw [← hw1]
    clear hw1
    go_quiet (fail)
    go_wp2_with fail
    obtain ⟨X, hX⟩ : ∃ X, X = ((w1.drewN nq).setCell ⟨b, 8, none⟩ (.int .i64 ((s.rw : Int) + 1))).setCell ⟨b, 9, none⟩ (.int .i64 (s.cs.length : Int)) := ⟨_, rfl⟩
    rw [← hX]
    have x1 := set_grown (w1.drewN nq) b 8 (.int .i64 ((s.rw : Int) + 1))
    have x2 := set_grown ((w1.drewN nq).setCell ⟨b, 8, none⟩ (.int .i64 ((s.rw : Int) + 1))) b 9 (.int .i64 (s.cs.length : Int))
    have xz : X.heap.size = w1.heap.size := by rw [hX]; simp [World.setCell, drewN_heap]
    have xb : ∀ k, k < w1.heap.size → k ≠ b → X.heap[k]? = w1.heap[k]? := fun k hk hkb => by
      have hne : some k ≠ some b := fun e => hkb (by cases e; rfl)
      rw [hX, x2.block k (by have := x1.size; rw [drewN_heap] at this; omega) hne, x1.block k (by rw [drewN_heap]; exact hk) hne, drewN_heap]
    have hXk : Kg (But w1 b) w1 X := hX ▸ ((Kg.drewN (Kg.refl (But w1 b) w1) nq).set (But.not w1 b) _).set (But.not w1 b) _
    have hXt : RB X b (nxV b s.md) s.sz s.hp s.op s.ep (s.rw + 1) s.cs.length bp bv (.slice ao s.cs.length cp) (.slice to V.length tp) s.fp (erV A s.er) false := by
      rw [hX]
      exact ((show R18 (w1.drewN nq) b _ _ _ _ _ _ _ _ _ _ _ _ _ _ _ _ _ _ from (by unfold R18; rw [drewN_heap]; exact HX.out.top)).put8 _).put9 _
    obtain ⟨v', w3, hrun, ⟨a1, a2, a3, rfl⟩, h3, hrx, hkz⟩ := endRow_rest HX.out X hXk xb xz hXt htd
    have c13 := hXt.c13
    have c12 := hXt.c12
    have d0 := h3.fr 0
    have d10 := h3.fr 10
    have d11 := h3.fr 11
    have d12 := h3.fr 12
    have d13 := h3.fr 13
    have e0 := h3.c0
    have e10 := h3.c10
    have e11 := h3.c11
    have e12 := h3.c12
    have e13 := h3.c13
    rw [nx1] at hrx hkz
    have HZ := hid (And.intro hrx hkz)
    have c12b : (X.drew.alloc (.cells #[.slice ao s.cs.length cp] 32)).cell? ⟨b, 13, none⟩ = some (.slice to V.length tp) := (World.cell?_of_block (a := ⟨b, 13, none⟩) (Lib.alloc_old X.drew _ b (by show b < X.heap.size; have := hXt.lt; omega))).trans hXt.c13
    have hrun2 : (Builtin.append_ #[22, 22] 22 #[.slice to V.length tp, .slice (some ⟨X.heap.size, 0, none⟩) 1 1]).run Tryz.prog ((X.alloc (.cells #[.slice ao s.cs.length cp] 32)).drew) = .ok (.slice a1 a2 a3) w3 := hrun
    have c12c : ((X.alloc (.cells #[.slice ao s.cs.length cp] 32)).drew).cell? ⟨b, 13, none⟩ = some (.slice to V.length tp) := c12b
    clear hrx hkz hXt hXk xb x1 x2 h3 hX hrun xz
    go_region_law (refine step_app (v := .slice to V.length tp) (xv := .slice (some ⟨X.heap.size, 0, none⟩) 1 1) rfl (.tmp 46) (.tmp 52) rfl (by rfl) (by rfl) hrun2 ?_)
    all_goals (go_wp2; go_end0; exact ⟨rfl, HZ.out.1, HK.out.trans HZ.out.2⟩)
end Go.Proofs.YtmgfdnccmeahjaaGreatDoor
