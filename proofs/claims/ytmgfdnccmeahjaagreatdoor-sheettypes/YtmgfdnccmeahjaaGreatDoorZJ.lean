/-
  Sg1: Sheets: a text that is quoted, between others: what the Reader makes of it.
  Spt: Sheets: rows as they are printed, and what is read of them.
  Scc: Sheets: rows that a slice reads as; sameRows; what Print checks ahead.
  Skc: Sheets: checkCell, checkRow, onLine, checkRows.
  Sva: Sheets: the twenty variables of errors; variable, errors.Is, kinds. Laid by mksva.py.
  Ty5: Sheets: the program's readers of ints, cents, texts, yes and no.
-/
import Derived.Test.YtmgfdnccmeahjaaGreatDoorZF
import Derived.Test.YtmgfdnccmeahjaaGreatDoorZI
import Derived.Test.YtmgfdnccmeahjaaGreatDoorZSas
import Derived.Deep.LoopGhost
import Derived.Laws.Strings2
import Derived.Test.YtmgfdnccmeahjaaGreatDoorZH
import Derived.Test.YtmgfdnccmeahjaaGreatDoorZG
namespace Go.Proofs.YtmgfdnccmeahjaaGreatDoor
set_option maxRecDepth 100000
set_option linter.unusedVariables false
set_option linter.unusedSimpArgs false

/-- quotes doubled -/
def dbl : List UInt8 → List UInt8
  | [] => []
  | c :: t => if c.toNat = 34 then c :: c :: dbl t else c :: dbl t
theorem dbl_app (a b : List UInt8) : dbl (a ++ b) = dbl a ++ dbl b := by
  induction a with
  | nil => rfl
  | cons c t ih =>
    rw [List.cons_append, dbl, dbl, ih]
    split <;> rfl
theorem dbl_len (a : List UInt8) : (dbl a).length ≤ 2 * a.length := by
  induction a with
  | nil => simp [dbl]
  | cons c t ih =>
    rw [dbl]
    split <;> simp <;> omega
/-- the fault of a quoted cell, behind so many bytes: none, a byte, too long -/
def qo : List UInt8 → Nat → Nat
  | [], _ => 0
  | c :: t, k => if mayB c.toNat = false then 4 else if k = 4096 then 5 else qo t (k + 1)
theorem take_ok (s : Rs) (c : UInt8) (h : s.sz ≠ 262144) : s.take c = (s.next (some c)).gone c := by unfold Rs.take; rw [if_neg h]
end Go.Proofs.YtmgfdnccmeahjaaGreatDoor

namespace Go.Proofs.YtmgfdnccmeahjaaGreatDoor
set_option maxRecDepth 100000
set_option linter.unusedVariables false
set_option linter.unusedSimpArgs false

/-- must a cell with this byte be quoted? -/
def nqB (c : Nat) : Bool := c == 44 || c == 34 || c == 13 || c == 10 || c == 9
/-- a cell as it is printed -/
def pcl (T : List UInt8) : List UInt8 := if T.any (fun c => nqB c.toNat) = true then 34 :: (dbl T ++ [34]) else T
/-- cells as they are printed -/
def pcs : List (List UInt8) → List UInt8
  | [] => []
  | T :: r => pcl T ++ r.flatMap (fun U => 44 :: pcl U)
def prw (cs : List (List UInt8)) : List UInt8 := pcs cs ++ [13, 10]
/-- rows as they are printed -/
def prt (R : List (List (List UInt8))) : List UInt8 := R.flatMap prw
theorem pcs_snoc (cs : List (List UInt8)) (T : List UInt8) (h : cs ≠ []) : pcs (cs ++ [T]) = pcs cs ++ 44 :: pcl T := by
  cases cs with
  | nil => exact absurd rfl h
  | cons U r => simp [pcs, List.flatMap_append]
theorem prt_snoc (R : List (List (List UInt8))) (cs : List (List UInt8)) : prt (R ++ [cs]) = prt R ++ prw cs := by simp [prt, List.flatMap_append]
/-- a cell that may be -/
def okC (T : List UInt8) : Prop := T.length ≤ 4096 ∧ ∀ c ∈ T, mayB c.toNat = true
/-- a row that may be, among rows of so many cells -/
def okW (n : Nat) (cs : List (List UInt8)) : Prop := 1 ≤ cs.length ∧ cs.length ≤ 64 ∧ cs.length = n ∧ ∀ T ∈ cs, okC T
def okR (R : List (List (List UInt8))) : Prop := R.length ≤ 4096 ∧ ∀ cs ∈ R, okW (R.headD []).length cs

/-- where the Reader stands, places apart -/
structure Stt (s : Rs) (md sz rw wd : Nat) (cur : List UInt8) (cs : List (List UInt8)) (td : List (List (List UInt8))) : Prop where
  md : s.md = md
  er : s.er = 0
  sz : s.sz = sz
  rw : s.rw = rw
  wd : s.wd = wd
  cur : s.cur = cur
  cs : s.cs = cs
  td : s.td = td

theorem Stt.one {s : Rs} {md sz rw wd : Nat} {cur : List UInt8} {cs : List (List UInt8)} {td : List (List (List UInt8))} (h : Stt s md sz rw wd cur cs td) (c : UInt8) (hz : sz + 1 ≤ 262144) : runL s [c] = (s.next (some c)).gone c := by
  rw [runL, if_pos h.er, runL, take_ok s c (by rw [h.sz]; omega)]

end Go.Proofs.YtmgfdnccmeahjaaGreatDoor

namespace Go.Proofs.YtmgfdnccmeahjaaGreatDoor
open Go.RowKit
set_option maxRecDepth 100000
set_option linter.unusedVariables false
set_option linter.unusedSimpArgs false

/-- a slice reads as these texts -/
def Tx (w : World) (v : Value) (T : List (List UInt8)) : Prop :=
  ∃ ao cap, v = .slice ao T.length cap ∧ T.length ≤ cap ∧ cap ≤ 9223372036854775807 ∧ ∀ j (hj : j < T.length), ∃ g off, ao = some ⟨g, off, none⟩ ∧ w.cell? ⟨g, off + j, none⟩ = some (.string ⟨T[j].toArray⟩)
/-- a slice reads as these rows -/
def Rw (w : World) (v : Value) (R : List (List (List UInt8))) : Prop :=
  ∃ ao cap, v = .slice ao R.length cap ∧ R.length ≤ cap ∧ cap ≤ 9223372036854775807 ∧ ∀ i (hi : i < R.length), ∃ g off u, ao = some ⟨g, off, none⟩ ∧ w.cell? ⟨g, off + i, none⟩ = some u ∧ Tx w u R[i]
theorem cellB {w w' : World} (hb : Below w.heap.size w w') {p : Addr} {u : Value} (h : w.cell? p = some u) : w'.cell? p = some u := (hb.cell (p := p) (World.block_lt_of_cell? _ _ h)).trans h
theorem Tx.below {w w' : World} {v : Value} {T : List (List UInt8)} (h : Tx w v T) (hb : Below w.heap.size w w') : Tx w' v T := by
  obtain ⟨ao, cap, h1, h2, h3, h4⟩ := h
  refine ⟨ao, cap, h1, h2, h3, fun j hj => ?_⟩
  obtain ⟨g, off, h5, h6⟩ := h4 j hj
  exact ⟨g, off, h5, cellB hb h6⟩
theorem Rw.below {w w' : World} {v : Value} {R : List (List (List UInt8))} (h : Rw w v R) (hb : Below w.heap.size w w') : Rw w' v R := by
  obtain ⟨ao, cap, h1, h2, h3, h4⟩ := h
  refine ⟨ao, cap, h1, h2, h3, fun j hj => ?_⟩
  obtain ⟨g, off, u, h5, h6, h7⟩ := h4 j hj
  exact ⟨g, off, u, h5, cellB hb h6, h7.below hb⟩
theorem own_tx {w : World} {v : Value} {T : List (List UInt8)} (h : w.ownsRow 0 9 1 v T.length (tl T)) : Tx w v T := by
  have hc := fun g hg => World.ownsRow.cells h (g := g) hg
  rcases h.2 with ⟨rfl, h0⟩ | ⟨g, cap, cur, rfl, _, _, hcap, hm, _⟩
  · exact ⟨none, 0, by rw [h0], by omega, by omega, fun j hj => by omega⟩
  · refine ⟨_, cap, rfl, hcap, hm, fun j hj => ⟨g, 0, rfl, ?_⟩⟩
    have := hc g rfl j (.string ⟨T[j].toArray⟩) (by simp [tl, hj])
    rw [Addr.add_lit] at this
    exact this
theorem TR.rw {w : World} {v : Value} {V : List Value} {R : List (List (List UInt8))} (h : TR w v V R) : Rw w v R := by
  have hl := h.rws.len
  have hc := fun g hg => World.ownsRow.cells h.own (g := g) hg
  rcases h.own.2 with ⟨rfl, h0⟩ | ⟨g, cap, cur, rfl, _, _, hcap, hm, _⟩
  · exact ⟨none, 0, by rw [← hl, h0], by omega, by omega, fun j hj => by omega⟩
  · refine ⟨_, cap, by rw [hl], by omega, hm, fun j hj => ?_⟩
    have hv : j < V.length := by omega
    have := hc g rfl j V[j] (by simp [hv])
    rw [Addr.add_lit] at this
    exact ⟨g, 0, V[j], rfl, this, own_tx (h.rws.row j hj hv)⟩

theorem Tx.at {w : World} {v : Value} {T : List (List UInt8)} (h : Tx w v T) (j : Nat) (hj : j < T.length) : ∃ g off cap, v = .slice (some ⟨g, off, none⟩) T.length cap ∧ T.length ≤ cap ∧ w.cell? ⟨g, off + j, none⟩ = some (.string ⟨T[j].toArray⟩) := by
  obtain ⟨ao, cap, rfl, h2, h3, h4⟩ := h
  obtain ⟨g, off, rfl, h6⟩ := h4 j hj
  exact ⟨g, off, cap, rfl, h2, h6⟩
theorem Tx.form {w : World} {v : Value} {T : List (List UInt8)} (h : Tx w v T) : ∃ ao cap, v = .slice ao T.length cap := by
  obtain ⟨ao, cap, h1, _⟩ := h
  exact ⟨ao, cap, h1⟩
theorem Tx.len {w : World} {v : Value} {T : List (List UInt8)} (h : Tx w v T) : T.length ≤ 9223372036854775807 := by
  obtain ⟨ao, cap, h1, h2, h3, _⟩ := h
  omega
theorem Rw.at {w : World} {v : Value} {R : List (List (List UInt8))} (h : Rw w v R) (j : Nat) (hj : j < R.length) : ∃ g off cap u, v = .slice (some ⟨g, off, none⟩) R.length cap ∧ R.length ≤ cap ∧ w.cell? ⟨g, off + j, none⟩ = some u ∧ Tx w u R[j] := by
  obtain ⟨ao, cap, rfl, h2, h3, h4⟩ := h
  obtain ⟨g, off, u, rfl, h6, h7⟩ := h4 j hj
  exact ⟨g, off, cap, u, rfl, h2, h6, h7⟩
theorem Rw.form {w : World} {v : Value} {R : List (List (List UInt8))} (h : Rw w v R) : ∃ ao cap, v = .slice ao R.length cap := by
  obtain ⟨ao, cap, h1, _⟩ := h
  exact ⟨ao, cap, h1⟩
theorem Rw.len {w : World} {v : Value} {R : List (List (List UInt8))} (h : Rw w v R) : R.length ≤ 9223372036854775807 := by
  obtain ⟨ao, cap, h1, h2, h3, _⟩ := h
  omega
theorem Tx.drew {w : World} {v : Value} {T : List (List UInt8)} (h : Tx w v T) : Tx w.drew v T := h
/-! what Print checks -/

/-- a cell's fault -/
def cfl (T : List UInt8) : Nat := if 4096 < T.length then 5 else if T.all (fun c => mayB c.toNat) = true then 0 else 4
/-- the first cell with a fault, from place j on: its fault and place -/
def cls : List (List UInt8) → Nat → Nat × Nat
  | [], _ => (0, 0)
  | T :: r, j => if cfl T = 0 then cls r (j + 1) else (cfl T, j)
/-- a row's fault, among rows of n cells -/
def wfl (n : Nat) (cs : List (List UInt8)) : Nat × Nat :=
  if cs.length = 0 then (6, 0) else if 64 < cs.length then (6, 64) else if cs.length = n then cls cs 0 else (8, 0)
/-- the first row with a fault, from row i on: fault, line, column -/
def rck (n : Nat) : List (List (List UInt8)) → Nat → Nat × Nat × Nat
  | [], _ => (0, 0, 0)
  | cs :: r, i => if i = 4096 then (7, i + 1, 0) else if (wfl n cs).1 = 0 then rck n r (i + 1) else ((wfl n cs).1, i + 1, (wfl n cs).2)
theorem cfl_vals (T : List UInt8) : cfl T = 0 ∨ cfl T = 4 ∨ cfl T = 5 := by
  unfold cfl
  split
  · exact .inr (.inr rfl)
  · split
    · exact .inl rfl
    · exact .inr (.inl rfl)
theorem cls_vals (cs : List (List UInt8)) (j : Nat) : (cls cs j).1 = 0 ∨ (cls cs j).1 = 4 ∨ (cls cs j).1 = 5 := by
  induction cs generalizing j with
  | nil => exact .inl rfl
  | cons T r ih =>
    rw [cls]
    split
    · exact ih _
    · exact cfl_vals T
theorem wfl_vals (n : Nat) (cs : List (List UInt8)) : (wfl n cs).1 = 0 ∨ (wfl n cs).1 = 4 ∨ (wfl n cs).1 = 5 ∨ (wfl n cs).1 = 6 ∨ (wfl n cs).1 = 8 := by
  unfold wfl
  split
  · simp
  · split
    · simp
    · split
      · rcases cls_vals cs 0 with h | h | h <;> simp [h]
      · simp
theorem rck_vals (n : Nat) (R : List (List (List UInt8))) (i : Nat) : (rck n R i).1 = 0 ∨ (rck n R i).1 = 4 ∨ (rck n R i).1 = 5 ∨ (rck n R i).1 = 6 ∨ (rck n R i).1 = 7 ∨ (rck n R i).1 = 8 := by
  induction R generalizing i with
  | nil => exact .inl rfl
  | cons cs r ih =>
    rw [rck]
    split
    · simp
    · split
      · exact ih _
      · rcases wfl_vals n cs with h | h | h | h | h <;> simp [h]
theorem cfl_ok {T : List UInt8} : cfl T = 0 ↔ okC T := by
  unfold cfl okC
  constructor
  · intro h
    split at h
    · exact absurd h (by decide)
    · split at h
      · rename_i h1 h2
        exact ⟨by omega, List.all_eq_true.1 h2⟩
      · exact absurd h (by decide)
  · rintro ⟨h1, h2⟩
    rw [if_neg (by omega), if_pos (List.all_eq_true.2 h2)]
theorem cls_ok {cs : List (List UInt8)} : ∀ j, (cls cs j).1 = 0 ↔ ∀ T ∈ cs, okC T := by
  induction cs with
  | nil => intro j; simp [cls]
  | cons T r ih =>
    intro j
    rw [cls]
    by_cases h : cfl T = 0
    · rw [if_pos h, ih (j + 1)]
      simp [cfl_ok.1 h]
    · rw [if_neg h]
      constructor
      · intro h'; exact absurd h' h
      · intro h'; exact absurd (cfl_ok.2 (h' T (by simp))) h
theorem wfl_ok {n : Nat} {cs : List (List UInt8)} : (wfl n cs).1 = 0 ↔ okW n cs := by
  unfold wfl okW
  by_cases h0 : cs.length = 0
  · rw [if_pos h0]; simp; omega
  · rw [if_neg h0]
    by_cases h1 : 64 < cs.length
    · rw [if_pos h1]; simp; omega
    · rw [if_neg h1]
      by_cases h2 : cs.length = n
      · rw [if_pos h2, cls_ok 0]
        constructor
        · intro h; exact ⟨by omega, by omega, h2, h⟩
        · intro h; exact h.2.2.2
      · rw [if_neg h2]; simp; intro _ _ h; exact absurd h h2
theorem rck_ok {n : Nat} {R : List (List (List UInt8))} : ∀ i, i + R.length ≤ 4096 ∨ i ≤ 4096 → ((rck n R i).1 = 0 ↔ i + R.length ≤ 4096 ∧ ∀ cs ∈ R, okW n cs) := by
  induction R with
  | nil => intro i h; simp [rck]; omega
  | cons cs r ih =>
    intro i h
    rw [rck]
    by_cases h4 : i = 4096
    · rw [if_pos h4]; simp; omega
    · rw [if_neg h4]
      by_cases h1 : (wfl n cs).1 = 0
      · rw [if_pos h1, ih (i + 1) (by simp at h; omega)]
        have := wfl_ok.1 h1
        simp [this]
        omega
      · rw [if_neg h1]
        constructor
        · intro h'; exact absurd h' h1
        · rintro ⟨_, h'⟩; exact absurd (wfl_ok.2 (h' cs (by simp))) h1
end Go.Proofs.YtmgfdnccmeahjaaGreatDoor

namespace Go.Proofs.YtmgfdnccmeahjaaGreatDoor
open Go.RowKit
set_option maxRecDepth 100000
set_option linter.unusedVariables false
set_option linter.unusedSimpArgs false

theorem cfl_long {T : List UInt8} (h : 4096 < T.length) : cfl T = 5 := by unfold cfl; rw [if_pos h]
theorem cfl_bad {T : List UInt8} (h : ¬ 4096 < T.length) {j : Nat} (hj : j < T.length) (hb : mayB (T[j]).toNat = false) : cfl T = 4 := by
  unfold cfl
  rw [if_neg h, if_neg]
  intro ha
  rw [List.all_eq_true.1 ha _ (List.getElem_mem hj)] at hb
  cases hb
theorem cfl_fine {T : List UInt8} (h : ¬ 4096 < T.length) (ha : ∀ i (hi : i < T.length), mayB (T[i]).toNat = true) : cfl T = 0 := by
  unfold cfl
  rw [if_neg h, if_pos]
  rw [List.all_eq_true]
  intro x hx
  obtain ⟨i, hi, rfl⟩ := List.mem_iff_getElem.1 hx
  exact ha i hi
theorem list_at2 (s : ByteArray) (m : Nat) (h : m < s.size) : s.data.toList[m]'(by rw [Array.length_toList]; exact h) = s[m] := by
  rw [Array.getElem_toList]
  rfl
set_option maxHeartbeats 1000000 in
theorem checkCell_any (A : Nat → Addr) (s : ByteArray) (w : World) (hE : HE A w) :
    Calls Tryz.prog 112 #[.string s] w fun e w' => e = .returned (erV A (cfl s.data.toList)) ∧ w' = w := by
  have hds : s.data.toList.length = s.size := by rw [Array.length_toList]; rfl
  have e5 := hE.e5
  have e4 := hE.e4
  clear hE
  by_cases hL : 4096 < s.size
  · have hI : (4096 : Int) < (s.size : Int) := by omega
    rw [cfl_long (by omega), erV_pos A (by decide)]
    clear hds
    go_enter Tryz.func112, Tryz.ntmps112
    go_wp2
    go_ret
    exact ⟨rfl, rfl⟩
  · have hI : ¬ (4096 : Int) < (s.size : Int) := by omega
    have HM := hid (fun c => mayStand_any c w)
    have HD := hid hds
    obtain ⟨V, hV⟩ : ∃ V, V = erV A (cfl s.data.toList) := ⟨_, rfl⟩
    rw [← hV]
    have HV := hid hV
    clear hds hV
    go_enter Tryz.func112, Tryz.ntmps112
    go_wp2_with fail
    go_loop [10] (fun i => ∃ k : Nat, k ≤ s.size ∧ i = .int .i64 (k : Int) ∧ ∀ i (hi : i < s.data.toList.length), i < k → mayB (s.data.toList[i]).toNat = true) (fun i => s.size - (intOf i).toNat)
    case atStart => exact ⟨0, by omega, rfl, fun i hi h0 => absurd h0 (Nat.not_lt_zero _)⟩
    case round =>
      obtain ⟨k, hk, rfl, hall⟩ := hrel
      by_cases hlt : k < s.size
      · have hJ : (k : Int) < (s.size : Int) := by omega
        have HA := hid hall
        clear hall
        have hd := HD.out
        cases hm : mayB s[k].toNat
        · have HC := HM.out s[k]
          rw [hm] at HC
          have HC := hid HC
          have hv : V = .iface 312 (.pointer (some (A 4))) := by
            rw [HV.out, cfl_bad (by omega) (j := k) (by omega) (by rw [list_at2 s k hlt]; exact hm), erV_pos A (by decide)]
          subst hv
          clear hm hd
          go_wp2_with fail
          refine Calls.mono HC.out ?_
          rintro e w1 ⟨rfl, rfl⟩
          go_wp2
          go_ret
          exact ⟨rfl, rfl⟩
        · have HC := HM.out s[k]
          rw [hm] at HC
          have HC := hid HC
          have HN := hid (show ∀ i (hi : i < s.data.toList.length), i < k + 1 → mayB (s.data.toList[i]).toNat = true by
            intro i hi h1
            by_cases he : i = k
            · subst he
              rw [list_at2 s i hlt]
              exact hm
            · exact HA.out i hi (by omega))
          clear hm hd
          go_wp2_with fail
          refine Calls.mono HC.out ?_
          rintro e w1 ⟨rfl, hw⟩
          replace hw := hw.symm
          subst hw
          go_wp2
          go_round
          case rel => exact ⟨k + 1, by omega, by go_num, HN.out⟩
          case measure => simp [intOf]; omega
      · have hd := HD.out
        have hv : V = .nilIface := by
          rw [HV.out, cfl_fine (by omega) (fun i hi => hall i hi (by omega)), erV_zero]
        subst hv
        have hJ : ¬ (k : Int) < (s.size : Int) := by omega
        clear hall hd
        go_wp2
        go_ret
        exact ⟨rfl, rfl⟩

/-- an error that a check answers: none, or a new Fault -/
def Nf (A : Nat → Addr) (w : World) (c line col : Nat) (e : Ending) (w' : World) : Prop :=
  (c = 0 ∧ e = .returned .nilIface ∧ w' = w) ∨ (c ≠ 0 ∧ e = .returned (.iface 38 (.pointer (some ⟨w.heap.size, 0, none⟩))) ∧ w' = w.alloc (.cells #[.int .i64 (line : Int), .int .i64 (col : Int), erV A c] 42))
theorem Nf.bad {A : Nat → Addr} {w : World} {c line col : Nat} (h : c ≠ 0) : Nf A w c line col (.returned (.iface 38 (.pointer (some ⟨w.heap.size, 0, none⟩)))) (w.alloc (.cells #[.int .i64 (line : Int), .int .i64 (col : Int), erV A c] 42)) := .inr ⟨h, rfl, rfl⟩
theorem Nf.none {A : Nat → Addr} {w : World} {line col : Nat} : Nf A w 0 line col (.returned .nilIface) w := .inl ⟨rfl, rfl, rfl⟩
theorem cls_drop (cs : List (List UInt8)) (j : Nat) (hj : j < cs.length) (h : cfl cs[j] = 0) : cls (cs.drop j) j = cls (cs.drop (j + 1)) (j + 1) := by
  rw [List.drop_eq_getElem_cons hj, cls, if_pos h]
theorem cls_hit (cs : List (List UInt8)) (j : Nat) (hj : j < cs.length) (h : cfl cs[j] ≠ 0) : cls (cs.drop j) j = (cfl cs[j], j) := by
  rw [List.drop_eq_getElem_cons hj, cls, if_neg h]
set_option maxHeartbeats 2000000 in
theorem checkRow_any (A : Nat → Addr) (v : Value) (cs : List (List UInt8)) (n : Nat) (w : World) (hE : HE A w) (ht : Tx w v cs) :
    Calls Tryz.prog 82 #[v, .int .i64 (n : Int)] w fun e w' => Nf A w (wfl n cs).1 0 (wfl n cs).2 e w' := by
  have e6 := hE.e6
  have e8 := hE.e8
  have hl := ht.len
  have HT := hid ht
  have HC := hid (fun s => checkCell_any A s w hE)
  obtain ⟨ao, cap, rfl⟩ := ht.form
  clear hE ht
  by_cases h0 : cs.length = 0
  · have hv : wfl n cs = (6, 0) := by unfold wfl; rw [if_pos h0]
    rw [hv]
    have H := hid (Nf.bad (A := A) (w := w) (c := 6) (line := 0) (col := 0) (by decide))
    rw [erV_pos A (by decide)] at H
    rw [h0]
    clear hl hv
    go_enter Tryz.func82, Tryz.ntmps82
    go_wp2
    go_ret
    exact H.out
  · have g0 : ¬ (cs.length : Int) = 0 := by omega
    have b0 : ((cs.length : Int) == 0) = false := by rw [beq_eq_false_iff_ne]; exact g0
    by_cases h1 : 64 < cs.length
    · have hv : wfl n cs = (6, 64) := by unfold wfl; rw [if_neg h0, if_pos h1]
      rw [hv]
      have H := hid (Nf.bad (A := A) (w := w) (c := 6) (line := 0) (col := 64) (by decide))
      rw [erV_pos A (by decide)] at H
      have g1 : (64 : Int) < (cs.length : Int) := by omega
      clear hv
      go_enter Tryz.func82, Tryz.ntmps82
      go_wp2
      go_ret
      exact H.out
    · have g1 : ¬ (64 : Int) < (cs.length : Int) := by omega
      by_cases h2 : cs.length = n
      · have hv : wfl n cs = cls cs 0 := by unfold wfl; rw [if_neg h0, if_neg h1, if_pos h2]
        rw [hv]
        subst h2
        obtain ⟨q, hq⟩ : ∃ q, q = cls cs 0 := ⟨_, rfl⟩
        rw [← hq]
        have HQ := hid hq
        clear hv hq
        go_enter Tryz.func82, Tryz.ntmps82
        go_wp2_with fail
        go_loop [35] (fun i => ∃ k : Nat, k ≤ cs.length ∧ i = .int .i64 (k : Int) ∧ cls cs 0 = cls (cs.drop k) k) (fun i => cs.length - (intOf i).toNat)
        case atStart => exact ⟨0, by omega, rfl, rfl⟩
        case round =>
          obtain ⟨k, hk, rfl, hd⟩ := hrel
          by_cases hlt : k < cs.length
          · have hI : (k : Int) < (cs.length : Int) := by omega
            obtain ⟨g, off, c, e1, hc, c0⟩ := HT.out.at k hlt
            cases e1
            have hx := HC.out ⟨(cs[k]'hlt).toArray⟩
            have hy : (⟨(cs[k]'hlt).toArray⟩ : ByteArray).data.toList = cs[k] := rfl
            rw [hy] at hx
            by_cases hf : cfl (cs[k]'hlt) = 0
            · rw [hf, erV_zero] at hx
              have HX := hid hx
              have HD := hid (hd.trans (cls_drop cs k hlt hf))
              clear hd hx hf hy
              go_wp2_with fail
              refine Calls.mono HX.out ?_
              rintro e w1 ⟨rfl, hw⟩
              replace hw := hw.symm
              subst hw
              go_wp2
              go_round
              case rel => exact ⟨k + 1, by omega, by go_num, HD.out⟩
              case measure => simp [intOf]; omega
            · have hq : q = (cfl cs[k], k) := by rw [HQ.out, hd, cls_hit cs k hlt hf]
              rw [erV_pos A hf] at hx
              have HX := hid hx
              have H := hid (Nf.bad (A := A) (w := w) (c := cfl cs[k]) (line := 0) (col := k) hf)
              rw [erV_pos A hf] at H
              subst hq
              clear hd hx hf hy
              go_wp2_with fail
              refine Calls.mono HX.out ?_
              rintro e w1 ⟨rfl, hw⟩
              replace hw := hw.symm
              subst hw
              go_wp2
              go_ret
              exact H.out
          · have hI : ¬ (k : Int) < (cs.length : Int) := by omega
            have hq : q = (0, 0) := by
              rw [HQ.out, hd, List.drop_eq_nil_of_le (by omega)]
              rfl
            subst hq
            clear hd
            go_wp2
            go_ret
            exact Nf.none
      · have hv : wfl n cs = (8, 0) := by unfold wfl; rw [if_neg h0, if_neg h1, if_neg h2]
        rw [hv]
        have H := hid (Nf.bad (A := A) (w := w) (c := 8) (line := 0) (col := 0) (by decide))
        rw [erV_pos A (by decide)] at H
        have g2 : ¬ (cs.length : Int) = (n : Int) := by omega
        clear hv
        go_enter Tryz.func82, Tryz.ntmps82
        go_wp2
        go_ret
        exact H.out
theorem cellA {w : World} {p : Addr} {u : Value} (h : w.cell? p = some u) (o : Obj) : (w.alloc o).cell? p = some u := (World.cell?_alloc_lt _ _ p (World.block_lt_of_cell? _ _ h)).trans h
set_option maxHeartbeats 2000000 in
theorem onLine_any (f : Nat) (x y z : Value) (n : Nat) (w : World) (hT : ErT w) (h : w.heap[f]? = some (.cells #[x, y, z] 42 (0, 0))) :
    Calls Tryz.prog 35 #[.iface 38 (.pointer (some ⟨f, 0, none⟩)), .int .i64 (n : Int)] w fun e w' => e = .returned (.iface 38 (.pointer (some ⟨f, 0, none⟩))) ∧ w'.heap[f]? = some (.cells #[.int .i64 (n : Int), y, z] 42 (0, 0)) ∧ Kg (But w f) w w' := by
  have hfl : f < w.heap.size := (Array.getElem?_eq_some_iff.1 h).1
  have HH := hid h
  have HS := hid (as_hit ⟨f, 0, none⟩ ⟨w.heap.size, 0, none⟩ (.pointer none) (w.alloc (.cells #[.pointer none] 38)) (hT.below ((Below.refl _ _).alloc (Nat.le_refl _) _)) (by simp) (by simp))
  clear h hT
  go_enter Tryz.func35, Tryz.ntmps35
  go_wp2_with fail
  refine Calls.mono HS.out ?_
  rintro e w1 ⟨rfl, hw1⟩
  have hz0 : (w.alloc (.cells #[.pointer none] 38)).heap.size = w.heap.size + 1 := by simp
  have kB : Below w.heap.size w w1 := by
    rw [hw1]
    exact ((((((Below.refl w.heap.size w).alloc (Nat.le_refl _) _).alloc (by simp) _).alloc (by simp; omega) _).alloc (by simp; omega) _).alloc (by simp; omega) _).setCell (p := ⟨w.heap.size, 0, none⟩) (Nat.le_refl _) _
  have c1 : w1.cell? ⟨w.heap.size, 0, none⟩ = some (.pointer (some ⟨f, 0, none⟩)) := by
    rw [hw1]
    exact World.cell?_setCell_same _ _ _ (cellA (cellA (cellA (cellA (show (w.alloc (.cells #[.pointer none] 38)).cell? ⟨w.heap.size, 0, none⟩ = some (.pointer none) by simp) _) _) _) _)
  have hf1 : w1.heap[f]? = some (.cells #[x, y, z] 42 (0, 0)) := (kB.block f hfl).trans HH.out
  have c0 : w1.cell? ⟨f, 0, none⟩ = some x := by rw [Lib.cell_of_heap hf1]; rfl
  have f0 : w1.frozen? ⟨f, 0, none⟩ = false := Lib.frozen_of_heap hf1 0
  have HF := hid hf1
  have HK := hid kB
  clear hw1 hf1 kB
  go_wp2
  go_ret
  refine ⟨rfl, Lib.heap_setCell_same HF.out _, Kg.set ?_ (But.not w f) _⟩
  exact ⟨HK.out.os, HK.out.tape, HK.out.output, HK.out.size, fun k hk => HK.out.block k hk.1⟩
theorem rck_drop (n : Nat) (R : List (List (List UInt8))) (i : Nat) (hi : i < R.length) (h4 : i ≠ 4096) (h : (wfl n R[i]).1 = 0) : rck n (R.drop i) i = rck n (R.drop (i + 1)) (i + 1) := by
  rw [List.drop_eq_getElem_cons hi, rck, if_neg h4, if_pos h]
theorem rck_hit (n : Nat) (R : List (List (List UInt8))) (i : Nat) (hi : i < R.length) (h4 : i ≠ 4096) (h : (wfl n R[i]).1 ≠ 0) : rck n (R.drop i) i = ((wfl n R[i]).1, i + 1, (wfl n R[i]).2) := by
  rw [List.drop_eq_getElem_cons hi, rck, if_neg h4, if_neg h]
theorem rck_many (n : Nat) (R : List (List (List UInt8))) (i : Nat) (hi : i < R.length) (h4 : i = 4096) : rck n (R.drop i) i = (7, i + 1, 0) := by
  rw [List.drop_eq_getElem_cons hi, rck, if_pos h4]
/-- what a check of rows answers -/
def CkA (A : Nat → Addr) (w : World) (q : Nat × Nat × Nat) (e : Ending) (w' : World) : Prop := ∃ ev, e = .returned ev ∧ FT A w' ev q.1 (q.2.1, q.2.2) ∧ Below w.heap.size w w' ∧ (q.1 = 0 → w' = w)
theorem HE.grown {A : Nat → Addr} {w w' : World} (h : HE A w) (hb : Below w.heap.size w w') : HE A w' := h.kept (G := fun k => k < w.heap.size) ⟨hb.os, hb.tape, hb.output, hb.size, fun k hk => hb.block k hk⟩ (fun k hk => h.lt k hk)
set_option maxHeartbeats 2000000 in
theorem checkRows_any (A : Nat → Addr) (v : Value) (R : List (List (List UInt8))) (w : World) (hE : HE A w) (hT : ErT w) (hr : Rw w v R) :
    Calls Tryz.prog 36 #[v] w fun e w' => CkA A w (rck (R.headD []).length R 0) e w' := by
  have e7 := hE.e7
  have hl := hr.len
  have HR := hid hr
  have HC := hid (fun v cs n ht => checkRow_any A v cs n w hE ht)
  have HT := hid hT
  obtain ⟨n, hn⟩ : ∃ n, n = (R.headD []).length := ⟨_, rfl⟩
  rw [← hn]
  have HN := hid hn
  obtain ⟨⟨qc, qn, qo⟩, hq⟩ : ∃ q, q = rck n R 0 := ⟨_, rfl⟩
  rw [← hq]
  have HQ := hid hq
  obtain ⟨ao, cap, rfl⟩ := hr.form
  clear hE hr hT hq hn
  go_enter Tryz.func36, Tryz.ntmps36
  go_wp2_with fail
  go_loop [8] (fun i => ∃ k : Nat, k ≤ R.length ∧ i = .int .i64 (k : Int) ∧ rck n R 0 = rck n (R.drop k) k) (fun i => R.length - (intOf i).toNat)
  case atStart => exact ⟨0, by omega, rfl, rfl⟩
  case round =>
    obtain ⟨k, hk, rfl, hd⟩ := hrel
    by_cases hlt : k < R.length
    · have hI : (k : Int) < (R.length : Int) := by omega
      have hI1 : (k : Int) + 1 ≤ 9223372036854775807 := by omega
      obtain ⟨g, off, c, u, e1, hc, c0, t0⟩ := HR.out.at k hlt
      cases e1
      by_cases h4 : k = 4096
      · have hq : (qc, qn, qo) = (7, k + 1, 0) := by rw [HQ.out, hd, rck_many n R k hlt h4]
        have hqc : qc = 7 := congrArg Prod.fst hq
        have hqn : qn = k + 1 := congrArg (fun x => x.2.1) hq
        have hqo : qo = 0 := congrArg (fun x => x.2.2) hq
        subst hqc hqn hqo
        have HW := hid (heap_alloc_new w (.cells #[.int .i64 ((k : Int) + 1), .int .i64 0, .iface 312 (.pointer (some (A 7)))] 42))
        have HK := hid h4
        have g4 : ((k : Int) == 4096) = true := by rw [beq_iff_eq]; omega
        obtain ⟨ua, uc, rfl⟩ := t0.form
        clear hd t0 h4 hq
        go_wp2
        go_ret
        refine ⟨_, rfl, .inr ⟨by simp, _, rfl, ?_⟩, (Below.refl _ _).alloc (Nat.le_refl _) _, fun h => absurd h (by simp)⟩
        exact HW.out
      · have g4 : ((k : Int) == 4096) = false := by rw [beq_eq_false_iff_ne]; omega
        have g4' : ¬ (k : Int) = 4096 := by omega
        obtain ⟨g2, off2, c2, u2, e2, hc2, c20, t2⟩ := HR.out.at 0 (by omega)
        cases e2
        rw [Nat.add_zero] at c20
        have hhd : R[0] = R.headD [] := by
          cases R with
          | nil => simp at hlt
          | cons a r => rfl
        obtain ⟨ua2, uc2, rfl⟩ := t2.form
        rw [hhd, ← HN.out] at c20
        have hx := HC.out u _ n t0
        obtain ⟨ua, uc, rfl⟩ := t0.form
        by_cases hf : (wfl n (R[k]'hlt)).1 = 0
        · have HD := hid (hd.trans (rck_drop n R k hlt h4 hf))
          have hy : Calls Tryz.prog 82 #[.slice ua (R[k]'hlt).length uc, .int .i64 (n : Int)] w fun e w' => e = .returned .nilIface ∧ w' = w := by
            refine hx.mono ?_
            rintro e w1 (⟨_, he, hw⟩ | ⟨hne, _⟩)
            · exact ⟨he, hw⟩
            · exact absurd hf hne
          have HX := hid hy
          clear hd hx hy hf t0 t2 hhd h4
          go_wp2_with fail
          refine Calls.mono HX.out ?_
          rintro e w1 ⟨rfl, hw⟩
          replace hw := hw.symm
          subst hw
          go_wp2
          go_round
          case rel => exact ⟨k + 1, by omega, by go_num, HD.out⟩
          case measure => simp [intOf]; omega
        · have hq : (qc, qn, qo) = ((wfl n (R[k]'hlt)).1, k + 1, (wfl n (R[k]'hlt)).2) := by rw [HQ.out, hd, rck_hit n R k hlt h4 hf]
          have hqc : (wfl n (R[k]'hlt)).1 = qc := (congrArg Prod.fst hq).symm
          have hqn : qn = k + 1 := congrArg (fun x => x.2.1) hq
          have hqo : (wfl n (R[k]'hlt)).2 = qo := (congrArg (fun x => x.2.2) hq).symm
          subst hqn
          rw [hqc] at hf hx
          rw [hqo] at hx
          obtain ⟨W, hW⟩ : ∃ W, W = w.alloc (.cells #[.int .i64 ((0 : Nat) : Int), .int .i64 (qo : Int), erV A qc] 42) := ⟨_, rfl⟩
          have hWh : W.heap[w.heap.size]? = some (.cells #[.int .i64 ((0 : Nat) : Int), .int .i64 (qo : Int), erV A qc] 42 (0, 0)) := by rw [hW]; exact heap_alloc_new w _
          have hWB : Below w.heap.size w W := by rw [hW]; exact (Below.refl _ _).alloc (Nat.le_refl _) _
          have hy : Calls Tryz.prog 82 #[.slice ua (R[k]'hlt).length uc, .int .i64 (n : Int)] w fun e w' => e = .returned (.iface 38 (.pointer (some ⟨w.heap.size, 0, none⟩))) ∧ w' = W := by
            refine hx.mono ?_
            rintro e w1 (⟨hz, _⟩ | ⟨_, he, hw⟩)
            · exact absurd hz hf
            · exact ⟨he, hw.trans hW.symm⟩
          have HO := hid (onLine_any w.heap.size _ _ _ (k + 1) W (HT.out.below hWB) hWh)
          have hcast : ((k + 1 : Nat) : Int) = (k : Int) + 1 := by omega
          rw [hcast] at HO
          have HX := hid hy
          have HWB := hid hWB
          have HF := hid hf
          clear hd hx hy hf t0 t2 hhd h4 hW hWh hWB hcast hq hqc hqo
          go_wp2_with fail
          refine Calls.mono HX.out ?_
          rintro e w1 ⟨rfl, hw⟩
          replace hw := hw.symm
          subst hw
          go_wp2_with fail
          refine Calls.mono HO.out ?_
          rintro e w2 ⟨rfl, hh2, hk2⟩
          have HH2 := hid hh2
          have HK2 := hid hk2
          clear hh2 hk2
          go_wp2
          go_ret
          refine ⟨_, rfl, .inr ⟨HF.out, _, rfl, ?_⟩, ?_, fun h => absurd h HF.out⟩
          · exact HH2.out
          · have b1 := HWB.out
            have k2 := HK2.out
            exact ⟨k2.os.trans b1.os, k2.tape.trans b1.tape, k2.output.trans b1.output, Nat.le_trans b1.size k2.size, fun j hj => (k2.block j ⟨Nat.lt_of_lt_of_le hj b1.size, by omega⟩).trans (b1.block j hj)⟩
    · have hI : ¬ (k : Int) < (R.length : Int) := by omega
      have hq : (qc, qn, qo) = (0, 0, 0) := by
        rw [HQ.out, hd, List.drop_eq_nil_of_le (by omega)]
        rfl
      have hqc : qc = 0 := congrArg Prod.fst hq
      subst hqc
      clear hd hq
      go_wp2
      go_ret
      exact ⟨_, rfl, .inl ⟨rfl, rfl⟩, Below.refl _ _, fun _ => rfl⟩
end Go.Proofs.YtmgfdnccmeahjaaGreatDoor

namespace Go.Proofs.YtmgfdnccmeahjaaGreatDoor
open Go.RowKit Go.ChangeShapes
set_option maxRecDepth 100000
set_option linter.unusedVariables false
set_option linter.unusedSimpArgs false

def gls20 : List Nat := [8, 4, 3, 9, 10, 11, 12, 5, 13, 1, 2, 14, 15, 16, 17, 18, 6, 19, 20, 0]
def txs20 : List (List UInt8) := [[97, 32, 113, 117, 111, 116, 101, 100, 32, 99, 101, 108, 108, 32, 105, 115, 32, 110, 111, 116, 32, 99, 108, 111, 115, 101, 100], [97, 32, 113, 117, 111, 116, 101, 32, 109, 97, 121, 32, 110, 111, 116, 32, 115, 116, 97, 110, 100, 32, 104, 101, 114, 101], [97, 32, 108, 105, 110, 101, 32, 109, 97, 121, 32, 110, 111, 116, 32, 101, 110, 100, 32, 115, 111], [116, 104, 105, 115, 32, 98, 121, 116, 101, 32, 109, 97, 121, 32, 110, 111, 116, 32, 115, 116, 97, 110, 100, 32, 104, 101, 114, 101], [116, 104, 101, 32, 99, 101, 108, 108, 32, 105, 115, 32, 116, 111, 111, 32, 108, 111, 110, 103], [116, 111, 111, 32, 109, 97, 110, 121, 32, 99, 101, 108, 108, 115], [116, 111, 111, 32, 109, 97, 110, 121, 32, 114, 111, 119, 115], [110, 111, 116, 32, 97, 115, 32, 109, 97, 110, 121, 32, 99, 101, 108, 108, 115, 32, 97, 115, 32, 116, 104, 101, 32, 102, 105, 114, 115, 116, 32, 114, 111, 119, 32, 104, 97, 115], [116, 104, 101, 32, 114, 101, 97, 100, 101, 114, 32, 104, 97, 115, 32, 101, 110, 100, 101, 100], [116, 104, 101, 32, 99, 111, 108, 117, 109, 110, 115, 32, 109, 97, 121, 32, 110, 111, 116, 32, 98, 101, 32, 115, 111], [97, 32, 99, 111, 108, 117, 109, 110, 32, 105, 115, 32, 109, 105, 115, 115, 105, 110, 103], [97, 32, 99, 111, 108, 117, 109, 110, 32, 115, 116, 97, 110, 100, 115, 32, 116, 119, 105, 99, 101], [116, 104, 101, 32, 99, 101, 108, 108, 32, 105, 115, 32, 101, 109, 112, 116, 121], [116, 104, 105, 115, 32, 105, 115, 32, 110, 111, 32, 110, 117, 109, 98, 101, 114], [116, 104, 105, 115, 32, 105, 115, 32, 110, 111, 32, 112, 114, 105, 99, 101], [116, 104, 105, 115, 32, 105, 115, 32, 110, 111, 32, 100, 97, 121], [116, 104, 105, 115, 32, 105, 115, 32, 110, 111, 32, 99, 111, 100, 101], [116, 104, 105, 115, 32, 105, 115, 32, 110, 101, 105, 116, 104, 101, 114, 32, 121, 101, 115, 32, 110, 111, 114, 32, 110, 111], [116, 104, 105, 115, 32, 118, 97, 108, 117, 101, 32, 109, 97, 121, 32, 110, 111, 116, 32, 98, 101], [116, 104, 101, 32, 116, 101, 120, 116, 32, 105, 115, 32, 116, 111, 111, 32, 108, 111, 110, 103]]
def gV (c : Nat) : Nat := gls20.getD (c - 1) 0
def tV (c : Nat) : List UInt8 := txs20.getD (c - 1) []
/-- the twenty variables hold errors of errors.New's make, each with its text -/
def Sn (A : Nat → Addr) (w : World) : Prop := ∀ c, 1 ≤ c → c ≤ 20 → SE w (gV c) (A c) (tV c)
theorem Sn.below {A : Nat → Addr} {w w' : World} (h : Sn A w) (hb : Below w.heap.size w w') : Sn A w' := fun c h1 h2 => (h c h1 h2).below hb
theorem tV_ne : ∀ c d : Fin 21, 1 ≤ c.1 → 1 ≤ d.1 → c ≠ d → tV c.1 ≠ tV d.1 := by decide +kernel
theorem Sn.ne {A : Nat → Addr} {w : World} (h : Sn A w) {c d : Nat} (hc : 1 ≤ c ∧ c ≤ 20) (hd : 1 ≤ d ∧ d ≤ 20) (hne : c ≠ d) : A c ≠ A d :=
  (h c hc.1 hc.2).ne (h d hd.1 hd.2) (tV_ne ⟨c, by omega⟩ ⟨d, by omega⟩ hc.1 hd.1 (fun e => hne (congrArg Fin.val e)))
theorem Sn.lie {A : Nat → Addr} {w : World} (h : Sn A w) {c : Nat} (hc : 1 ≤ c ∧ c ≤ 20) : ∃ ca ta, w.heap[(A c).block]? = some (.cells ca ta (0, 0)) := by
  obtain ⟨_, _, x, t, hl⟩ := h c hc.1 hc.2
  exact ⟨x, t, hl⟩
theorem Sn.he {A : Nat → Addr} {w : World} (h : Sn A w) : HE A w :=
  ⟨(h 1 (by omega) (by omega)).1, (h 2 (by omega) (by omega)).1, (h 3 (by omega) (by omega)).1, (h 4 (by omega) (by omega)).1, (h 5 (by omega) (by omega)).1, (h 6 (by omega) (by omega)).1, (h 7 (by omega) (by omega)).1, (h 8 (by omega) (by omega)).1, (h 9 (by omega) (by omega)).1, (h 20 (by omega) (by omega)).1⟩
/-- errors.Is of a Fault, at each of the twenty -/
theorem is_at (A : Nat → Addr) (f c d : Nat) (x y : Value) (w : World) (h : w.heap[f]? = some (.cells #[x, y, erV A c] 42 (0, 0))) (hA : Sn A w) (hc : 1 ≤ c ∧ c ≤ 20) (hd : 1 ≤ d ∧ d ≤ 20) :
    Calls Tryz.prog 13 #[.iface 38 (.pointer (some ⟨f, 0, none⟩)), .iface 312 (.pointer (some (A d)))] w fun e w' => e = .returned (.bool (decide (c = d))) ∧ w' = w := by
  rw [erV_pos A (by omega)] at h
  refine is_of _ _ _ w _ ?_
  by_cases hcd : c = d
  · subst hcd
    rw [decide_eq_true rfl]
    exact is0_fault_same f (A c) _ _ w h
  · rw [decide_eq_false hcd]
    obtain ⟨ca, ta, ha⟩ := hA.lie hc
    obtain ⟨cb, tb, hb⟩ := hA.lie hd
    exact is0_fault_other f (A c) (A d) _ _ ca cb ta tb w h (hA.ne hc hd hcd) ha hb
def errs (A : Nat → Addr) : Array Value := #[.iface 312 (.pointer (some (A 1))), .iface 312 (.pointer (some (A 2))), .iface 312 (.pointer (some (A 3))), .iface 312 (.pointer (some (A 4))), .iface 312 (.pointer (some (A 5))), .iface 312 (.pointer (some (A 6))), .iface 312 (.pointer (some (A 7))), .iface 312 (.pointer (some (A 8))), .iface 312 (.pointer (some (A 9))), .iface 312 (.pointer (some (A 10))), .iface 312 (.pointer (some (A 11))), .iface 312 (.pointer (some (A 12))), .iface 312 (.pointer (some (A 13))), .iface 312 (.pointer (some (A 14))), .iface 312 (.pointer (some (A 15))), .iface 312 (.pointer (some (A 16))), .iface 312 (.pointer (some (A 17))), .iface 312 (.pointer (some (A 18))), .iface 312 (.pointer (some (A 19))), .iface 312 (.pointer (some (A 20)))]
theorem errs_at (A : Nat → Addr) (j : Nat) (h : j < 20) : (errs A)[j]? = some (.iface 312 (.pointer (some (A (j + 1))))) := by
  match j, h with
  | 0, _ => rfl
  | 1, _ => rfl
  | 2, _ => rfl
  | 3, _ => rfl
  | 4, _ => rfl
  | 5, _ => rfl
  | 6, _ => rfl
  | 7, _ => rfl
  | 8, _ => rfl
  | 9, _ => rfl
  | 10, _ => rfl
  | 11, _ => rfl
  | 12, _ => rfl
  | 13, _ => rfl
  | 14, _ => rfl
  | 15, _ => rfl
  | 16, _ => rfl
  | 17, _ => rfl
  | 18, _ => rfl
  | 19, _ => rfl
  | n + 20, h => exact absurd h (by omega)
set_option maxHeartbeats 1000000 in
theorem variable_any (A : Nat → Addr) (j : Nat) (hj : j < 20) (z : Int) (hz : z = (j : Int) + 1) (w : World) (h : Sn A w) :
    Calls Tryz.prog 16 #[.int .i64 z] w fun e w' => e = .returned (.iface 312 (.pointer (some (A (j + 1))))) ∧ w' = w.alloc (.cells (errs A) 27) := by
  subst hz
  have e1 : w.cell? ⟨8, 0, none⟩ = some (.iface 312 (.pointer (some (A 1)))) := (h 1 (by omega) (by omega)).1
  have e2 : w.cell? ⟨4, 0, none⟩ = some (.iface 312 (.pointer (some (A 2)))) := (h 2 (by omega) (by omega)).1
  have e3 : w.cell? ⟨3, 0, none⟩ = some (.iface 312 (.pointer (some (A 3)))) := (h 3 (by omega) (by omega)).1
  have e4 : w.cell? ⟨9, 0, none⟩ = some (.iface 312 (.pointer (some (A 4)))) := (h 4 (by omega) (by omega)).1
  have e5 : w.cell? ⟨10, 0, none⟩ = some (.iface 312 (.pointer (some (A 5)))) := (h 5 (by omega) (by omega)).1
  have e6 : w.cell? ⟨11, 0, none⟩ = some (.iface 312 (.pointer (some (A 6)))) := (h 6 (by omega) (by omega)).1
  have e7 : w.cell? ⟨12, 0, none⟩ = some (.iface 312 (.pointer (some (A 7)))) := (h 7 (by omega) (by omega)).1
  have e8 : w.cell? ⟨5, 0, none⟩ = some (.iface 312 (.pointer (some (A 8)))) := (h 8 (by omega) (by omega)).1
  have e9 : w.cell? ⟨13, 0, none⟩ = some (.iface 312 (.pointer (some (A 9)))) := (h 9 (by omega) (by omega)).1
  have e10 : w.cell? ⟨1, 0, none⟩ = some (.iface 312 (.pointer (some (A 10)))) := (h 10 (by omega) (by omega)).1
  have e11 : w.cell? ⟨2, 0, none⟩ = some (.iface 312 (.pointer (some (A 11)))) := (h 11 (by omega) (by omega)).1
  have e12 : w.cell? ⟨14, 0, none⟩ = some (.iface 312 (.pointer (some (A 12)))) := (h 12 (by omega) (by omega)).1
  have e13 : w.cell? ⟨15, 0, none⟩ = some (.iface 312 (.pointer (some (A 13)))) := (h 13 (by omega) (by omega)).1
  have e14 : w.cell? ⟨16, 0, none⟩ = some (.iface 312 (.pointer (some (A 14)))) := (h 14 (by omega) (by omega)).1
  have e15 : w.cell? ⟨17, 0, none⟩ = some (.iface 312 (.pointer (some (A 15)))) := (h 15 (by omega) (by omega)).1
  have e16 : w.cell? ⟨18, 0, none⟩ = some (.iface 312 (.pointer (some (A 16)))) := (h 16 (by omega) (by omega)).1
  have e17 : w.cell? ⟨6, 0, none⟩ = some (.iface 312 (.pointer (some (A 17)))) := (h 17 (by omega) (by omega)).1
  have e18 : w.cell? ⟨19, 0, none⟩ = some (.iface 312 (.pointer (some (A 18)))) := (h 18 (by omega) (by omega)).1
  have e19 : w.cell? ⟨20, 0, none⟩ = some (.iface 312 (.pointer (some (A 19)))) := (h 19 (by omega) (by omega)).1
  have e20 : w.cell? ⟨0, 0, none⟩ = some (.iface 312 (.pointer (some (A 20)))) := (h 20 (by omega) (by omega)).1
  have hc : (w.alloc (.cells (errs A) 27)).cell? ⟨w.heap.size, j, none⟩ = some (.iface 312 (.pointer (some (A (j + 1))))) := by
    rw [Lib.cell_of_heap (heap_alloc_new w _)]
    exact errs_at A j hj
  have hJ : (j : Int) < 20 := by omega
  have hJ0 : (0 : Int) ≤ (j : Int) := by omega
  obtain ⟨W, hW⟩ : ∃ W, W = w.alloc (.cells (errs A) 27) := ⟨_, rfl⟩
  rw [← hW] at hc ⊢
  have HW := hid (show w.alloc (.cells #[.iface 312 (.pointer (some (A 1))), .iface 312 (.pointer (some (A 2))), .iface 312 (.pointer (some (A 3))), .iface 312 (.pointer (some (A 4))), .iface 312 (.pointer (some (A 5))), .iface 312 (.pointer (some (A 6))), .iface 312 (.pointer (some (A 7))), .iface 312 (.pointer (some (A 8))), .iface 312 (.pointer (some (A 9))), .iface 312 (.pointer (some (A 10))), .iface 312 (.pointer (some (A 11))), .iface 312 (.pointer (some (A 12))), .iface 312 (.pointer (some (A 13))), .iface 312 (.pointer (some (A 14))), .iface 312 (.pointer (some (A 15))), .iface 312 (.pointer (some (A 16))), .iface 312 (.pointer (some (A 17))), .iface 312 (.pointer (some (A 18))), .iface 312 (.pointer (some (A 19))), .iface 312 (.pointer (some (A 20)))] 27) = W from hW.symm)
  clear h hW
  go_enter Tryz.func16, Tryz.ntmps16
  go_wp2_with fail
  go_ret
  refine ⟨congrArg Ending.returned ?_, HW.out⟩
  exact (Array.getElem?_eq_some_iff.1 (errs_at A j hj)).2
set_option maxHeartbeats 2000000 in
/-- a Fault of one of the twenty is of one kind -/
theorem kinds_any (A : Nat → Addr) (f c : Nat) (x y : Value) (w : World) (h : w.heap[f]? = some (.cells #[x, y, erV A c] 42 (0, 0))) (hA : Sn A w) (hc : 1 ≤ c ∧ c ≤ 20) :
    Calls Tryz.prog 53 #[.iface 38 (.pointer (some ⟨f, 0, none⟩))] w fun e w' => e = .returned (.int .i64 1) ∧ Below w.heap.size w w' := by
  have HH := hid h
  have HA := hid hA
  have hfl : f < w.heap.size := (Array.getElem?_eq_some_iff.1 h).1
  clear h hA
  go_enter Tryz.func53, Tryz.ntmps53
  go_wp2_with fail
  go_loopw [3, 4] (fun n k wr => ∃ j : Nat, j ≤ 20 ∧ k = .int .i64 ((j : Int) + 1) ∧ n = .int .i64 (if c ≤ j then 1 else 0) ∧ Below w.heap.size w wr) (fun _ k _ => 21 - (intOf k).toNat)
  case atStart => exact ⟨0, by omega, rfl, by rw [if_neg (by omega)], Below.refl _ _⟩
  case round =>
    obtain ⟨j, hj, rfl, rfl, hbl⟩ := hrel
    by_cases hlt : j < 20
    · have hI : (j : Int) + 1 ≤ 20 := by omega
      have hf1 := (hbl.block f hfl).trans HH.out
      have HV := hid (variable_any A j hlt _ rfl wr (HA.out.below hbl))
      have hb2 : Below wr.heap.size wr (wr.alloc (.cells (errs A) 27)) := (Below.refl _ _).alloc (Nat.le_refl _) _
      have hfl1 : f < wr.heap.size := (Array.getElem?_eq_some_iff.1 hf1).1
      have hi := is_at A f c (j + 1) x y (wr.alloc (.cells (errs A) 27)) ((hb2.block f hfl1).trans hf1) ((HA.out.below hbl).below hb2) hc ⟨by omega, by omega⟩
      have HBL := hid (hbl.trans (hb2.mono hbl.size))
      generalize wr.alloc (.cells (errs A) 27) = wv at *
      clear hf1 hbl hb2 hfl1
      by_cases hcj : c = j + 1
      · rw [decide_eq_true hcj] at hi
        have HI := hid hi
        have HC := hid hcj
        rw [if_neg (show ¬ c ≤ j by omega)]
        clear hi hcj
        go_wp2_with fail
        refine Calls.mono HV.out ?_
        rintro e w2 ⟨rfl, hw⟩
        replace hw := hw.symm
        subst hw
        go_wp2_with fail
        refine Calls.mono HI.out ?_
        rintro e w3 ⟨rfl, hw⟩
        replace hw := hw.symm
        subst hw
        go_wp2
        go_roundw
        case rel => exact ⟨j + 1, by omega, by go_num, by rw [if_pos (show c ≤ j + 1 by have := HC.out; omega)], HBL.out⟩
        case measure => simp [intOf]; omega
      · rw [decide_eq_false hcj] at hi
        have HI := hid hi
        have hif : (if c ≤ j then (1 : Int) else 0) = (if c ≤ j + 1 then 1 else 0) := by
          by_cases h1 : c ≤ j
          · rw [if_pos h1, if_pos (by omega)]
          · rw [if_neg h1, if_neg (by omega)]
        have HIf := hid hif
        generalize (if c ≤ j then (1 : Int) else 0) = q at *
        clear hi hcj hif
        go_wp2_with fail
        refine Calls.mono HV.out ?_
        rintro e w2 ⟨rfl, hw⟩
        replace hw := hw.symm
        subst hw
        go_wp2_with fail
        refine Calls.mono HI.out ?_
        rintro e w3 ⟨rfl, hw⟩
        replace hw := hw.symm
        subst hw
        go_wp2
        go_roundw
        case rel => exact ⟨j + 1, by omega, by go_num, by rw [HIf.out], HBL.out⟩
        case measure => simp [intOf]; omega
    · have hI : ¬ (j : Int) + 1 ≤ 20 := by omega
      rw [if_pos (show c ≤ j by omega)]
      go_wp2
      go_ret
      exact ⟨rfl, hbl⟩
end Go.Proofs.YtmgfdnccmeahjaaGreatDoor

namespace Go.Proofs.YtmgfdnccmeahjaaGreatDoor
open Go.RowKit
set_option maxRecDepth 100000
set_option linter.unusedVariables false
set_option linter.unusedSimpArgs false

/-- what a reader tells: a fault's code (0: none), the number, the text, the number behind the fault -/
abbrev Rd := Nat × Int × List UInt8 × Int
def cellV (k : Nat) (n : Int) (t : ByteArray) : Value := .agg #[.int .i64 (k : Int), .string t, .int .i64 n]
def RdP (A : Nat → Addr) (k : Nat) (r : Rd) (w w' : World) (e : Ending) : Prop :=
  (r.1 = 0 ∧ ∃ t : ByteArray, t.data.toList = r.2.2.1 ∧ e = .returned (.tuple #[cellV k r.2.1 t, .nilIface])) ∨
  ((r.1 = 13 ∨ r.1 = 14 ∨ r.1 = 15 ∨ r.1 = 18) ∧ e = .returned (.tuple #[cellV 0 0 ⟨#[]⟩, erV A r.1])) ∨
  ((r.1 = 16 ∨ r.1 = 17) ∧ ∃ q, e = .returned (.tuple #[cellV 0 0 ⟨#[]⟩, .iface 54 (.pointer (some ⟨q, 0, none⟩))]) ∧ w.heap.size ≤ q ∧ w'.heap[q]? = some (.cells #[erV A r.1, .int .i64 r.2.2.2] 58 (0, 0)))
def rdInt (T : List UInt8) : Rd := match intR T with | some v => (0, v, [], 0) | none => (14, 0, [], 0)
def rdCents (T : List UInt8) : Rd := match centR T with | some v => (0, v, [], 0) | none => (15, 0, [], 0)
def rdYes (T : List UInt8) : Rd := if T = [121, 101, 115] then (0, 1, [], 0) else if T = [110, 111] then (0, 0, [], 0) else (18, 0, [], 0)
theorem Sn.cellAt {A : Nat → Addr} {w : World} (h : Sn A w) {c : Nat} (h1 : 1 ≤ c) (h2 : c ≤ 20) : w.cell? ⟨gV c, 0, none⟩ = some (erV A c) := by
  rw [erV_pos A (by omega)]
  exact (h c h1 h2).1
theorem results_ct {fn : Func} {p q : Tmp} (h : fn.results = #[.cell p 52, .tmp q]) (tmps : Array Value) (w : World) (g k : Nat) (n : Int) (t : ByteArray) (hp : tmps.getD p undef = .pointer (some ⟨g, 0, none⟩)) (h0 : w.cell? ⟨g, 0, none⟩ = some (.int .i64 (k : Int))) (h1 : w.cell? ⟨g, 1, none⟩ = some (.string t)) (h2 : w.cell? ⟨g, 2, none⟩ = some (.int .i64 n)) :
    (results fn tmps).run Tryz.prog w = .ok (.tuple #[cellV k n t, tmps.getD q undef]) w := by
  have hp' : tmps[p]?.getD undef = .pointer (some ⟨g, 0, none⟩) := by simpa using hp
  simp [results, h, hp', asAddr, go_sem, h0, h1, h2, cellV]
theorem put3 {w2 : World} {g : Nat} {a b c : Value} (h : w2.heap[g]? = some (.cells #[a, b, c] 52 (0, 0))) (x y z : Value) : (((w2.setCell ⟨g, 0, none⟩ x).setCell ⟨g, 1, none⟩ y).setCell ⟨g, 2, none⟩ z).heap[g]? = some (.cells #[x, y, z] 52 (0, 0)) :=
  heap_setCell_same _ g 2 _ _ z (heap_setCell_same _ g 1 _ _ y (heap_setCell_same w2 g 0 _ _ x h))
theorem below3 {w w2 : World} {g : Nat} (hb : Below w.heap.size w w2) (hg : w.heap.size ≤ g) (x y z : Value) : Below w.heap.size w (((w2.setCell ⟨g, 0, none⟩ x).setCell ⟨g, 1, none⟩ y).setCell ⟨g, 2, none⟩ z) :=
  ((hb.setCell (p := ⟨g, 0, none⟩) hg x).setCell (p := ⟨g, 1, none⟩) hg y).setCell (p := ⟨g, 2, none⟩) hg z
theorem rd_close {fn : Func} {p q : Tmp} {post : Ending → World → Prop} {tmps : Array Value} {W : World} {g k : Nat} {n : Int} {t : ByteArray} {ev : Value} (h : fn.results = #[.cell p 52, .tmp q]) (hp : tmps.getD p undef = .pointer (some ⟨g, 0, none⟩))
    (hW : W.heap[g]? = some (.cells #[.int .i64 (k : Int), .string t, .int .i64 n] 52 (0, 0))) (hq : tmps.getD q undef = ev) (hpost : post (.returned (.tuple #[cellV k n t, ev])) W) : bodyPost Tryz.prog fn post Exit.ret { tmps := tmps, defers := [] } W := by
  have c := Lib.cell_of_heap hW
  have := results_ct h tmps W g k n t hp (c 0) (c 1) (c 2)
  rw [hq] at this
  exact ⟨rfl, _, this, hpost⟩
set_option maxHeartbeats 1000000 in
theorem readInt_any (A : Nat → Addr) (s : ByteArray) (w : World) (hs : s.size ≤ 281474976710656) (hA : Sn A w) (h1 : HasEv 25 w) (h2 : HasEv 26 w) :
    Calls Tryz.prog 142 #[.string s] w fun e w' => RdP A 2 (rdInt s.data.toList) w w' e ∧ Below w.heap.size w w' := by
  obtain ⟨W, hW⟩ : ∃ W, w.alloc (.cells #[.int .i64 0, .string ⟨#[]⟩, .int .i64 0] 52) = W := ⟨_, rfl⟩
  have bW : Below w.heap.size w W := by rw [← hW]; exact (Below.refl _ _).alloc (Nat.le_refl _) _
  have xW : W.heap[w.heap.size]? = some (.cells #[.int .i64 0, .string ⟨#[]⟩, .int .i64 0] 52 (0, 0)) := by rw [← hW]; exact heap_alloc_new w _
  have HC := hid (cutP_any s W hs)
  have HG14 := hid (show 16 < w.heap.size from World.block_lt_of_cell? _ _ (hA.cellAt (c := 14) (by decide) (by decide)))
  have HAt := hid (atoi_any s W hs (h1.below bW) (h2.below bW))
  have HSn := hid (hA.below bW)
  have HX := hid (And.intro bW xW)
  have HW := hid hW
  clear bW xW hW h1 h2 hA
  go_enter Tryz.func142, Tryz.ntmps142
  go_wp2_with fail
  rw [HW.out]
  refine Calls.mono HC.out ?_
  rintro e w1 ⟨⟨t, rfl, ht⟩, hw⟩
  replace hw := hw.symm
  subst hw
  have HT := hid ht
  have hts : t.size ≤ 9223372036854775807 := by
    have h1 := szL t
    rw [ht] at h1
    have h2 : (bdy s.data.toList).length ≤ s.data.toList.length := by unfold bdy; split <;> simp
    have := szL s
    omega
  obtain ⟨ng, hng⟩ : ∃ ng, ngt s.data.toList = ng := ⟨_, rfl⟩
  rw [hng]
  have HN := hid hng
  clear ht hng HC
  go_wp2_with fail
  refine Calls.mono HAt.out ?_
  rintro e w2 ⟨hcase, hb2⟩
  have HB2 := hid (HX.out.1.trans (hb2.mono HX.out.1.size))
  have HX2 := hid ((hb2.block _ (Array.getElem?_eq_some_iff.1 HX.out.2).1).trans HX.out.2)
  have HS2 := hid (HSn.out.below hb2)
  have HIs := hid (isWhole_any t w2 hts)
  rw [HT.out] at HIs
  obtain ⟨b, hb⟩ : ∃ b, wh (bdy s.data.toList) = b := ⟨_, rfl⟩
  rw [hb] at HIs
  have HBb := hid hb
  clear hb hb2 HAt
  rcases hcase with ⟨v, hv, rfl⟩ | ⟨hv, x, tt, p, rfl⟩
  · have hi : intR s.data.toList = if b && !(ng && v == 0) then some v else none := by
      unfold intR; rw [hv]; simp only []; rw [HBb.out, HN.out]
    have hr : rdInt s.data.toList = if b && !(ng && v == 0) then (0, v, [], 0) else (14, 0, [], 0) := by
      unfold rdInt; rw [hi]; cases (b && !(ng && v == 0)) <;> rfl
    have HR := hid hr
    have hc14 := HS2.out.cellAt (c := 14) (by decide) (by decide)
    rw [show gV 14 = 16 from rfl] at hc14
    have hlt : 16 < w.heap.size := HG14.out
    have hne1 : ¬ (16 = w.heap.size) := by omega
    have hne2 : ¬ (w.heap.size = 16) := by omega
    have cx := Lib.cell_of_heap HX2.out
    have x0 := cx 0
    have x1 := cx 1
    have x2 := cx 2
    have fx := Lib.frozen_of_heap HX2.out
    have f0 := fx 0
    have f1 := fx 1
    have f2 := fx 2
    clear hi hr hv cx fx
    have HE14 := hid (show ∀ W : World, Below w.heap.size w W → rdInt s.data.toList = (14, 0, [], 0) → RdP A 2 (rdInt s.data.toList) w W (.returned (.tuple #[cellV 0 0 ⟨#[]⟩, erV A 14])) ∧ Below w.heap.size w W from fun W hb h => ⟨by rw [h]; exact .inr (.inl ⟨.inr (.inl rfl), rfl⟩), hb⟩)
    cases b with
    | false =>
      have HR2 := hid (show rdInt s.data.toList = (14, 0, [], 0) from HR.out)
      go_wp2_with fail
      refine Calls.mono HIs.out ?_
      rintro e w3 ⟨rfl, hw⟩
      replace hw := hw.symm
      subst hw
      go_wp2_with fail
      go_region
      all_goals
        go_wp2
        exact rd_close (k := 0) (g := w.heap.size) rfl rfl (put3 HX2.out _ _ _) rfl (HE14.out _ ((below3 HB2.out (Nat.le_refl _) _ _ _).drew) HR2.out)
    | true =>
      by_cases hz : ng = true ∧ v = 0
      · obtain ⟨rfl, rfl⟩ := hz
        have HR2 := hid (show rdInt s.data.toList = (14, 0, [], 0) from HR.out)
        go_wp2_with fail
        refine Calls.mono HIs.out ?_
        rintro e w3 ⟨rfl, hw⟩
        replace hw := hw.symm
        subst hw
        go_wp2_with fail
        go_region
        all_goals
          go_wp2
          exact rd_close (k := 0) (g := w.heap.size) rfl rfl (put3 HX2.out _ _ _) rfl (HE14.out _ ((below3 HB2.out (Nat.le_refl _) _ _ _).drew) HR2.out)
      · have HR2 := hid (show rdInt s.data.toList = (0, v, [], 0) by
          rw [HR.out]
          cases ng with
          | false => rfl
          | true =>
            have : (v == 0) = false := beq_eq_false_iff_ne.2 fun e => hz ⟨rfl, e⟩
            rw [this]; rfl)
        have HE0 := hid (show ∀ W : World, Below w.heap.size w W → RdP A 2 (rdInt s.data.toList) w W (.returned (.tuple #[cellV 2 v ⟨#[]⟩, .nilIface])) ∧ Below w.heap.size w W from fun W hb => ⟨by rw [HR2.out]; exact .inl ⟨rfl, ⟨#[]⟩, rfl, rfl⟩, hb⟩)
        have hcase : ng = false ∨ (ng = true ∧ (v == 0) = false) := by
          cases ng with
          | false => exact .inl rfl
          | true => exact .inr ⟨rfl, beq_eq_false_iff_ne.2 fun e => hz ⟨rfl, e⟩⟩
        clear hz
        rcases hcase with rfl | ⟨rfl, hv0⟩
        all_goals
          go_wp2_with fail
          refine Calls.mono HIs.out ?_
          rintro e w3 ⟨rfl, hw⟩
          replace hw := hw.symm
          subst hw
          go_wp2
          exact rd_close (k := 2) (g := w.heap.size) rfl rfl (put3 HX2.out _ _ _) rfl (HE0.out _ (below3 HB2.out (Nat.le_refl _) _ _ _))
  · have HR2 := hid (show rdInt s.data.toList = (14, 0, [], 0) by
      have hi : intR s.data.toList = none := by
        unfold intR
        generalize Lib.atoiAll s.data.toList = q at hv
        cases q with
        | ok v => exact absurd rfl (hv v)
        | _ => rfl
      unfold rdInt; rw [hi])
    have HE14 := hid (show ∀ W : World, Below w.heap.size w W → RdP A 2 (rdInt s.data.toList) w W (.returned (.tuple #[cellV 0 0 ⟨#[]⟩, erV A 14])) ∧ Below w.heap.size w W from fun W hb => ⟨by rw [HR2.out]; exact .inr (.inl ⟨.inr (.inl rfl), rfl⟩), hb⟩)
    have hc14 := HS2.out.cellAt (c := 14) (by decide) (by decide)
    rw [show gV 14 = 16 from rfl] at hc14
    have hlt : 16 < w.heap.size := HG14.out
    have hne1 : ¬ (16 = w.heap.size) := by omega
    have hne2 : ¬ (w.heap.size = 16) := by omega
    have cx := Lib.cell_of_heap HX2.out
    have x0 := cx 0
    have x1 := cx 1
    have x2 := cx 2
    have fx := Lib.frozen_of_heap HX2.out
    have f0 := fx 0
    have f1 := fx 1
    have f2 := fx 2
    clear cx fx hv
    go_wp2_with fail
    go_region
    all_goals
      go_wp2
      exact rd_close (k := 0) (g := w.heap.size) rfl rfl (put3 HX2.out _ _ _) rfl (HE14.out _ ((below3 HB2.out (Nat.le_refl _) _ _ _).drew))
end Go.Proofs.YtmgfdnccmeahjaaGreatDoor
