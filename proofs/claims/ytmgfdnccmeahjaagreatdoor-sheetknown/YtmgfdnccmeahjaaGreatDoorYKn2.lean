/-
  Kn2: SheetKnown: what its sheets are read, printed and typed as (pure).
-/
import Derived.Test.YtmgfdnccmeahjaaGreatDoorYKn1
namespace Go.Proofs.YtmgfdnccmeahjaaGreatDoor
open Go.RowKit
set_option maxRecDepth 100000
set_option linter.unusedVariables false
set_option linter.unusedSimpArgs false
variable {rf : ByteArray → Nat → Rd}

def kR0 : List (List (List UInt8)) := [[[97], [98]], [[49], [120, 32, 34, 121, 34]]]
def kR1 : List (List (List UInt8)) := [[[97], [98, 44, 99]], [[], [100]]]
def kR2 : List (List (List UInt8)) := [[[99, 111, 100, 101], [110, 111, 116, 101], [113, 116, 121]], [[49, 50, 51, 52, 53, 54, 55, 48], [120], [55]], [[], [], [45, 51]]]
def kR3 : List (List (List UInt8)) := [[[99, 111, 100, 101], [113, 116, 121]], [[49, 50, 51, 52, 53, 54, 55, 49], [49]]]
def kC0 : Col := ⟨⟨#[113, 116, 121]⟩, 2, true⟩
def kC1 : Col := ⟨⟨#[99, 111, 100, 101]⟩, 5, false⟩
def kL : List Col := [kC0, kC1]
theorem kn_rd0 : rdA [97, 44, 98, 13, 10, 49, 44, 34, 120, 32, 34, 34, 121, 34, 34, 34, 13, 10] = (kR0, 2, 0, 0) := by decide +kernel
theorem kn_rd1 : rdA [97, 10, 98] = ([], 0, 3, 1) ∧ plc [97, 10, 98] 1 = (1, 1) := by decide +kernel
theorem kn_rd2 : rdA [34, 97, 34, 98] = ([], 0, 2, 3) ∧ plc [34, 97, 34, 98] 3 = (1, 3) := by decide +kernel
theorem kn_rd3 : (rdA [97, 44, 98, 13, 10, 99, 13, 10]).2.2 = (8, 6) ∧ plc [97, 44, 98, 13, 10, 99, 13, 10] 6 = (2, 1) := by decide +kernel
theorem kn_pr1 : (rck 2 kR1 0) = (0, 0, 0) ∧ prt kR1 = [97, 44, 34, 98, 44, 99, 34, 13, 10, 44, 100, 13, 10] := by decide +kernel
theorem kn_w2 : (rck 3 kR2 0) = (0, 0, 0) ∧ (prt kR2).length ≤ 262144 := by decide +kernel
theorem kn_w3 : (rck 2 kR3 0) = (0, 0, 0) ∧ (prt kR3).length ≤ 262144 := by decide +kernel
theorem kn_col : colP kL none := by
  refine .inl ⟨rfl, by simp [kL], fun i hi => ?_⟩
  have hi2 : i < 2 := hi
  match i, hi2 with
  | 0, _ => exact ⟨by decide, by decide, by decide, by simp [kL]⟩
  | 1, _ => exact ⟨by decide, by decide, by decide, fun h => by
    have e : kC1.nm = kC0.nm := by simpa [kL] using h
    exact absurd e (by decide)⟩
theorem one_dec {H : List ByteArray} {x : ByteArray} {p : Nat} (hp : p < H.length) (he : H[p] = x) (hn : ∀ j : Fin H.length, j.1 ≠ p → H[j.1] ≠ x) : OneP H x p := ⟨hp, he, fun j hj hne => hn ⟨j, hj⟩ hne⟩
theorem o20 : OneP (btx (kR2.headD [])) kC0.nm 2 := one_dec (by decide) (by decide) (by decide)
theorem o21 : OneP (btx (kR2.headD [])) kC1.nm 0 := one_dec (by decide) (by decide) (by decide)
theorem o30 : OneP (btx (kR3.headD [])) kC0.nm 1 := one_dec (by decide) (by decide) (by decide)
theorem o31 : OneP (btx (kR3.headD [])) kC1.nm 0 := one_dec (by decide) (by decide) (by decide)
theorem kn_hd2 : HdP (btx (kR2.headD [])) kL [2, 0] 0 0 := by
  refine .inl ⟨rfl, rfl, fun i hi hi' => ?_⟩
  have hi2 : i < 2 := hi
  match i, hi2 with
  | 0, _ => exact o20
  | 1, _ => exact o21
theorem kn_hd3 : HdP (btx (kR3.headD [])) kL [1, 0] 0 0 := by
  refine .inl ⟨rfl, rfl, fun i hi hi' => ?_⟩
  have hi2 : i < 2 := hi
  match i, hi2 with
  | 0, _ => exact o30
  | 1, _ => exact o31
theorem kn_of {R : List (List (List UInt8))} {ps : List Nat} {o : TyA} (hw : (wgA R).1 = 0) (hh : HdP (btx (R.headD [])) kL ps 0 0) (h : TyO rf R kL none o) : o = tyB rf R ps kL := by
  rcases h with ⟨i, hr, _⟩ | ⟨_, h0, _⟩ | ⟨_, _, ps', c, q, hd, ho⟩
  · cases hr
  · exact absurd hw h0
  · obtain ⟨rfl, _, hps⟩ := hh.uniq hd
    rcases ho with ⟨h1, _⟩ | ⟨_, h2⟩
    · exact absurd rfl h1
    · rw [hps rfl]; exact h2
theorem wg_of {R : List (List (List UInt8))} (h1 : (rck (R.headD []).length R 0).1 = 0) (h2 : (prt R).length ≤ 262144) : (wgA R).1 = 0 := by
  unfold wgA
  rw [if_pos h1, if_neg (by omega)]
theorem kn_10 (hrf : RfOk rf) : rwR rf (rowT kR2 0) [2, 0] kL 0 = (2, (0, 7, [], 0)) := by
  show cR rf ⟨#[55]⟩ kC0 = _
  rw [cR_ne hrf ⟨#[55]⟩ kC0 2 (by decide) rfl (by omega) (by omega) (by decide)]
  decide +kernel
theorem kn_11 (hrf : RfOk rf) : rwR rf (rowT kR2 0) [2, 0] kL 1 = (5, (0, 0, [48, 48, 48, 48, 48, 48, 49, 50, 51, 52, 53, 54, 55, 48], 0)) := by
  show cR rf ⟨#[49, 50, 51, 52, 53, 54, 55, 48]⟩ kC1 = _
  rw [cR_ne hrf ⟨#[49, 50, 51, 52, 53, 54, 55, 48]⟩ kC1 5 (by decide) rfl (by omega) (by omega) (by decide)]
  decide +kernel
theorem kn_20 (hrf : RfOk rf) : rwR rf (rowT kR2 1) [2, 0] kL 0 = (2, (0, -3, [], 0)) := by
  show cR rf ⟨#[45, 51]⟩ kC0 = _
  rw [cR_ne hrf ⟨#[45, 51]⟩ kC0 2 (by decide) rfl (by omega) (by omega) (by decide)]
  decide +kernel
theorem kn_21 (hrf : RfOk rf) : rwR rf (rowT kR2 1) [2, 0] kL 1 = (0, (0, 0, [], 0)) := by
  show cR rf ⟨#[]⟩ kC1 = _
  unfold cR
  rw [if_pos rfl]
  rfl
theorem kn_30 (hrf : RfOk rf) : rwR rf (rowT kR3 0) [1, 0] kL 0 = (2, (0, 1, [], 0)) := by
  show cR rf ⟨#[49]⟩ kC0 = _
  rw [cR_ne hrf ⟨#[49]⟩ kC0 2 (by decide) rfl (by omega) (by omega) (by decide)]
  decide +kernel
theorem kn_31 (hrf : RfOk rf) : rwR rf (rowT kR3 0) [1, 0] kL 1 = (5, (17, 0, [], 22)) := by
  show cR rf ⟨#[49, 50, 51, 52, 53, 54, 55, 49]⟩ kC1 = _
  rw [cR_ne hrf ⟨#[49, 50, 51, 52, 53, 54, 55, 49]⟩ kC1 5 (by decide) rfl (by omega) (by omega) (by decide)]
  decide +kernel
def kX : List (List Cl) := [[⟨2, ⟨#[]⟩, 7⟩, ⟨5, ⟨#[48, 48, 48, 48, 48, 48, 49, 50, 51, 52, 53, 54, 55, 48]⟩, 0⟩], [⟨2, ⟨#[]⟩, -3⟩, ⟨0, ⟨#[]⟩, 0⟩]]
theorem kn_ty2 (hrf : RfOk rf) {o : TyA} (h : TyO rf kR2 kL none o) : o.1 = (0, 0, 0, 0) ∧ o.2.map (List.map clO) = kX := by
  have e := kn_of (wg_of (by show (rck 3 kR2 0).1 = 0; rw [kn_w2.1]) kn_w2.2) kn_hd2 h
  have f0 : fcol rf (rowT kR2 0) [2, 0] kL = none := fcol_non fun j hj => by
    have hj2 : j < 2 := hj
    match j, hj2 with
    | 0, _ => rw [kn_10 hrf]
    | 1, _ => rw [kn_11 hrf]
  have f1 : fcol rf (rowT kR2 1) [2, 0] kL = none := fcol_non fun j hj => by
    have hj2 : j < 2 := hj
    match j, hj2 with
    | 0, _ => rw [kn_20 hrf]
    | 1, _ => rw [kn_21 hrf]
  have hn : tyB rf kR2 [2, 0] kL = ((0, 0, 0, 0), (List.range (kR2.length - 1)).map fun i => rowX rf (rowT kR2 i) [2, 0] kL) := tyB_non fun m hm => by
    have hm2 : m < 2 := hm
    match m, hm2 with
    | 0, _ => exact f0
    | 1, _ => exact f1
  rw [hn] at e
  subst e
  refine ⟨rfl, ?_⟩
  show [[clO (rwR rf (rowT kR2 0) [2, 0] kL 0), clO (rwR rf (rowT kR2 0) [2, 0] kL 1)], [clO (rwR rf (rowT kR2 1) [2, 0] kL 0), clO (rwR rf (rowT kR2 1) [2, 0] kL 1)]] = kX
  rw [kn_10 hrf, kn_11 hrf, kn_20 hrf, kn_21 hrf]
  rfl
theorem kn_ty3 (hrf : RfOk rf) {o : TyA} (h : TyO rf kR3 kL none o) : o.1 = (17, 2, 0, 22) := by
  have e := kn_of (wg_of (by show (rck 2 kR3 0).1 = 0; rw [kn_w3.1]) kn_w3.2) kn_hd3 h
  have f0 : fcol rf (rowT kR3 0) [1, 0] kL = some 1 := fcol_hit (by decide) (fun j hj => by
    have hj2 : j = 0 := by omega
    subst hj2
    rw [kn_30 hrf]) (by rw [kn_31 hrf]; decide)
  rw [tyB_hit (i := 0) (by decide) (fun m hm => absurd hm (Nat.not_lt_zero _)) f0] at e
  subst e
  unfold tyF
  rw [kn_31 hrf]
  rfl
end Go.Proofs.YtmgfdnccmeahjaaGreatDoor
