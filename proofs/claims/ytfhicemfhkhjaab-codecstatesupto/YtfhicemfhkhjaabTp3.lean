/-
  Tp2: codec, pure: lists, lines, levels, requests, records, replies there and back.
  Tp3: codec, pure: requests, replies, records there and back: whole things.
-/
import Derived.Test.YtfhicemfhkhjaabTp1
import Derived.Test.YtfhicemfhkhjaabRc4
import Derived.Test.YtfhicemfhkhjaabRp4
import Derived.Test.YtfhicemfhkhjaabDx4
namespace Go.Proofs.Ytfhicemfhkhjaab
set_option maxRecDepth 100000

theorem Fd.ext {α : Type} {f f' : List UInt8 → Nat → Nat × Nat × α} {B : α → List UInt8} {ok : α → Prop} (h : Fd f B ok) (he : ∀ l i, (f' l i).1 = (f l i).1 ∧ (f' l i).2.1 = (f l i).2.1 ∧ ((f l i).1 = 0 → (f' l i).2.2 = (f l i).2.2)) : Fd f' B ok where
  back l i x t o hd := by
    have e := h.back l i x t o hd
    obtain ⟨e1, e2, e3⟩ := he l i
    have e0 : (f l i).1 = 0 := by rw [e]
    exact Prod.ext (e1.trans e0) (Prod.ext (by rw [e2, e]) (by rw [e3 e0, e]))
  form l i hi h0 := by
    obtain ⟨e1, e2, e3⟩ := he l i
    have h1 : (f l i).1 = 0 := by rw [← e1]; exact h0
    rw [e2, e3 h1]
    exact h.form l i hi h1
  cut l i x t o hi ht hb := by
    obtain ⟨e1, e2, _⟩ := he l i
    rw [e1, e2]
    exact h.cut l i x t o hi ht hb
/-- the first j of a list -/
def gS {α : Type} (e : List UInt8 → Nat → Nat × Nat × α) (l : List UInt8) (i : Nat) : Nat → Nat × Nat × List α
  | 0 => (0, i, [])
  | j + 1 =>
    if (gS e l i j).1 ≠ 0 then ((gS e l i j).1, (gS e l i j).2.1, [])
    else if (e l (gS e l i j).2.1).1 ≠ 0 then ((e l (gS e l i j).2.1).1, (e l (gS e l i j).2.1).2.1, [])
    else (0, (e l (gS e l i j).2.1).2.1, (gS e l i j).2.2 ++ [(e l (gS e l i j).2.1).2.2])
/-- a list -/
def gL {α : Type} (e : List UInt8 → Nat → Nat × Nat × α) (most : Nat) (l : List UInt8) (i : Nat) : Nat × Nat × List α :=
  if (ct (l.drop i) most).2.2 ≠ 0 then ((ct (l.drop i) most).2.2, i + (ct (l.drop i) most).2.1, []) else gS e l (i + (ct (l.drop i) most).2.1) (ct (l.drop i) most).1
theorem flat_succ {α : Type} (b : α → List UInt8) (L : List α) (j : Nat) (h : j < L.length) : (L.take (j + 1)).flatMap b = (L.take j).flatMap b ++ b L[j] := by
  rw [List.take_succ_eq_append_getElem h, List.flatMap_append]
  simp
theorem gS_back {α : Type} {e : List UInt8 → Nat → Nat × Nat × α} {b : α → List UInt8} {ok : α → Prop} (h : Fd e b ok) (l : List UInt8) (i : Nat) (L : List α) (t : List UInt8) (ho : ∀ x ∈ L, ok x) (hl : l.drop i = L.flatMap b ++ t) :
    ∀ j, j ≤ L.length → gS e l i j = (0, i + ((L.take j).flatMap b).length, L.take j)
  | 0, _ => by simp [gS]
  | j + 1, hj => by
    have ih := gS_back h l i L t ho hl j (by omega)
    have hd : l.drop i = (L.take j).flatMap b ++ (b L[j] ++ ((L.drop (j + 1)).flatMap b ++ t)) := by
      rw [hl, ← List.append_assoc, ← List.append_assoc, ← flat_succ b L j hj, ← List.flatMap_append, List.take_append_drop]
    have e1 := h.back l (i + ((L.take j).flatMap b).length) L[j] _ (ho _ (List.getElem_mem hj)) (drop_behind hd)
    show (if (gS e l i j).1 ≠ 0 then _ else _) = _
    rw [ih]
    show (if (0 : Nat) ≠ 0 then _ else if (e l (i + ((L.take j).flatMap b).length)).1 ≠ 0 then _ else _) = _
    rw [if_neg (fun e => e rfl), e1]
    show (if (0 : Nat) ≠ 0 then _ else _) = _
    rw [if_neg (fun e => e rfl), flat_succ b L j hj, List.length_append, List.take_succ_eq_append_getElem hj, Nat.add_assoc]
theorem gS_form {α : Type} {e : List UInt8 → Nat → Nat × Nat × α} {b : α → List UInt8} {ok : α → Prop} (h : Fd e b ok) (l : List UInt8) (i : Nat) (hi : i ≤ l.length) :
    ∀ j, (gS e l i j).1 = 0 → (∀ x ∈ (gS e l i j).2.2, ok x) ∧ (gS e l i j).2.2.length = j ∧ (gS e l i j).2.1 = i + ((gS e l i j).2.2.flatMap b).length ∧ l.drop i = (gS e l i j).2.2.flatMap b ++ l.drop (gS e l i j).2.1
  | 0, _ => ⟨fun _ hx => (by cases hx), rfl, rfl, rfl⟩
  | j + 1, h0 => by
    unfold gS at h0 ⊢
    by_cases h1 : (gS e l i j).1 = 0
    case neg => rw [if_pos h1] at h0; exact (h1 h0).elim
    obtain ⟨o1, p1, q1, s1⟩ := gS_form h l i hi j h1
    rw [if_neg (fun e => e h1)] at h0 ⊢
    have hr := drop_room hi s1
    rw [← q1] at hr
    generalize (gS e l i j).2.1 = p at *
    generalize (gS e l i j).2.2 = L at *
    by_cases h2 : (e l p).1 = 0
    case neg => rw [if_pos h2] at h0; exact (h2 h0).elim
    obtain ⟨o2, p2, q2⟩ := h.form l p hr h2
    rw [if_neg (fun e => e h2)]
    generalize e l p = y at *
    refine ⟨fun x hx => ?_, ?_, ?_, ?_⟩
    · rcases List.mem_append.1 hx with hx | hx
      · exact o1 x hx
      · rw [List.mem_singleton.1 hx]; exact o2
    · rw [List.length_append, p1]; rfl
    · show y.2.1 = i + ((L ++ [y.2.2]).flatMap b).length
      rw [List.flatMap_append, List.length_append, p2, q1]
      simp
      omega
    · show l.drop i = (L ++ [y.2.2]).flatMap b ++ l.drop y.2.1
      rw [s1, q2, List.flatMap_append, List.append_assoc]
      simp
theorem gS_cut {α : Type} {e : List UInt8 → Nat → Nat × Nat × α} {b : α → List UInt8} {ok : α → Prop} (h : Fd e b ok) (l : List UInt8) (i : Nat) (hi : i ≤ l.length) (L : List α) (t : List UInt8) (ho : ∀ x ∈ L, ok x) (ht : t ≠ []) (hl : L.flatMap b = l.drop i ++ t) :
    ∀ j, j ≤ L.length → (gS e l i j = (0, i + ((L.take j).flatMap b).length, L.take j) ∧ ∃ y, l.drop i = (L.take j).flatMap b ++ y) ∨ ((gS e l i j).1 = 3 ∧ (gS e l i j).2.1 = l.length)
  | 0, _ => .inl ⟨by simp [gS], l.drop i, by simp⟩
  | j + 1, hj => by
    rcases gS_cut h l i hi L t ho ht hl j (by omega) with ⟨ih, y, hy⟩ | ⟨i1, i2⟩
    · have hr := drop_room hi hy
      have hd : b L[j] ++ (L.drop (j + 1)).flatMap b = y ++ t := by
        have e1 : L.flatMap b = (L.take j).flatMap b ++ (b L[j] ++ (L.drop (j + 1)).flatMap b) := by
          rw [← List.append_assoc, ← flat_succ b L j hj, ← List.flatMap_append, List.take_append_drop]
        rw [e1, hy, List.append_assoc] at hl
        exact List.append_cancel_left hl
      rcases append_cases hd with ⟨z, z1, z2⟩ | ⟨z, z1, z2, _⟩
      · left
        have hy2 : l.drop i = (L.take (j + 1)).flatMap b ++ z := by rw [flat_succ b L j hj, List.append_assoc, ← z1]; exact hy
        refine ⟨?_, z, hy2⟩
        have e1 := h.back l (i + ((L.take j).flatMap b).length) L[j] z (ho _ (List.getElem_mem hj)) (by rw [drop_behind hy]; exact z1)
        show (if (gS e l i j).1 ≠ 0 then _ else _) = _
        rw [ih]
        show (if (0 : Nat) ≠ 0 then _ else if (e l (i + ((L.take j).flatMap b).length)).1 ≠ 0 then _ else _) = _
        rw [if_neg (fun e => e rfl), e1]
        show (if (0 : Nat) ≠ 0 then _ else _) = _
        rw [if_neg (fun e => e rfl), flat_succ b L j hj, List.length_append, List.take_succ_eq_append_getElem hj, Nat.add_assoc]
      · right
        obtain ⟨c1, c2⟩ := h.cut l (i + ((L.take j).flatMap b).length) L[j] z (ho _ (List.getElem_mem hj)) hr z2 (by rw [drop_behind hy]; exact z1)
        have e0 : gS e l i (j + 1) = ((e l (gS e l i j).2.1).1, (e l (gS e l i j).2.1).2.1, []) := (if_neg (by rw [ih]; exact fun e => e rfl)).trans (if_pos (by rw [ih]; show (e l (i + ((L.take j).flatMap b).length)).1 ≠ 0; rw [c1]; decide))
        rw [e0, ih]
        exact ⟨c1, c2⟩
    · right
      have e0 : gS e l i (j + 1) = ((gS e l i j).1, (gS e l i j).2.1, []) := if_pos (by rw [i1]; decide)
      rw [e0]
      exact ⟨i1, i2⟩
theorem Fd.list {α : Type} {e : List UInt8 → Nat → Nat × Nat × α} {b : α → List UInt8} {ok : α → Prop} (h : Fd e b ok) (most : Nat) (hm : most < 18446744073709551616) : Fd (gL e most) (fun L => grp L.length ++ L.flatMap b) (fun L => L.length ≤ most ∧ ∀ x ∈ L, ok x) where
  back l i L t o hd := by
    rw [List.append_assoc] at hd
    have e1 := rd_grp (L.flatMap b ++ t) L.length 0 0 (by omega) (by omega) (fun h => by omega)
    have e2 : ct (l.drop i) most = (L.length, (grp L.length).length, 0) := by
      unfold ct
      rw [hd, e1]
      simp only [Nat.zero_add, Nat.pow_zero, Nat.mul_one]
      rw [if_neg (by omega)]
    have e3 := gS_back h l (i + (grp L.length).length) L t o.2 (drop_behind hd) L.length (Nat.le_refl _)
    unfold gL
    rw [e2, if_neg (fun e => e rfl)]
    show gS e l (i + (grp L.length).length) L.length = _
    rw [e3, List.take_length, List.length_append, Nat.add_assoc]
  form l i hi h0 := by
    unfold gL at h0 ⊢
    by_cases h1 : (ct (l.drop i) most).2.2 = 0
    case neg => rw [if_pos h1] at h0; exact (h1 h0).elim
    rw [if_neg (fun e => e h1)] at h0 ⊢
    have hmo := ct_most h1
    have e0 : ct (l.drop i) most = rd (l.drop i) 0 0 := by
      unfold ct at h1 ⊢
      split
      · rename_i hc; rw [if_pos hc] at h1; cases h1
      · rfl
    rw [e0] at h0 h1 hmo ⊢
    obtain ⟨m, t, e1, e2, _⟩ := rd_form (l.drop i) 0 0 h1
    rw [e2] at h0 hmo ⊢
    simp only [Nat.zero_add, Nat.pow_zero, Nat.mul_one] at h0 hmo ⊢
    have hr := drop_room hi e1
    obtain ⟨o, p, q, s⟩ := gS_form h l _ hr m h0
    rw [drop_behind e1] at s
    generalize gS e l (i + (grp m).length) m = y at *
    refine ⟨⟨by omega, o⟩, by rw [p, q, List.length_append]; omega, ?_⟩
    rw [p, e1, s, List.append_assoc]
  cut l i L t o hi ht hb := by
    unfold gL
    rcases append_cases hb with ⟨y, h1, h2⟩ | ⟨y, h1, h2, _⟩
    · have e1 := rd_grp y L.length 0 0 (by omega) (by have := o.1; omega) (fun h => by omega)
      have e2 : ct (l.drop i) most = (L.length, (grp L.length).length, 0) := by
        unfold ct
        rw [h1, e1]
        simp only [Nat.zero_add, Nat.pow_zero, Nat.mul_one]
        rw [if_neg (by have := o.1; omega)]
      have hr := drop_room hi h1
      rw [e2, if_neg (fun e => e rfl)]
      show (gS e l (i + (grp L.length).length) L.length).1 = 3 ∧ (gS e l (i + (grp L.length).length) L.length).2.1 = l.length
      rcases gS_cut h l (i + (grp L.length).length) hr L t o.2 ht (by rw [drop_behind h1]; exact h2) L.length (Nat.le_refl _) with ⟨_, z, hz⟩ | hc
      · rw [List.take_length, h2, drop_behind h1] at hz
        have := congrArg List.length hz
        have h3 : 0 < t.length := List.length_pos_iff.2 ht
        simp only [List.length_append] at this
        omega
      · exact hc
    · have e1 := rd_cut L.length 0 0 _ y h1 h2 (by omega) (by have := o.1; omega) (fun h => by omega)
      have e2 : ct (l.drop i) most = (0, 0 + (l.drop i).length, 3) := by
        unfold ct
        rw [e1]
        exact if_neg (by omega)
      rw [e2, if_pos (show (3 : Nat) ≠ 0 by decide), List.length_drop]
      exact ⟨rfl, by show i + (0 + (l.length - i)) = l.length; omega⟩
/-- an int of 64 bits -/
def I64 (n : Int) : Prop := -9223372036854775808 ≤ n ∧ n ≤ 9223372036854775807
theorem Fd.line (most : Nat) (hm : most < 18446744073709551616) : Fd (fun l i => andR (fTx l most i) ((⟨#[]⟩, 0) : Ln) fun i1 s => andR (fIn l i1) (⟨#[]⟩, 0) fun i2 n => (0, i2, (s, n))) ln1 (fun x => x.1.size ≤ most ∧ I64 x.2) :=
  (Fd.field (Fd.text most hm) (fun r : Ln => r.1) (K := fun s l i1 => andR (fIn l i1) (⟨#[]⟩, 0) fun i2 n => (0, i2, (s, n))) (okK := fun s r => I64 r.2 ∧ r = (s, r.2))
    (fun s => Fd.field Fd.int (fun r : Ln => r.2) (fun n => Fd.done (s, n)) (fun n r hr => by rw [hr]) _) (fun s r hr => by rw [hr.2]) _).same
    (fun x => by simp [ln1, txB]) (fun x => ⟨fun h => ⟨h.1, h.2, rfl⟩, fun h => ⟨h.1, h.2.1⟩⟩)
theorem Fd.level (most : Nat) (hm : most < 18446744073709551616) : Fd (fun l i => fLv l most i) lv1 (fun x => x.1.size ≤ most ∧ I64 x.2.1 ∧ I64 x.2.2) :=
  (Fd.field (Fd.text most hm) (fun r : Lv => r.1) (K := fun s l i1 => andR (fIn l i1) (⟨#[]⟩, 0, 0) fun i2 n => andR (fIn l i2) (⟨#[]⟩, 0, 0) fun i3 m => (0, i3, (s, n, m))) (okK := fun s r => I64 r.2.1 ∧ I64 r.2.2 ∧ r = (s, r.2.1, r.2.2))
    (fun s => Fd.field Fd.int (fun r : Lv => r.2.1) (K := fun n l i2 => andR (fIn l i2) (⟨#[]⟩, 0, 0) fun i3 m => (0, i3, (s, n, m))) (okK := fun n r => I64 r.2.2 ∧ r = (s, n, r.2.2))
      (fun n => Fd.field Fd.int (fun r : Lv => r.2.2) (fun m => Fd.done (s, n, m)) (fun m r hr => by rw [hr]) _) (fun n r hr => by rw [hr.2]) _) (fun s r hr => by rw [hr.2.2]) _).same
    (fun x => by simp [lv1, txB]) (fun x => ⟨fun h => ⟨h.1, h.2.1, h.2.2, rfl⟩, fun h => ⟨h.1, h.2.1, h.2.2.1⟩⟩)
/-- a line as the model reads it -/
def eLn (most : Nat) (l : List UInt8) (i : Nat) : Nat × Nat × Ln := ((fLn l most i).1, (fLn l most i).2.1, (⟨(fLn l most i).2.2.1.toArray⟩, (fLn l most i).2.2.2))
theorem fLs_gS (l : List UInt8) (most i : Nat) : ∀ j, fLs l most i j = gS (eLn most) l i j
  | 0 => rfl
  | j + 1 => by
    unfold fLs gS
    rw [fLs_gS l most i j]
    rfl
theorem fLi_gL (l : List UInt8) (most i : Nat) : fLi l most i = gL (eLn most) most l i := by
  unfold fLi gL
  rw [fLs_gS]
theorem fVs_gS (l : List UInt8) (most i : Nat) : ∀ j, fVs l most i j = gS (fun l i => fLv l most i) l i j
  | 0 => rfl
  | j + 1 => by
    unfold fVs gS
    rw [fVs_gS l most i j]
theorem fVi_gL (l : List UInt8) (most i : Nat) : fVi l most i = gL (fun l i => fLv l most i) most l i := by
  unfold fVi gL
  rw [fVs_gS]
theorem Fd.eline (most : Nat) (hm : most < 18446744073709551616) : Fd (eLn most) ln1 (fun x => x.1.size ≤ most ∧ I64 x.2) := by
  refine (Fd.line most hm).ext (fun l i => ?_)
  unfold eLn
  by_cases h1 : (tx (l.drop i) most).2.2 = 0
  · rw [fLn_ok h1, andR_ok (show (fTx l most i).1 = 0 from h1)]
    by_cases h2 : (fIn l (fTx l most i).2.1).1 = 0
    · rw [andR_ok h2]
      exact ⟨h2, rfl, fun _ => rfl⟩
    · rw [andR_no h2]
      exact ⟨rfl, rfl, fun e => (h2 e).elim⟩
  · rw [fLn_no h1, andR_no (show (fTx l most i).1 ≠ 0 from h1)]
    exact ⟨rfl, rfl, fun e => (h1 e).elim⟩
theorem Fd.lines (most : Nat) (hm : most < 18446744073709551616) : Fd (fun l i => fLi l most i) (fun L => grp L.length ++ lnB L) (fun L => L.length ≤ most ∧ ∀ x ∈ L, x.1.size ≤ most ∧ I64 x.2) := by
  have h := (Fd.eline most hm).list most hm
  have e : (fun l i => fLi l most i) = gL (eLn most) most := funext fun l => funext fun i => fLi_gL l most i
  rw [e]
  exact h
theorem Fd.levels (most : Nat) (hm : most < 18446744073709551616) : Fd (fun l i => fVi l most i) (fun L => grp L.length ++ lvB L) (fun L => L.length ≤ most ∧ ∀ x ∈ L, x.1.size ≤ most ∧ I64 x.2.1 ∧ I64 x.2.2) := by
  have h := (Fd.level most hm).list most hm
  have e : (fun l i => fVi l most i) = gL (fun l i => fLv l most i) most := funext fun l => funext fun i => fVi_gL l most i
  rw [e]
  exact h
end Go.Proofs.Ytfhicemfhkhjaab

namespace Go.Proofs.Ytfhicemfhkhjaab
set_option maxRecDepth 100000

/-- a request that is read -/
structure RqT (most : Nat) (r : Rq) : Prop where
  id : r.id.size ≤ most
  kind : I64 r.kind
  lines : r.lines.length ≤ most ∧ ∀ x ∈ r.lines, x.1.size ≤ most ∧ I64 x.2
  hold : r.hold.size ≤ most
  ttl : I64 r.ttl
  now : I64 r.now
/-- a reply that is read -/
structure RyT (most : Nat) (r : Ry) : Prop where
  id : r.id.size ≤ most
  err : I64 r.err
  line : I64 r.line
  levels : r.levels.length ≤ most ∧ ∀ x ∈ r.levels, x.1.size ≤ most ∧ I64 x.2.1 ∧ I64 x.2.2
  now : I64 r.now
/-- where a field's value is known by the thing -/
theorem Fd.request (most : Nat) (hm : most < 18446744073709551616) : Fd (fun l i => fRq l most i) rqB (RqT most) := by
  have k6 := fun a k L hd t n => Fd.done (⟨a, k, L, hd, t, n⟩ : Rq)
  have k5 := fun a k L hd t => Fd.field Fd.int (fun r : Rq => r.now) (k6 a k L hd t) (fun n r hr => by rw [hr]) rq0
  have k4 := fun a k L hd => Fd.field Fd.int (fun r : Rq => r.ttl) (okK := fun t r => I64 r.now ∧ r = ⟨a, k, L, hd, t, r.now⟩) (k5 a k L hd) (fun n r hr => by rw [hr.2]) rq0
  have k3 := fun a k L => Fd.field (Fd.text most hm) (fun r : Rq => r.hold) (okK := fun hd r => I64 r.ttl ∧ I64 r.now ∧ r = ⟨a, k, L, hd, r.ttl, r.now⟩) (k4 a k L) (fun n r hr => by rw [hr.2.2]) rq0
  have k2 := fun a k => Fd.field (Fd.lines most hm) (fun r : Rq => r.lines) (okK := fun L r => r.hold.size ≤ most ∧ I64 r.ttl ∧ I64 r.now ∧ r = ⟨a, k, L, r.hold, r.ttl, r.now⟩) (k3 a k) (fun n r hr => by rw [hr.2.2.2]) rq0
  have k1 := fun a => Fd.field Fd.int (fun r : Rq => r.kind) (okK := fun k r => (r.lines.length ≤ most ∧ ∀ x ∈ r.lines, x.1.size ≤ most ∧ I64 x.2) ∧ r.hold.size ≤ most ∧ I64 r.ttl ∧ I64 r.now ∧ r = ⟨a, k, r.lines, r.hold, r.ttl, r.now⟩) (k2 a) (fun n r hr => by rw [hr.2.2.2.2]) rq0
  have k0 := Fd.field (Fd.text most hm) (fun r : Rq => r.id) (okK := fun a r => I64 r.kind ∧ (r.lines.length ≤ most ∧ ∀ x ∈ r.lines, x.1.size ≤ most ∧ I64 x.2) ∧ r.hold.size ≤ most ∧ I64 r.ttl ∧ I64 r.now ∧ r = ⟨a, r.kind, r.lines, r.hold, r.ttl, r.now⟩) k1 (fun n r hr => by rw [hr.2.2.2.2.2]) rq0
  exact k0.same (fun x => by simp [rqB]) (fun x => ⟨fun h => ⟨h.id, h.kind, h.lines, h.hold, h.ttl, h.now, rfl⟩, fun h => ⟨h.1, h.2.1, h.2.2.1, h.2.2.2.1, h.2.2.2.2.1, h.2.2.2.2.2.1⟩⟩)
theorem Fd.reply (most : Nat) (hm : most < 18446744073709551616) : Fd (fun l i => fRp l most i) rpB (RyT most) := by
  have k5 := fun a e n L t => Fd.done (⟨a, e, n, L, t⟩ : Ry)
  have k4 := fun a e n L => Fd.field Fd.int (fun r : Ry => r.now) (k5 a e n L) (fun t r hr => by rw [hr]) rp0
  have k3 := fun a e n => Fd.field (Fd.levels most hm) (fun r : Ry => r.levels) (okK := fun L r => I64 r.now ∧ r = ⟨a, e, n, L, r.now⟩) (k4 a e n) (fun t r hr => by rw [hr.2]) rp0
  have k2 := fun a e => Fd.field Fd.int (fun r : Ry => r.line) (okK := fun n r => (r.levels.length ≤ most ∧ ∀ x ∈ r.levels, x.1.size ≤ most ∧ I64 x.2.1 ∧ I64 x.2.2) ∧ I64 r.now ∧ r = ⟨a, e, n, r.levels, r.now⟩) (k3 a e) (fun t r hr => by rw [hr.2.2]) rp0
  have k1 := fun a => Fd.field Fd.int (fun r : Ry => r.err) (okK := fun e r => I64 r.line ∧ (r.levels.length ≤ most ∧ ∀ x ∈ r.levels, x.1.size ≤ most ∧ I64 x.2.1 ∧ I64 x.2.2) ∧ I64 r.now ∧ r = ⟨a, e, r.line, r.levels, r.now⟩) (k2 a) (fun t r hr => by rw [hr.2.2.2]) rp0
  have k0 := Fd.field (Fd.text most hm) (fun r : Ry => r.id) (okK := fun a r => I64 r.err ∧ I64 r.line ∧ (r.levels.length ≤ most ∧ ∀ x ∈ r.levels, x.1.size ≤ most ∧ I64 x.2.1 ∧ I64 x.2.2) ∧ I64 r.now ∧ r = ⟨a, r.err, r.line, r.levels, r.now⟩) k1 (fun t r hr => by rw [hr.2.2.2.2]) rp0
  exact k0.same (fun x => by simp [rpB]) (fun x => ⟨fun h => ⟨h.id, h.err, h.line, h.levels, h.now, rfl⟩, fun h => ⟨h.1, h.2.1, h.2.2.1, h.2.2.2.1, h.2.2.2.2.1⟩⟩)
theorem Fd.record (most : Nat) (hm : most < 18446744073709551616) : Fd (fun l i => fRc l most i) (fun x => grp (foldI x.1) ++ rqB x.2) (fun x => I64 x.1 ∧ RqT most x.2) := by
  have k2 := fun x q => Fd.done ((x, q) : Int × Rq)
  have k1 := fun x => Fd.field (Fd.request most hm) (fun r : Int × Rq => r.2) (k2 x) (fun q r hr => by rw [hr]) (0, rq0)
  have k0 := Fd.field Fd.int (fun r : Int × Rq => r.1) (okK := fun x r => RqT most r.2 ∧ r = (x, r.2)) k1 (fun x r hr => by rw [hr.2]) (0, rq0)
  exact k0.same (fun x => by simp) (fun x => ⟨fun h => ⟨h.1, h.2, rfl⟩, fun h => ⟨h.1, h.2.1⟩⟩)
/-- a whole thing: the error, its place, the thing -/
def whole {β : Type} (k : UInt8) (f : List UInt8 → Nat → Nat × Nat × β) (d : β) (most : Nat) (l : List UInt8) : Nat × Nat × β :=
  if most < l.length then (1, 0, d) else
  if l.length = 0 then (3, 0, d) else
  if l.getD 0 0 ≠ k then (90, 0, d) else
  if (f l 1).1 ≠ 0 then ((f l 1).1, (f l 1).2.1, d) else if (f l 1).2.1 < l.length then (4, (f l 1).2.1, d) else (0, 0, (f l 1).2.2)
theorem rqs_whole (l : List UInt8) : rqs l = whole 81 (fun l i => fRq l 4096 i) rq0 4096 l := by
  unfold rqs whole fKq
  cases l with
  | nil => rfl
  | cons c t =>
    by_cases h0 : 4096 < (c :: t).length
    · rw [if_pos h0, if_pos h0]
    rw [if_neg h0, if_neg h0, if_neg (show ¬ (c :: t).length = 0 by simp)]
    by_cases h : c = 81
    · subst h; rfl
    · have e : ((c :: t).getD 0 0 ≠ 81) := h
      rw [if_pos e]
      simp only [if_pos h]
      rfl
theorem rps_whole (l : List UInt8) : rps l = whole 82 (fun l i => fRp l 4096 i) rp0 4096 l := by
  unfold rps whole fKp
  cases l with
  | nil => rfl
  | cons c t =>
    by_cases h0 : 4096 < (c :: t).length
    · rw [if_pos h0, if_pos h0]
    rw [if_neg h0, if_neg h0, if_neg (show ¬ (c :: t).length = 0 by simp)]
    by_cases h : c = 82
    · subst h; rfl
    · have e : ((c :: t).getD 0 0 ≠ 82) := h
      rw [if_pos e]
      simp only [if_pos h]
      rfl
theorem rcs_whole (l : List UInt8) : rcs l = whole 83 (fun l i => fRc l 4096 i) (0, rq0) 4096 l := by
  unfold rcs whole fKr
  cases l with
  | nil => rfl
  | cons c t =>
    by_cases h0 : 4096 < (c :: t).length
    · rw [if_pos h0, if_pos h0]
    rw [if_neg h0, if_neg h0, if_neg (show ¬ (c :: t).length = 0 by simp)]
    by_cases h : c = 83
    · subst h; rfl
    · have e : ((c :: t).getD 0 0 ≠ 83) := h
      rw [if_pos e]
      simp only [if_pos h]
      rfl
theorem whole_step {β : Type} {k : UInt8} {f : List UInt8 → Nat → Nat × Nat × β} {d : β} {most : Nat} {l : List UInt8} (h : (k :: l).length ≤ most) :
    whole k f d most (k :: l) = if (f (k :: l) 1).1 ≠ 0 then ((f (k :: l) 1).1, (f (k :: l) 1).2.1, d) else if (f (k :: l) 1).2.1 < (k :: l).length then (4, (f (k :: l) 1).2.1, d) else (0, 0, (f (k :: l) 1).2.2) :=
  (if_neg (by omega)).trans ((if_neg (by simp)).trans (if_neg (fun e => e rfl)))
theorem whole_long {β : Type} {k : UInt8} {f : List UInt8 → Nat → Nat × Nat × β} {d : β} {most : Nat} {l : List UInt8} (h : most < l.length) : whole k f d most l = (1, 0, d) := if_pos h
/-- there and back -/
theorem Fd.whole_back {β : Type} {k : UInt8} {f : List UInt8 → Nat → Nat × Nat × β} {B : β → List UInt8} {ok : β → Prop} (h : Fd f B ok) (d : β) {most : Nat} {x : β} (ho : ok x) (hl : (k :: B x).length ≤ most) : whole k f d most (k :: B x) = (0, 0, x) := by
  have e := h.back (k :: B x) 1 x [] ho (by simp)
  rw [whole_step hl, e]
  show (if (0 : Nat) ≠ 0 then _ else if 1 + (B x).length < (k :: B x).length then _ else _) = _
  rw [if_neg (fun e => e rfl), if_neg (by rw [List.length_cons]; omega)]
/-- something behind it -/
theorem Fd.whole_more {β : Type} {k : UInt8} {f : List UInt8 → Nat → Nat × Nat × β} {B : β → List UInt8} {ok : β → Prop} (h : Fd f B ok) (d : β) {most : Nat} {x : β} {t : List UInt8} (ho : ok x) (ht : t ≠ []) (hl : (k :: B x ++ t).length ≤ most) : whole k f d most (k :: B x ++ t) = (4, (k :: B x).length, d) := by
  have e := h.back (k :: (B x ++ t)) 1 x t ho (by simp)
  have h3 : 0 < t.length := List.length_pos_iff.2 ht
  show whole k f d most (k :: (B x ++ t)) = _
  rw [whole_step (show (k :: (B x ++ t)).length ≤ most from hl), e]
  show (if (0 : Nat) ≠ 0 then _ else if 1 + (B x).length < (k :: (B x ++ t)).length then _ else _) = _
  rw [if_neg (fun e => e rfl), if_pos (by rw [List.length_cons, List.length_append]; omega), List.length_cons, Nat.add_comm]
/-- a beginning of it -/
theorem Fd.whole_cut {β : Type} {k : UInt8} {f : List UInt8 → Nat → Nat × Nat × β} {B : β → List UInt8} {ok : β → Prop} (h : Fd f B ok) (d : β) {most : Nat} {x : β} {p t : List UInt8} (ho : ok x) (ht : t ≠ []) (he : k :: B x = p ++ t) (hl : p.length ≤ most) : whole k f d most p = (3, p.length, d) := by
  cases p with
  | nil => exact (if_neg (by simp)).trans (if_pos rfl)
  | cons c p =>
    injection he with e1 e2
    subst e1
    obtain ⟨c1, c2⟩ := h.cut (k :: p) 1 x t ho (by simp) ht (by simpa using e2)
    rw [whole_step hl, if_pos (by rw [c1]; decide), c1, c2]
/-- what is read is what would be written -/
theorem Fd.whole_form {β : Type} {k : UInt8} {f : List UInt8 → Nat → Nat × Nat × β} {B : β → List UInt8} {ok : β → Prop} (h : Fd f B ok) (d : β) {most : Nat} {l : List UInt8} (h0 : (whole k f d most l).1 = 0) : l = k :: B (whole k f d most l).2.2 ∧ ok (whole k f d most l).2.2 ∧ l.length ≤ most ∧ (whole k f d most l).2.1 = 0 := by
  by_cases h1 : most < l.length
  · rw [whole_long h1] at h0; cases h0
  cases l with
  | nil =>
    have e : whole k f d most [] = (3, 0, d) := (if_neg h1).trans (if_pos rfl)
    rw [e] at h0; cases h0
  | cons c l =>
    by_cases hc : c = k
    case neg =>
      have e : whole k f d most (c :: l) = (90, 0, d) := (if_neg h1).trans ((if_neg (by simp)).trans (if_pos hc))
      rw [e] at h0; cases h0
    subst hc
    have hl : (c :: l).length ≤ most := by omega
    rw [whole_step hl] at h0 ⊢
    by_cases h2 : (f (c :: l) 1).1 = 0
    case neg => rw [if_pos h2] at h0; exact (h2 h0).elim
    rw [if_neg (fun e => e h2)] at h0 ⊢
    by_cases h3 : (f (c :: l) 1).2.1 < (c :: l).length
    · rw [if_pos h3] at h0; cases h0
    rw [if_neg h3]
    obtain ⟨o, p, q⟩ := h.form (c :: l) 1 (by simp) h2
    refine ⟨?_, o, hl, rfl⟩
    have e : (c :: l).drop (f (c :: l) 1).2.1 = [] := List.drop_eq_nil_of_le (by omega)
    rw [e, List.append_nil] at q
    show c :: l = c :: B (f (c :: l) 1).2.2
    rw [← q]
    rfl
end Go.Proofs.Ytfhicemfhkhjaab
