/-
  laid: a disk behind some puts.
-/
import Derived.Test.YtjaopckdhohpbaaDoorDkb
namespace Go.Proofs.YtjaopckdhohpbaaDoor
open Go.RowKit
set_option maxRecDepth 100000

abbrev Pt := Int × UInt8 × Bool
/-- puts that came in -/
def PT (w : World) (v : Value) (P : List Pt) : Prop := ∃ ao c, v = .slice ao P.length c ∧ P.length ≤ c ∧ (ao = none → c = 0) ∧ ∀ i (hi : i < P.length), (-9223372036854775808 ≤ P[i].1 ∧ P[i].1 ≤ 9223372036854775807) ∧ ∃ g off, ao = some ⟨g, off, none⟩ ∧ w.cell? ⟨g, off + i * 3, none⟩ = some (.int .i64 P[i].1) ∧ w.cell? ⟨g, off + i * 3 + 1, none⟩ = some (.int .u8 (P[i].2.1.toNat : Int)) ∧ w.cell? ⟨g, off + i * 3 + 2, none⟩ = some (.bool P[i].2.2)
theorem PT.below {w w' : World} {v : Value} {P : List Pt} (h : PT w v P) (hb : Below w.heap.size w w') : PT w' v P := by
  obtain ⟨ao, c, hv, hc, hz, hr⟩ := h
  refine ⟨ao, c, hv, hc, hz, fun i hi => ?_⟩
  obtain ⟨h0, g, off, ha, h1, h2, h3⟩ := hr i hi
  exact ⟨h0, g, off, ha, below_cells hb _ _ h1, below_cells hb _ _ h2, below_cells hb _ _ h3⟩
/-- which sector -/
def sct (x : Int) : Nat := ((if x < 0 then -(x + 1) else x) % 6).toNat
theorem sct_lt (x : Int) : sct x < 6 := by unfold sct; omega
set_option maxHeartbeats 1000000 in
theorem within_any (x : Int) (w : World) (h0 : -9223372036854775808 ≤ x) (h1 : x ≤ 9223372036854775807) :
    Calls Tryd.prog 13 #[.int .i64 x, .int .i64 0, .int .i64 5] w fun e w' => e = .returned (.int .i64 (sct x : Int)) ∧ w' = w := by
  by_cases hx : x < 0
  · have hm : (-(x + 1)).tmod 6 = (sct x : Int) := by unfold sct; rw [if_pos hx, Int.tmod_eq_emod_of_nonneg (by omega)]; omega
    have hl := sct_lt x
    go_enter Tryd.func13, Tryd.ntmps13
    go_wp2
    go_ret
    exact ⟨rfl, rfl⟩
  · have hm : x.tmod 6 = (sct x : Int) := by unfold sct; rw [if_neg hx, Int.tmod_eq_emod_of_nonneg (by omega)]; omega
    have hl := sct_lt x
    go_enter Tryd.func13, Tryd.ntmps13
    go_wp2
    go_ret
    exact ⟨rfl, rfl⟩
def opP (p : Pt) : Opn := if p.2.2 then flO else ((sct p.1 : Int), one p.2.1)
def putS (S : List UInt8) (p : Pt) : List UInt8 := if p.2.2 then S else splice S (sct p.1 * 128) (one p.2.1)
def seenP (P : List Pt) : List UInt8 := P.foldl putS (zs 768)
theorem one_len (b : UInt8) : (one b).length = 128 := by simp [one]
theorem putS_len {S : List UInt8} (h : S.length = 768) (p : Pt) : (putS S p).length = 768 := by
  unfold putS
  split
  · exact h
  · have := sct_lt p.1
    rw [length_splice _ _ _ (by rw [one_len, h]; omega), h]
theorem seenP_snoc (P : List Pt) (p : Pt) : seenP (P ++ [p]) = putS (seenP P) p := by simp [seenP]
theorem seenP_len (P : List Pt) : (seenP P).length = 768 := by
  have : ∀ (L : List Pt) (S : List UInt8), S.length = 768 → (L.foldl putS S).length = 768 := by
    intro L
    induction L with
    | nil => intro S h; exact h
    | cons p t ih => intro S h; exact ih _ (putS_len h p)
  exact this P (zs 768) (zs_len _)
theorem OkP (P : List Pt) : OkO 768 (P.map opP) := by
  intro o ho
  obtain ⟨p, _, rfl⟩ := List.mem_map.1 ho
  unfold opP
  split
  · exact .inl rfl
  · have := sct_lt p.1
    exact .inr ⟨_, rfl, by omega⟩
theorem pad_nil (n : Nat) : pad [] n = zs n := by simp [pad, splice]
set_option maxHeartbeats 8000000 in
theorem laid_any (v : Value) (P : List Pt) (w : World) (hfl : HasFl w) (hp : PT w v P) (hP : P.length ≤ 65536) (hw0 : 0 < w.heap.size) :
    Calls Tryd.prog 6 #[v] w fun e w' => (∃ d f s cap tail dv, e = .returned (.pointer (some ⟨d, 0, none⟩)) ∧ DK w' w.heap.size d f s cap tail (zs 768) (seenP P) dv (P.map opP)) ∧ Below w.heap.size w w' := by
  obtain ⟨ao, c, rfl, hc, _, hcell⟩ := hp
  have HC := hid hcell
  have HF := hid hfl
  have HN := hid (new_any (.slice none 0 0) [] 6 w (Reads.nil w) (by omega) (by omega) (by simp))
  rw [pad_nil] at HN
  clear hcell hfl
  go_enter Tryd.func6, Tryd.ntmps6
  go_wp2_with fail
  refine HN.out.mono ?_
  rintro e w1 ⟨⟨d, f, s, cap, tail, rfl, hdk⟩, hb1⟩
  have HD := hid hdk
  have B1 := hid hb1
  clear hdk hb1 HN
  go_wp2_with fail
  go_loopw [5] (fun i wx => ∃ k : Nat, k ≤ P.length ∧ i = .int .i64 (k : Int) ∧ (∃ dv, DK wx w.heap.size d f s cap tail (zs 768) (seenP (P.take k)) dv ((P.take k).map opP)) ∧ Below w.heap.size w wx) (fun i _ => P.length - (intOf i).toNat)
  case atStart => exact ⟨0, by omega, rfl, ⟨_, HD.out⟩, B1.out⟩
  case round =>
    obtain ⟨k, hk, rfl, ⟨dv, hdk⟩, hb⟩ := hrel
    have HDk := hid hdk
    have HB := hid hb
    have hws := hb.size
    clear hdk hb
    by_cases hlt : k < P.length
    · have hI : (k : Int) < (P.length : Int) := by omega
      obtain ⟨⟨x0, x1⟩, g, off, hao, p0, p1, p2⟩ := HC.out k hlt
      subst hao
      have HGB := hid (World.block_lt_of_cell? w _ p0)
      have p0 := below_cells HB.out _ _ p0
      have p1 := below_cells HB.out _ _ p1
      have p2 := below_cells HB.out _ _ p2
      have HTk := hid (show P.take (k + 1) = P.take k ++ [P[k]] by rw [List.take_add_one, List.getElem?_eq_getElem hlt]; rfl)
      obtain ⟨y, hy⟩ : ∃ y, P[k] = y := ⟨_, rfl⟩
      rw [hy] at p0 p1 p2 x0 x1 HTk
      obtain ⟨x, b, fl⟩ := y
      simp only at p0 p1 p2 x0 x1
      have HS1 := hid (show seenP (P.take (k + 1)) = putS (seenP (P.take k)) (x, b, fl) by rw [HTk.out, seenP_snoc])
      have HM1 := hid (show (P.take (k + 1)).map opP = (P.take k).map opP ++ [opP (x, b, fl)] by rw [HTk.out]; simp)
      have hml : ((P.take k).map opP).length < 65536 := by rw [List.length_map, List.length_take]; omega
      have HFr := hid (HF.out.below HB.out)
      have hsl := seenP_len (P.take k)
      clear hy
      cases fl with
      | true =>
        have HFl := hid (flush_any w.heap.size d f s cap tail (zs 768) (seenP (P.take k)) dv _ wr HFr.out HDk.out hml hws hw0)
        go_wp2_with fail
        refine HFl.out.mono ?_
        rintro e w3 ⟨rfl, ⟨dv3, h3⟩, b3⟩
        have H3 := hid (show DK w3 w.heap.size d f s cap tail (zs 768) (seenP (P.take (k + 1))) dv3 ((P.take (k + 1)).map opP) by rw [HS1.out, HM1.out]; exact h3)
        have B3 := hid (HB.out.trans b3)
        clear h3 b3 HFl
        go_wp2
        go_roundw
        case rel => exact ⟨k + 1, by omega, by go_num, ⟨_, H3.out⟩, B3.out⟩
        case measure => simp [intOf]; omega
      | false =>
        have hxl := sct_lt x
        have HW := hid (fun w => within_any x w x0 x1)
        have BD := hid ((Below.refl wr.heap.size wr).drew)
        have HP0 := hid p0
        have HP1 := hid p1
        go_wp2_with fail
        go_region_held3 (fun w' => w'.cell? ⟨g, off + k * 3, none⟩ = some (.int .i64 x) ∧ w'.cell? ⟨g, off + k * 3 + 1, none⟩ = some (.int .u8 (b.toNat : Int))) (first | exact ⟨HP0.out, HP1.out⟩ | exact ⟨Q0.out, Q1.out⟩ | exact ⟨QA.out, QB.out⟩) (first
          | (go_at_call 13; refine (HW.out _).mono ?_; rintro e w' ⟨rfl, rfl⟩)
          | (go_at_call 18; refine (full_any b wr.drew).mono ?_; rintro e w4 ⟨⟨g4, rfl, hr4⟩, hb4⟩; have R4 := hid hr4; have B4 := hid (BD.out.trans hb4); have Q0 := hid (below_cells B4.out _ _ HP0.out); have Q1 := hid (below_cells B4.out _ _ HP1.out); clear hr4 hb4)
          | (go_at_call 17; refine (write_any w.heap.size d f s cap (sct x) tail (zs 768) (seenP (P.take k)) (one b) dv _ _ w4 (HFr.out.below B4.out) (HDk.out.below B4.out) hml R4.out (one_len b) (by rw [zs_len]; omega) (by rw [zs_len, hsl]) (Nat.le_trans hws B4.out.size) hw0).mono ?_; rintro e w5 ⟨rfl, ⟨dv5, h5⟩, b5⟩; have H5 := hid h5; have B5 := hid b5; have QA := hid ((b5.cell (p := ⟨g, off + k * 3, none⟩) HGB.out).trans Q0.out); have QB := hid ((b5.cell (p := ⟨g, off + k * 3 + 1, none⟩) HGB.out).trans Q1.out); clear h5 b5))
        all_goals
          have H3 := hid (show DK w5 w.heap.size d f s cap tail (zs 768) (seenP (P.take (k + 1))) dv5 ((P.take (k + 1)).map opP) by rw [HS1.out, HM1.out]; exact H5.out)
          have B3 := hid ((HB.out.trans (B4.out.mono hws)).trans B5.out)
          clear H5 B4 B5 R4
          go_wp2
          go_roundw
          case rel => exact ⟨k + 1, by omega, by go_num, ⟨_, H3.out⟩, B3.out⟩
          case measure => simp [intOf]; omega
    · have hI : ¬ (k : Int) < (P.length : Int) := by omega
      rw [List.take_of_length_le (by omega)] at HDk
      go_wp2
      go_ret
      exact ⟨⟨d, rfl, f, s, cap, tail, dv, HDk.out⟩, HB.out⟩
end Go.Proofs.YtjaopckdhohpbaaDoor
