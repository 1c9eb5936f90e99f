/-
  plan: Restock.
-/
import Derived.Test.YtgnnopjkbmbjbaaPq2
namespace Go.Proofs.Ytgnnopjkbmbjbaa
open Go.RowKit
set_option maxRecDepth 100000
set_option linter.unusedSimpArgs false

/-- the line of an item, if it is wanted -/
def rs1 (x : It) : List Ln := if 0 < wan x then [(x.code, wan x)] else []
def rsL (L : List It) : List Ln := L.flatMap rs1
theorem rsL_take (L : List It) (k : Nat) (h : k < L.length) : rsL (L.take (k + 1)) = rsL (L.take k) ++ rs1 L[k] := by
  unfold rsL; rw [List.take_succ_eq_append_getElem h, List.flatMap_append, List.flatMap_singleton]
theorem rs1_len (x : It) : (rs1 x).length ≤ 1 := by unfold rs1; split <;> simp
theorem rsL_len (L : List It) : (rsL L).length ≤ L.length := by
  induction L with
  | nil => simp [rsL]
  | cons x t ih => have := rs1_len x; simp [rsL, List.flatMap_cons] at *; omega
/-- what Restock answers: lines, error, place -/
def RsA (L : List It) (M : List Ln) (e n : Int) : Prop :=
  (512 < L.length ∧ M = [] ∧ e = 1 ∧ n = 0) ∨
  (L.length ≤ 512 ∧ ∃ (k : Nat) (h : k < L.length), okTo L k ∧ itOk L[k] (ahd L k) = false ∧ M = [] ∧ e = 171 ∧ n = k) ∨
  (L.length ≤ 512 ∧ okTo L L.length ∧ M = rsL L ∧ e = 0 ∧ n = 0)
theorem RsA.same {L : List It} {M M' : List Ln} {e e' n n' : Int} (h : RsA L M e n) (h' : RsA L M' e' n') : M = M' ∧ e = e' ∧ n = n' := by
  rcases h with ⟨h1, rfl, rfl, rfl⟩ | ⟨h1, k, hk, ho, hn, rfl, rfl, rfl⟩ | ⟨h1, ho, rfl, rfl, rfl⟩ <;> rcases h' with ⟨h1', rfl, rfl, rfl⟩ | ⟨h1', k', hk', ho', hn', rfl, rfl, rfl⟩ | ⟨h1', ho', rfl, rfl, rfl⟩ <;> try omega
  · exact ⟨rfl, rfl, rfl⟩
  · rcases Nat.lt_trichotomy k k' with h | rfl | h
    · rw [ho' k hk h] at hn; cases hn
    · exact ⟨rfl, rfl, rfl⟩
    · rw [ho k' hk' h] at hn'; cases hn'
  · rw [ho' k hk hk] at hn; cases hn
  · rw [ho k' hk' hk'] at hn'; cases hn'
  · exact ⟨rfl, rfl, rfl⟩
theorem lninfo : (Try.prog.info? 31).map (fun i => (i.zero, i.size, i.bytes)) = some (some (.agg #[.string ⟨#[]⟩, .int .i64 0]), 2, 24) := by kernel_rfl
theorem rl_one {α : Type} {enc : α → List Value} {k : Nat} {w : World} {b : Nat} {x : α} {t : TypeId} {cur : Array Value} (h : w.heap[b]? = some (.cells cur t (0, 0))) (hc : cur.toList = enc x) : RL enc k w (.slice (some ⟨b, 0, none⟩) 1 1) [x] := by
  refine ⟨_, 1, rfl, Nat.le_refl _, fun e => (by cases e), fun i hi => ⟨b, 0, rfl, fun j u hj => ?_⟩⟩
  obtain rfl : i = 0 := by simp at hi; omega
  rw [Lib.cell_of_heap h]
  simp only [List.getElem_cons_zero] at hj
  rw [← hc, Array.getElem?_toList] at hj
  simpa using hj
/-- what a Restock hands out -/
def RsE (L : List It) (base : Nat) (e : Ending) (w' : World) : Prop := ∃ (v : Value) (M : List Ln) (er n : Int), e = .returned (.tuple #[v, .int .i64 er, .int .i64 n]) ∧ RsA L M er n ∧ OL lnC 2 31 w' base v M
set_option maxHeartbeats 4000000 in
theorem restock_any (v : Value) (L : List It) (w : World) (h : RL itC 6 w v L) (hl : (L.length : Int) ≤ 9223372036854775807) :
    Calls Try.prog 9 #[v] w fun e w' => RsE L w.heap.size e w' ∧ Below w.heap.size w w' := by
  have H := hid h
  obtain ⟨ao, cp, rfl⟩ := h.len0
  clear h
  by_cases hL : 512 < L.length
  · have hI : (512 : Int) < (L.length : Int) := by omega
    have HA := hid (show RsA L [] 1 0 from .inl ⟨hL, rfl, rfl, rfl⟩)
    clear hL
    go_enter Try.func9, Try.ntmps9
    go_wp2
    go_ret3
    exact ⟨⟨_, [], 1, 0, rfl, HA.out, OL.nil _ _⟩, Below.refl _ _⟩
  · have hI : ¬ (512 : Int) < (L.length : Int) := by omega
    have HW := hid (wrongItem_any _ L w H.out (by omega))
    have HL := hid (show L.length ≤ 512 by omega)
    clear hL
    go_enter Try.func9, Try.ntmps9
    go_wp2_with fail
    refine Calls.mono HW.out ?_
    rintro e w1 ⟨⟨n, b, rfl, hw⟩, hb1⟩
    rcases hw with ⟨rfl, hn, ho, hno⟩ | ⟨rfl, rfl, ho⟩
    · have HA := hid (show RsA L [] 171 n from .inr (.inl ⟨HL.out, n, hn, ho, hno, rfl, rfl, rfl⟩))
      have HB := hid hb1
      clear ho hno hb1
      go_wp2
      go_ret3
      exact ⟨⟨_, [], 171, n, rfl, HA.out, OL.nil _ _⟩, HB.out⟩
    · have HO := hid ho
      clear ho
      go_wp2_with fail
      go_loopw [23, 7] (fun i l wr => ∃ k : Nat, k ≤ L.length ∧ i = .int .i64 (k : Int) ∧ OL lnC 2 31 wr w.heap.size l (rsL (L.take k)) ∧ Below w.heap.size w wr) (fun i _ _ => L.length - (intOf i).toNat)
      case atStart => exact ⟨0, by omega, rfl, by simpa [rsL] using OL.nil _ _, hb1⟩
      case round =>
        obtain ⟨k, hk, rfl, how, hb⟩ := hrel
        by_cases hlt : k < L.length
        · have hIk : (k : Int) < (L.length : Int) := by omega
          obtain ⟨g, off, c, e1, hc, c0, c1, c2, c3, c4, c5⟩ := item_at (H.out.below hb) k hlt
          cases e1
          have HT := hid (rsL_take L k hlt)
          have OK := hid (HO.out k hlt hlt)
          have HWn := hid (fun (wx : World) => wanted_any (L[k]'hlt) (ahd L k) wx OK.out)
          have HLn := hid (rsL_len (L.take k))
          have HLk := hid (show (L.take k).length = k by simp; omega)
          unfold rs1 at HT
          generalize L[k]'hlt = x at *
          have HOW := hid how
          have HB := hid hb
          clear how hb
          by_cases hpos : 0 < wan x
          · rw [if_pos hpos] at HT
            obtain ⟨xc, xa, xb, xp, xu, xk⟩ := x
            unfold itV itC at HWn
            dsimp only at *
            generalize wan ⟨xc, xa, xb, xp, xu, xk⟩ = q at *
            go_wp2_with fail
            have C0 := hid (show (wr.alloc (.cells #[.string xc, .int .i64 xa, .int .i64 xb, .int .i64 xp, .int .i64 xu, .int .i64 xk] 24)).cell? ⟨wr.heap.size, 0, none⟩ = some (.string xc) by rw [Lib.cell_of_heap (heap_alloc_new wr _)]; rfl)
            have HOa := hid (OL.alloc HOW.out (.cells #[.string xc, .int .i64 xa, .int .i64 xb, .int .i64 xp, .int .i64 xu, .int .i64 xk] 24))
            have HBa := hid (bel_step HB.out (alloc_below wr (.cells #[.string xc, .int .i64 xa, .int .i64 xb, .int .i64 xp, .int .i64 xu, .int .i64 xk] 24)))
            refine Calls.mono (HWn.out _) ?_
            rintro e w3 ⟨rfl, s3⟩
            have c0' := below_cells s3 _ _ C0.out
            have HO3 := hid (HOa.out.below s3)
            have HB3 := hid (bel_step HBa.out s3)
            clear s3 HWn C0 HOa HBa
            have HOx := hid (OL.alloc HO3.out (.cells #[.string xc, .int .i64 q] 31))
            have HBx := hid (bel_step HB3.out (alloc_below w3 (.cells #[.string xc, .int .i64 q] 31)))
            have hh := HLn.out
            rw [HLk.out] at hh
            have hl5 := HL.out
            go_wp2_with (at_builtin; refine wpList_appL (enc := lnC) lninfo Try.underlying25 rfl (by omega) lnC_len lnC_one rfl _ _ rfl w.heap.size _ _ rfl HOx.out _ [(xc, q)] rfl (rl_one (heap_alloc_new w3 _) rfl) ?hlen ?hl2 HBx.out.size ?hnext)
            case hlen => simp; omega
            case hl2 => simp [maxLen]; omega
            case hnext =>
              intro v2 w2 ho2 hg2
              have HO2 := hid ho2
              have HB2 := hid (HBx.out.grown hg2 HBx.out.size (fun b hb => (HOx.out.block_ge b hb).1))
              clear ho2 hg2
              go_wp2_with fail
              go_roundw
              case rel => exact ⟨k + 1, by omega, by go_num, by rw [HT.out]; exact HO2.out, HB2.out⟩
              case measure => simp [intOf]; omega
          · rw [if_neg hpos, List.append_nil] at HT
            obtain ⟨xc, xa, xb, xp, xu, xk⟩ := x
            unfold itV itC at HWn
            dsimp only at *
            generalize wan ⟨xc, xa, xb, xp, xu, xk⟩ = q at *
            go_wp2_with fail
            have HOa := hid (OL.alloc HOW.out (.cells #[.string xc, .int .i64 xa, .int .i64 xb, .int .i64 xp, .int .i64 xu, .int .i64 xk] 24))
            have HBa := hid (bel_step HB.out (alloc_below wr (.cells #[.string xc, .int .i64 xa, .int .i64 xb, .int .i64 xp, .int .i64 xu, .int .i64 xk] 24)))
            refine Calls.mono (HWn.out _) ?_
            rintro e w3 ⟨rfl, s3⟩
            have HO3 := hid (HOa.out.below s3)
            have HB3 := hid (bel_step HBa.out s3)
            clear s3 HWn HOa HBa
            go_wp2_with fail
            go_roundw
            case rel => exact ⟨k + 1, by omega, by go_num, by rw [HT.out]; exact HO3.out, HB3.out⟩
            case measure => simp [intOf]; omega
        · obtain rfl : k = L.length := by omega
          rw [List.take_length] at how
          have HA := hid (show RsA L (rsL L) 0 0 from .inr (.inr ⟨HL.out, HO.out, rfl, rfl, rfl⟩))
          have HOW := hid how
          have HB := hid hb
          clear how hb
          go_wp2
          go_ret3
          exact ⟨⟨_, _, 0, 0, rfl, HA.out, HOW.out⟩, HB.out⟩
end Go.Proofs.Ytgnnopjkbmbjbaa
