/-
  risingDays: the numbers of days that rise.
-/
import Derived.Test.YtipgmiblphfboaaDoorSh1
import Derived.Deep.LoopGhost
import Derived.BigQuiet
namespace Go.Proofs.YtipgmiblphfboaaDoor
open Go.RowKit
set_option maxRecDepth 100000

def nbT (x : Int × Int × Int) : Int := nb x.1 x.2.1 x.2.2
abbrev VT (x : Int × Int × Int) : Prop := VD x.1 x.2.1 x.2.2
/-- the first k are days, and rise -/
def RisK (D : List (Int × Int × Int)) (k : Nat) : Prop := ∀ i, i < k → ∀ hi : i < D.length, VT D[i] ∧ (∀ _ : 0 < i, nbT D[i - 1] < nbT D[i])
abbrev Ris (D : List (Int × Int × Int)) : Prop := RisK D D.length
theorem RisK.succ {D : List (Int × Int × Int)} {k : Nat} (h : RisK D k) (hk : k < D.length) (h1 : VT D[k]) (h2 : ∀ _ : 0 < k, nbT D[k - 1] < nbT D[k]) : RisK D (k + 1) := fun i hi hl => by
  by_cases e : i = k
  · subst e; exact ⟨h1, h2⟩
  · exact h i (by omega) hl
theorem take_map_succ (D : List (Int × Int × Int)) (k : Nat) (hk : k < D.length) : (D.take (k + 1)).map nbT = (D.take k).map nbT ++ [nbT D[k]] := by
  rw [List.take_add_one, List.getElem?_eq_getElem hk, List.map_append]
  rfl
theorem rl_oneI (w : World) (x : Int) : RL eI 1 (w.alloc (.cells #[.int .i64 x] 3)) (.slice (some ⟨w.heap.size, 0, none⟩) 1 1) [x] := by
  refine ⟨_, 1, rfl, Nat.le_refl _, fun e => (by cases e), fun i hi => ⟨w.heap.size, 0, rfl, fun j u hj => ?_⟩⟩
  have : i = 0 := by simpa using hi
  subst this
  match j, hj with
  | 0, hj => simp [eI] at hj; subst hj; simp
  | j + 1, hj => simp [eI] at hj

set_option maxHeartbeats 2000000 in
theorem rising_any (D : List (Int × Int × Int)) (v : Value) (w : World) (hr : RL eD 3 w v D) (hA : HasAh w) :
    Calls Tryd.prog 24 #[v] w fun e w' => ((∃ v', e = .returned (.tuple #[v', .bool true]) ∧ D.length ≤ 1000 ∧ Ris D ∧ OL eI 1 3 w' w.heap.size v' (D.map nbT)) ∨
      (e = .returned (.tuple #[.slice none 0 0, .bool false]) ∧ ¬ (D.length ≤ 1000 ∧ Ris D))) ∧ Below w.heap.size w w' := by
  have HR := hid hr
  have HA := hid hA
  have HG : 1 < w.heap.size := hA.lt
  obtain ⟨ao, c, rfl, hc, hn, hcell⟩ := hr
  have HQ := hid hcell
  clear hn hA hcell
  by_cases hbig : 1000 < D.length
  · have hbig' : (1000 : Int) < (D.length : Int) := by omega
    go_enter Tryd.func24, Tryd.ntmps24
    go_wp2
    go_ret2
    exact ⟨.inr ⟨rfl, fun h => by omega⟩, Below.refl _ _⟩
  · have hsmall' : ¬ (1000 : Int) < (D.length : Int) := by omega
    obtain ⟨row, hrs, hmk⟩ := run_mkL (k := 1) intinfo Tryd.underlying22 (by omega) D.length (by omega) w
    have HO := hid (OL.made (enc := eI) (k := 1) (t := 3) (w := w) hrs (by unfold maxLen; omega))
    have B0 := hid (alloc_below w (.cells row 3))
    clear hrs
    go_enter Tryd.func24, Tryd.ntmps24
    go_wp2
    generalize w.alloc (.cells row 3) = w0 at *
    go_loopg [17, 4] D.length (fun m s17 s4 wr => ∃ k : Nat, k ≤ D.length ∧ D.length - k ≤ m ∧ s17 = .int .i64 (k : Int) ∧ Hid (OL eI 1 3 wr w.heap.size s4 ((D.take k).map nbT)) ∧ Hid (Below w.heap.size w wr) ∧ Hid (RisK D k))
    case atStart => exact ⟨0, Nat.zero_le _, Nat.le_refl _, rfl, HO, B0, hid (fun i hi => by omega)⟩
    case round =>
      obtain ⟨k, hk, hm, rfl, HOk, HB, HK⟩ := hrel
      clear hmk HO B0
      by_cases hlt : k < D.length
      · have hlt' : (k : Int) < (D.length : Int) := by omega
        obtain ⟨g, off, ha, hq⟩ := HQ.out k hlt
        subst ha
        have hR := HR.out.below HB.out
        have q0 : w.cell? ⟨g, off + k * 3, none⟩ = some (.int .i64 D[k].1) := hq 0 _ rfl
        have q1 : w.cell? ⟨g, off + k * 3 + 1, none⟩ = some (.int .i64 D[k].2.1) := hq 1 _ rfl
        have q2 : w.cell? ⟨g, off + k * 3 + 2, none⟩ = some (.int .i64 D[k].2.2) := hq 2 _ rfl
        have r0 := below_cells HB.out _ _ q0
        have r1 := below_cells HB.out _ _ q1
        have r2 := below_cells HB.out _ _ q2
        have HD := hid (fun w hA => days_any D[k].1 D[k].2.1 D[k].2.2 w hA)
        have hV : VD D[k].1 D[k].2.1 D[k].2.2 ↔ VT D[k] := Iff.rfl
        have hN : nb D[k].1 D[k].2.1 D[k].2.2 = nbT D[k] := rfl
        have HNx := hid (fun h1 h2 => HK.out.succ hlt h1 h2)
        have HNo := hid (fun (hn : ¬ (VT D[k] ∧ (∀ _ : 0 < k, nbT D[k - 1] < nbT D[k]))) (h : Ris D) => hn (h k hlt hlt))
        have HTk := hid (take_map_succ D k hlt)
        have hrg := nb_range D[k].1 D[k].2.1 D[k].2.2
        have hbx := Box.new wr D[k].1 D[k].2.1 D[k].2.2
        obtain ⟨d0, d1, d2, f0, f1, f2, _⟩ := hbx.facts
        clear q0 q1 q2 hq hbx
        generalize VT D[k] = Vk at *
        generalize nbT D[k] = nk at *
        generalize D[k].1 = y at *
        generalize D[k].2.1 = mo at *
        generalize D[k].2.2 = d at *
        unfold dV at *
        have HOl := hid (HOk.out.alloc (.cells #[.int .i64 y, .int .i64 mo, .int .i64 d] 33))
        have HBl := hid (HB.out.alloc HB.out.size (.cells #[.int .i64 y, .int .i64 mo, .int .i64 d] 33))
        go_wp2_with fail
        refine (HD.out _ (HA.out.below HBl.out)).mono ?_
        rintro e w1 ⟨rfl, hb1⟩
        have HO1 := hid (HOl.out.below hb1)
        have HB1 := hid (HBl.out.trans (hb1.mono HBl.out.size))
        clear hb1 HOl HBl HD d0 d1 d2 f0 f1 f2 r0 r1 r2
        by_cases hv : VD y mo d
        · have hVk := hV.1 hv
          have hrg2 := hrg hv
          rw [if_pos hv, if_pos hv, hN]
          rw [hN] at hrg2
          clear hv hV hrg hN
          rcases k with _ | k
          · have HOx := hid (OL.alloc HO1.out (.cells #[.int .i64 nk] 3))
            have HBx := hid (HB1.out.alloc HB1.out.size (.cells #[.int .i64 nk] 3))
            go_wp2_with (at_builtin; refine wpList_appL (enc := eI) intinfo Tryd.underlying22 rfl (by omega) eI_len eI_one rfl _ _ rfl w.heap.size _ _ rfl HOx.out _ [nk] rfl (rl_oneI _ _) ?hlen ?hl2 HBx.out.size ?hnext)
            case hlen => first | (simp; done) | (simp; omega)
            case hl2 => first | (simp [maxLen]; done) | (simp [maxLen]; omega)
            case hnext =>
              intro v2 w2 ho2 hg2
              have HO2 := hid ho2
              have HB2 := hid (HBx.out.grown hg2 HBx.out.size (fun b hb => (HOx.out.block_ge b hb).1))
              clear ho2 hg2
              go_wp2
              go_roundg (gk - 1)
              case measure => omega
              case rel => exact ⟨0 + 1, by omega, by omega, by first | rfl | (congr 1; omega) | go_num, hid (by rw [HTk.out]; first | exact HO2.out | (rw [List.map_take]; exact HO2.out)), HB2, hid (HNx.out hVk (fun h => by omega))⟩
          · have hOR := OL.reads eI_len HO1.out
            obtain ⟨g4, o4, c4, hv4, _, hq4⟩ := hOR.form (by simp; omega)
            have hp : w1.cell? ⟨g4, o4 + k, none⟩ = some (.int .i64 (nbT D[k + 1 - 1])) := by
              have := hq4 k (by simp; omega) 0 (.int .i64 (nbT D[k + 1 - 1])) (by simp [eI])
              rw [show o4 + k = o4 + k * 1 + 0 by omega]
              exact this
            have hl4 : ((D.take (k + 1)).map nbT).length = k + 1 := by simp; omega
            rw [hl4] at hv4
            subst hv4
            have hkk : ((k + 1 : Nat) : Int) = (k : Int) + 1 := by omega
            generalize hpk : nbT D[k + 1 - 1] = pk at *
            have hpr : 0 ≤ pk ∧ pk ≤ 3652424 := by
              rw [← hpk]
              exact nb_range _ _ _ (HK.out k (by omega) (by omega)).1
            have HOx := hid (OL.alloc HO1.out (.cells #[.int .i64 nk] 3))
            have HBx := hid (HB1.out.alloc HB1.out.size (.cells #[.int .i64 nk] 3))
            rw [hkk] at hlt' ⊢
            clear hq4 hOR
            by_cases hle : pk < nk
            · have hle2 : ¬ nk ≤ pk := by omega
              go_wp2_with (at_builtin; refine wpList_appL (enc := eI) intinfo Tryd.underlying22 rfl (by omega) eI_len eI_one rfl _ _ rfl w.heap.size _ _ rfl HOx.out _ [nk] rfl (rl_oneI _ _) ?hlen ?hl2 HBx.out.size ?hnext)
              case hlen => first | (simp; done) | (simp; omega)
              case hl2 => first | (simp [maxLen]; done) | (simp [maxLen]; omega)
              case hnext =>
                intro v2 w2 ho2 hg2
                have HO2 := hid ho2
                have HB2 := hid (HBx.out.grown hg2 HBx.out.size (fun b hb => (HOx.out.block_ge b hb).1))
                clear ho2 hg2
                go_wp2
                go_roundg (gk - 1)
                case measure => omega
                case rel => exact ⟨k + 1 + 1, by omega, by omega, by first | rfl | (congr 1; omega) | go_num, hid (by rw [HTk.out]; first | exact HO2.out | (rw [List.map_take]; exact HO2.out)), HB2, hid (HNx.out hVk (fun _ => by rw [hpk]; exact hle))⟩
            · have hle2 : nk ≤ pk := by omega
              go_wp2
              go_ret2
              exact ⟨.inr ⟨rfl, fun h => HNo.out (fun h2 => by have := h2.2 (by omega); rw [hpk] at this; omega) h.2⟩, HB1.out⟩
        · have hVk : ¬ Vk := fun h => hv (hV.2 h)
          rw [if_neg hv, if_neg hv]
          clear hv hV hrg hN
          go_wp2
          go_ret2
          exact ⟨.inr ⟨rfl, fun h => HNo.out (fun h2 => hVk h2.1) h.2⟩, HB1.out⟩
      · have hlt' : ¬ (k : Int) < (D.length : Int) := by omega
        have hkl : k = D.length := by omega
        subst hkl
        rw [List.take_length] at HOk
        go_wp2
        go_ret2
        exact ⟨.inl ⟨_, rfl, by omega, HK.out, HOk.out⟩, HB.out⟩
end Go.Proofs.YtipgmiblphfboaaDoor
