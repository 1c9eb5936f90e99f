/-
  The statement's own forms: all six texts of a day.
-/
import Derived.Test.YtjpglgemnaknhaaGreatDoorRnd2
namespace Go.Proofs.YtjpglgemnaknhaaGreatDoor
open Go.RowKit
set_option maxRecDepth 100000

theorem own_below {w w' : World} {base : Nat} {e : TypeId} {size : Nat} {v : Value} {n : Nat} {xs : List Value} (h : w.ownsRow base e size v n xs) (hb : Below w.heap.size w w') : w'.ownsRow base e size v n xs := by
  refine ⟨h.1, ?_⟩
  rcases h.2 with hn | ⟨g, cap, cur, rfl, hbs, hgg, rest⟩
  · exact .inl hn
  · exact .inr ⟨g, cap, cur, rfl, hbs, (hb.block g (Array.getElem?_eq_some_iff.1 hgg).1).trans hgg, rest⟩

/-- a day's text in the form k -/
def pdT (k : Nat) (y m d : Int) : ByteArray := ⟨(pdL (k : Int) y m d).toArray⟩
theorem pdT_list (k : Nat) (y m d : Int) : (pdT k y m d).data.toList = pdL (k : Int) y m d := List.toList_toArray
def tL (y m d : Int) (k : Nat) : List Value := (List.range k).map fun j => .string (pdT j y m d)
theorem tL_succ (y m d : Int) (k : Nat) : tL y m d (k + 1) = tL y m d k ++ [.string (pdT k y m d)] := by unfold tL; rw [List.range_succ, List.map_append]; rfl
theorem tL_len (y m d : Int) (k : Nat) : (tL y m d k).length = k := by unfold tL; simp
theorem tL_at (y m d : Int) (k j : Nat) (h : j < k) : (tL y m d k)[j]? = some (.string (pdT j y m d)) := by unfold tL; simp [h]

theorem pr_any (y m d : Int) (hv : VD y m d) (hw : ¬ wkY y (nb y m d) < 0) (k : Nat) (hk : k < 6) (w : World) (hA : HasAh w) (hT : HasPw w) :
    Calls Tryz.prog 12 #[dV y m d, .int .i64 (k : Int)] w fun e w' => e = .returned (.tuple #[.string (pdT k y m d), .int .i64 0]) ∧ Below w.heap.size w w' := by
  have key : ∀ f : Int, f = (k : Int) → (Calls Tryz.prog 12 #[dV y m d, .int .i64 f] w fun e w' => (∃ t : ByteArray, e = .returned (.tuple #[.string t, .int .i64 0]) ∧ t.data.toList = pdL f y m d) ∧ Below w.heap.size w w') →
      Calls Tryz.prog 12 #[dV y m d, .int .i64 (k : Int)] w fun e w' => e = .returned (.tuple #[.string (pdT k y m d), .int .i64 0]) ∧ Below w.heap.size w w' := by
    intro f hf h
    subst hf
    refine h.mono ?_
    rintro e w' ⟨⟨t, rfl, ht⟩, hb⟩
    have : t = pdT k y m d := ba_ext (by rw [ht, pdT_list])
    rw [this]
    exact ⟨rfl, hb⟩
  match k, hk with
  | 0, _ => exact key 0 rfl (printDate_0 y m d hv w hA hT)
  | 1, _ => exact key 1 rfl (printDate_1 y m d hv w hA hT)
  | 2, _ => exact key 2 rfl (printDate_2 y m d hv w hA hT)
  | 3, _ => exact key 3 rfl (printDate_3 y m d hv w hA hT)
  | 4, _ => exact key 4 rfl (printDate_4 y m d hv hw w hA hT)
  | 5, _ => exact key 5 rfl (printDate_5 y m d hv hw w hA hT)

theorem strinfo : (Tryz.prog.info? 9).map (fun i => (i.zero, i.size, i.bytes)) = some (some (.string ⟨#[]⟩), 1, 16) := by kernel_rfl

set_option maxHeartbeats 1000000 in
theorem forms_any (y m d : Int) (hv : VD y m d) (hw : ¬ wkY y (nb y m d) < 0) (w : World) (hA : HasAh w) (hT : HasPw w) :
    Calls Tryz.prog 4 #[dV y m d] w fun e w' => (∃ g cap, e = .returned (.tuple #[.slice (some ⟨g, 0, none⟩) 6 cap, .bool true]) ∧ 6 ≤ cap ∧ g < w'.heap.size ∧ ∀ j, j < 6 → w'.cell? ⟨g, j, none⟩ = some (.string (pdT j y m d))) ∧ Below w.heap.size w w' := by
  obtain ⟨i0, hi, hz0, hz1, hz2⟩ := info_parts strinfo
  have HP := hid (fun k hk w hA hT => pr_any y m d hv hw k hk w hA hT)
  have HA0 := hid hA
  have HT0 := hid hT
  have S0 := hid (show Su w w from ⟨hA, hT, Below.refl _ _⟩)
  clear hv hw hA hT
  unfold dV at *
  go_enter Tryz.func4, Tryz.ntmps4
  go_wp2_with fail
  go_loopw [4, 5] (fun v i wr => ∃ k : Nat, i = .int .i64 (k : Int) ∧ k ≤ 6 ∧ wr.ownsRow (w.heap.size + 1) 9 1 v k (tL y m d k) ∧ Box wr w.heap.size y m d ∧ Su w wr) (fun _ i _ => 6 - (intOf i).toNat)
  case atStart => exact ⟨0, rfl, by omega, World.ownsRow_nil _ _ _ _, Box.new w y m d, S0.out.alloc _⟩
  case round =>
    clear S0
    obtain ⟨k, rfl, hk, hown, hbx, hS⟩ := hrel
    have HO := hid hown
    have HX := hid hbx
    have HS := hid hS
    clear hown hbx hS
    by_cases h1 : k < 6
    · obtain ⟨c0, c1, c2, _⟩ := HX.out.facts
      have HPk := hid (HP.out k h1 wr HS.out.1 HS.out.2.1)
      go_wp2_with fail
      refine HPk.out.mono ?_
      rintro e w1 ⟨rfl, hb1⟩
      have HO1 := hid (own_below HO.out hb1)
      have HX1 := hid (HX.out.later hb1)
      have HS1 := hid (HS.out.call hb1)
      clear hb1 HO HX HS HPk c0 c1 c2
      have hsz : w.heap.size + 1 ≤ w1.heap.size := by have := HX1.out.facts.2.2.2.2.2.2; omega
      go_wp2_with (at_builtin; refine wpList_append_own _ rfl _ _ 24 rfl (w.heap.size + 1) 9 i0 (.string ⟨#[]⟩) 1 16 Tryz.underlying24 hi hz0 hz1 hz2 rfl (by decide) _ _ _ rfl (HO1.out.alloc _) ⟨w1.heap.size, 0, none⟩ 1 1 [.string (pdT k y m d)] rfl rfl ?c1 ?c2 ?c3 ?c4 ?c5 ?_)
      case c1 =>
        intro j u hj
        match j, hj with
        | 0, hj => simp at hj; subst hj; simp [Addr.add]
      case c2 => intro u hu; simp at hu; subst hu; rfl
      case c3 => unfold maxLen; omega
      case c4 => omega
      case c5 => simp; omega
      intro v' w2 hown' hgrow _
      have hbl : ∀ x, x ≤ w.heap.size → w2.heap[x]? = w1.heap[x]? := fun x hx => by
        rw [hgrow.block x (by simp; omega) (fun e => by
          have := World.ownsRow.lt (HO1.out.alloc (.cells #[.string (pdT k y m d)] 9)) x e.symm
          omega)]
        exact Lib.alloc_old w1 _ x (by omega)
      have HB2 : Hid (Below (w.heap.size + 1) w1 w2) := ⟨hgrow.os, hgrow.tape, hgrow.output, by have := hgrow.size; simp at this; omega, fun x hx => hbl x (by omega)⟩
      have HOW := hid hown'
      have HX2 := hid (show Box w2 w.heap.size y m d from (hbl w.heap.size (Nat.le_refl _)).trans HX1.out)
      have HBW := hid (HS1.out.2.2.trans (HB2.out.mono (by omega)))
      have HS2 := hid (show Su w w2 from ⟨HA0.out.below HBW.out, HT0.out.below HBW.out, HBW.out⟩)
      clear hown' hgrow hbl HB2 HO1 HX1 HS1
      go_wp2
      go_roundw
      case rel => exact ⟨k + 1, by go_num, by omega, by rw [tL_succ]; exact HOW.out, HX2.out, HS2.out⟩
      case measure => simp [intOf]; omega
    · have hk6 : k = 6 := by omega
      subst hk6
      obtain ⟨hxl, hdj⟩ := HO.out
      rcases hdj with ⟨_, hno⟩ | ⟨g, cap, cur, rfl, hbs, hgg, hnc, _, hcs, htk⟩
      · omega
      · have HC := hid (show ∀ j, j < 6 → wr.cell? ⟨g, j, none⟩ = some (.string (pdT j y m d)) from fun j hj => by
          rw [Lib.cell_of_heap hgg]
          have h2 := tL_at y m d 6 j hj
          rw [← htk, List.getElem?_take_of_lt (by omega), Array.getElem?_toList] at h2
          exact h2)
        have hgl : g < wr.heap.size := (Array.getElem?_eq_some_iff.1 hgg).1
        clear htk hcs hgg hbs hxl
        go_wp2
        go_ret2
        exact ⟨⟨g, cap, rfl, hnc, hgl, HC.out⟩, HS.out.2.2⟩
end Go.Proofs.YtjpglgemnaknhaaGreatDoor
