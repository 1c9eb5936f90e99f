/-
  A clone of special days, turned about; along: the func that says day by day whether the shop is open.
-/
import Derived.Test.YtipgmiblphfboaaDoorSh2
import Derived.Test.YtipgmiblphfboaaDoorRev
namespace Go.Proofs.YtipgmiblphfboaaDoor
open Go.RowKit Go.Sort
set_option maxRecDepth 100000

section
variable {α : Type} {enc : α → List Value} {k : Nat}
theorem wpList_appN {t st : TypeId} {z : Value} {bytes : Nat} (inf : (Tryd.prog.info? t).map (fun i => (i.zero, i.size, i.bytes)) = some (some z, k, bytes)) (hst : Tryd.prog.underlying st = some (.slice t)) (hzs : z.cells.size = k) (hk0 : 0 < k) (hk : ∀ x, (enc x).length = k) (h1 : ∀ x, ∀ u ∈ enc x, u.oneCell' = true)
    {w : World} {ops : Array Oper} {rest : List Oper} {o : Oper} {a : Act} {Q : Exit → Act → World → Prop} (hgd : o.guard = none) (s x : Operand)
    (ho : o.op = .call { callee := .builtin .append, args := #[s, x], argTypes := #[st, st] })
    (base : Nat) (v : Value) (l : List α) (hs : a.eval s = v) (hown : OL enc k t w base v l) (xv : Value) (m : List α) (hx : a.eval x = xv) (hr : RL enc k w xv m)
    (hlen : (l.length + m.length) * bytes ≤ 140737488355328) (hlen2 : l.length + m.length ≤ maxLen) (hbase : base ≤ w.heap.size)
    (h : ∀ v' w', OL enc k t w' base v' (l ++ m) → w.grownBy w' v.ownBlock → (v ≠ .slice none 0 0 → v' ≠ .slice none 0 0) → wpList Tryd.prog ops Q rest (a.put o.dst v') w') : wpList Tryd.prog ops Q (o :: rest) a w := by
  obtain ⟨i, hi, hz, hsz, hby⟩ := info_parts inf
  obtain ⟨ao, cap, rfl, hl, hn, hcell⟩ := hr
  cases ao with
  | none =>
    obtain rfl := hn rfl
    have : m = [] := List.eq_nil_of_length_eq_zero (by omega)
    subst this
    refine wpList_append_own_none hgd s x st ho base t i k hst hi v l.length (l.flatMap enc) hs hown hx ?_
    exact h v w (by rw [List.append_nil]; exact hown) ⟨rfl, rfl, rfl, Nat.le_refl _, fun _ _ _ => rfl⟩ (fun h => h)
  | some ad =>
    refine wpList_append_own w hgd s x st ho base t i z k bytes hst hi hz hsz hby hzs hk0 v l.length (l.flatMap enc) hs hown ad m.length cap (m.flatMap enc) hx (fm_len hk m) ?_ ?_ hlen2 hlen hbase ?_
    · intro j u hj
      have hj' : j < m.length * k := by
        have := (List.getElem?_eq_some_iff.1 hj).1
        rwa [fm_len hk] at this
      have hd : j / k < m.length := by rw [Nat.div_lt_iff_lt_mul hk0]; exact hj'
      obtain ⟨g, off, ha, hc⟩ := hcell (j / k) hd
      cases ha
      have e : j = j / k * k + j % k := by rw [Nat.mul_comm]; exact (Nat.div_add_mod j k).symm
      rw [e, fm_at hk m (j / k) hd (j % k) (Nat.mod_lt _ hk0)] at hj
      have := hc _ _ hj
      rw [Addr.add_lit, e, ← Nat.add_assoc]
      exact this
    · intro u hu
      obtain ⟨y, _, hy⟩ := List.mem_flatMap.1 hu
      exact h1 y u hy
    · intro v' w' ho' hg hiff
      refine h v' w' ?_ hg (fun hv e => hv (hiff.1 e).1)
      unfold OL
      rw [List.flatMap_append, List.length_append]
      exact ho'
end
theorem rl_oneS (w : World) (x : Int) (b : Bool) : RL eS 2 (w.alloc (.cells #[.int .i64 x, .bool b] 66)) (.slice (some ⟨w.heap.size, 0, none⟩) 1 1) [(x, b)] := by
  refine ⟨_, 1, rfl, Nat.le_refl _, fun e => (by cases e), fun i hi => ⟨w.heap.size, 0, rfl, fun j u hj => ?_⟩⟩
  have : i = 0 := by simpa using hi
  subst this
  match j, hj with
  | 0, hj => simp [eS] at hj; subst hj; simp
  | 1, hj => simp [eS] at hj; subst hj; simp
  | j + 2, hj => simp [eS] at hj
theorem RL.tail1 {α : Type} {enc : α → List Value} {k : Nat} {w : World} {g off c : Nat} {x : α} {t : List α} (h : RL enc k w (.slice (some ⟨g, off, none⟩) (t.length + 1) c) (x :: t)) (hc : c = 1) : RL enc k w (.slice (some ⟨g, off, none⟩) t.length 0) t := by
  have := (RL.tail h).1
  rw [if_pos hc] at this
  subst hc
  exact this
theorem RL.tail2 {α : Type} {enc : α → List Value} {k : Nat} {w : World} {g off c : Nat} {x : α} {t : List α} (h : RL enc k w (.slice (some ⟨g, off, none⟩) (t.length + 1) c) (x :: t)) (hc : ¬ c = 1) : RL enc k w (.slice (some ⟨g, off + k, none⟩) t.length (c - 1)) t := by
  have := (RL.tail h).1
  rw [if_neg hc] at this
  exact this
theorem eqlS_in (w : World) (n : Nat) (ad : Addr) (l c : Nat) : (Op.equalIn (n + 1) 44 (.slice (some ad) l c) (.slice none 0 0)).run Tryd.prog w = .ok false w := by
  simp [Op.equalIn, run_underlying Tryd.underlying44]
theorem eqlS_nil (w : World) (ad : Addr) (l c : Nat) : (binOp .eql 44 (.slice (some ad) l c) (.slice none 0 0)).run Tryd.prog w = .ok (.bool false) w := by
  simp only [binOp]
  simp [Op.equal, Op.maxDepth, eqlS_in w 9999 ad l c]
set_option maxHeartbeats 400000 in
theorem cloneS_any (ad : Addr) (cap : Nat) (L : List (Int × Bool)) (w : World) (hr : RL eS 2 w (.slice (some ad) L.length cap) L) (hl : L.length ≤ 2000) :
    Calls Tryd.prog 28 #[.slice (some ad) L.length cap] w fun e w' => (∃ v', e = .returned v' ∧ OL eS 2 66 w' w.heap.size v' L ∧ ∃ g c, v' = .slice (some ⟨g, 0, none⟩) L.length c) ∧ Below w.heap.size w w' := by
  have hs : ∀ w : World, (binOp .eql 44 (.slice (some ad) L.length cap) (.slice none 0 0)).run Tryd.prog w = .ok (.bool false) w := fun w => eqlS_nil w ad _ _
  have HR := hid hr
  have HO := hid (show OL eS 2 66 (w.alloc (.cells #[] 66)) w.heap.size (.slice (some ⟨w.heap.size, 0, none⟩) 0 0) [] from World.ownsRow_lit w #[] 0 (Nat.le_refl _) (by unfold maxLen; omega) rfl)
  have B1 := hid (alloc_below w (.cells #[] 66))
  clear hr
  go_enter Tryd.func28, Tryd.ntmps28
  go_wp2_with (at_builtin; refine wpList_appN (enc := eS) spcinfo Tryd.underlying44 rfl (by omega) eS_len eS_one rfl _ _ rfl w.heap.size _ [] rfl HO.out _ L rfl (HR.out.alloc _) ?hlen ?hl2 (by simp) ?hnext)
  case hlen => simp; omega
  case hl2 => simp [maxLen]; omega
  case hnext =>
    intro v1 w1 ho1 hg1 hnn
    have H1 := hid ho1
    have H2 := hid (show v1 ≠ .slice none 0 0 by first | exact hnn | exact hnn (by intro h; cases h))
    have B2 := hid (B1.out.grown hg1 (by simp) (fun k hk => (HO.out.block_ge k hk).1))
    clear ho1 hg1 hnn
    go_wp2
    go_ret
    refine ⟨⟨_, rfl, H1.out, ?_⟩, B2.out⟩
    rcases H1.out.2 with ⟨h, _⟩ | ⟨g, cap, _, h, _⟩
    · exact absurd h H2.out
    · exact ⟨g, cap, h⟩
theorem OL.holdsK {w : World} {base g cap : Nat} {L : List (Int × Bool)} (h : OL eS 2 66 w base (.slice (some ⟨g, 0, none⟩) L.length cap) L) : HoldsK eS 2 w g 0 L.toArray := by
  have hc := fun g hg => World.ownsRow.cells h (g := g) hg
  rcases h.2 with ⟨h0, _⟩ | ⟨g', cap', cur, hv, _, hgg, _⟩
  · cases h0
  · cases hv
    intro j hj
    have hj2 : j < L.length * 2 := by simpa using hj
    have hd : j / 2 < L.length := by omega
    refine ⟨?_, Lib.frozen_of_heap hgg _⟩
    have e : j = j / 2 * 2 + j % 2 := by omega
    have hm : j % 2 < 2 := Nat.mod_lt _ (by omega)
    have hm' : j % 2 < (eS L[j / 2]).length := hm
    have := hc g rfl j ((eS L[j / 2])[j % 2]) (by
      have h2 := fm_at eS_len L (j / 2) hd (j % 2) hm
      rw [← e] at h2
      rw [h2, List.getElem?_eq_getElem hm'])
    rw [Addr.add_lit] at this
    rw [this, get_flatK _ _ _ _ (by simpa using hj2)]
    congr 1
    rw [show L.toArray[j / 2]! = L[j / 2] by simp [hd]]
    rw [getElem!_pos (eS L[j / 2]) (j % 2) hm']
    rfl
theorem reverseS_any (L : List (Int × Bool)) (g cap base : Nat) (w : World) (h : OL eS 2 66 w base (.slice (some ⟨g, 0, none⟩) L.length cap) L) (hl : L.length ≤ 2000) :
    Calls Tryd.prog 29 #[.slice (some ⟨g, 0, none⟩) L.length cap] w fun e w' => e = .returned (.tuple #[]) ∧ RL eS 2 w' (.slice (some ⟨g, 0, none⟩) L.length cap) L.reverse ∧ w.grownBy w' (some g) := by
  have hH := h.holdsK
  have hcap : L.length ≤ cap := by
    obtain ⟨ao, c, hv, hc, _⟩ := OL.reads eS_len h
    cases hv
    exact hc
  have hcall := AnyQ.slices_Reverse Tryd.revSp 2 Tryd.isAgg66 Tryd.sizeOf66 eS (fun _ => rfl) (fun x v hv => eS_one x v hv) g 0 cap L.toArray w hH (by simp; omega)
  have hcall2 : Calls Tryd.prog 29 #[.slice (some ⟨g, 0, none⟩) L.length cap] w fun e w' => e = .returned (.tuple #[]) ∧ ∃ n, w' = putRowK eS 2 (Sort.ahead w n) g 0 L.toArray.reverse := by
    rw [List.size_toArray] at hcall
    exact hcall
  refine hcall2.mono ?_
  rintro e w' ⟨rfl, n, rfl⟩
  have hk := holdsK_putRowK eS 2 (Sort.ahead w n) g 0 L.toArray L.toArray.reverse (holdsK_ahead eS 2 w n g 0 _ hH) (by simp)
  refine ⟨rfl, ⟨some ⟨g, 0, none⟩, cap, by rw [List.length_reverse], by rw [List.length_reverse]; exact hcap, fun e => (by cases e), fun i hi => ⟨g, 0, rfl, fun j u hj => ?_⟩⟩, ?_⟩
  · have hi' : i < L.toArray.reverse.size := by simpa using hi
    have := HoldsK.cells hk (fun _ => rfl) hi' j u (by
      rw [show L.toArray.reverse[i]! = L.reverse[i] by
        rw [getElem!_pos L.toArray.reverse i hi']; simp]
      exact hj)
    rw [Addr.add_lit] at this
    exact this
  · refine ⟨rfl, rfl, rfl, by simp [putRowK, Sort.ahead], fun k hk hne => ?_⟩
    have : g ≠ k := fun e => hne (by rw [e])
    simp [putRowK, putRow, mapBlock, Sort.ahead, Array.getElem?_modify, this]
end Go.Proofs.YtipgmiblphfboaaDoor
