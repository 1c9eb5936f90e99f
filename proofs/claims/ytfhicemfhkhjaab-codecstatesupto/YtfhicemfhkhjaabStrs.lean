/-
  Texts: 'append(b, s...)' onto bytes of the call's own; '[]byte(s)'.
-/
import Derived.Test.YtfhicemfhkhjaabNums
import Derived.Deep.AppendSrc
namespace Go.Proofs.Ytfhicemfhkhjaab
open Go.RowKit

theorem byteCells_bc (s : ByteArray) : byteCells s = bc s.data.toList := rfl

theorem run_app_str {P : Program} {w : World} (base : Nat) (t tx ty : TypeId) (i : TypeInfo) (ht : P.underlying t = some (.slice 5)) (htx : P.underlying tx = some .string) (hi : P.info? 5 = some i)
    (hz : i.zero = some (.int .u8 0)) (hsize : i.size = 1) (hby : i.bytes = 1) (v : Value) (l : List UInt8) (s : ByteArray) (hown : Owns w base v l) (hpos : 0 < l.length) (hlen : l.length + s.size ≤ 140737488355328) (hbase : base ≤ w.heap.size) :
    ∃ v' w', (Builtin.append_ #[t, tx] ty #[v, .string s]).run P w = .ok v' w' ∧ Owns w' base v' (l ++ s.data.toList) ∧ w.grownBy w' v.ownBlock := by
  have hsrc : Src P i.size tx (.string s) s.size (byteCells s) w := by rw [hsize]; exact Src.ofString w htx s
  have hcl : (byteCells s).length = s.size := byteCells_length s
  have hll : (l ++ s.data.toList).length = l.length + s.size := by rw [List.length_append, Array.length_toList]; rfl
  have hbl : bc (l ++ s.data.toList) = bc l ++ byteCells s := bc_append _ _
  have grow : ∀ (ao : Option Addr) (cap : Nat), v = .slice ao l.length cap → cap < l.length + s.size →
      (Builtin.firstCells i.size l.length (.slice ao l.length cap)).run P w.drew = .ok (bc l).toArray w.drew →
      ∃ v' w', (Builtin.append_ #[t, tx] ty #[v, .string s]).run P w = .ok v' w' ∧ Owns w' base v' (l ++ s.data.toList) ∧ w.grownBy w' v.ownBlock := by
    intro ao cap hv hcap hold
    have hm : l.length + s.size ≤ maxLen := by unfold maxLen; omega
    have hr := run_append_grow_src (P := P) w t tx ty 5 i (.int .u8 0) ht hi hz ao l.length cap (bc l) hold (.string s) s.size (byteCells s) hsrc hcap (by omega) (growslice_fits hcap (by rw [hby]; omega))
    have hge := grownCap_ge w (l.length + s.size) cap 5
    have hcm := grownCap_le_maxLen w (l.length + s.size) cap 5 hm
    rw [hv]
    refine ⟨_, _, hr, ⟨?_, .inr ⟨w.heap.size, _, _, ?_, hbase, heap_alloc_new w.drew _, ?_, hcm, ?_, ?_⟩⟩, ⟨rfl, rfl, rfl, by simp, fun k hk _ => Below.heap_alloc w.drew _ k hk⟩⟩
    · rw [bc_length, Nat.mul_one]
    · rw [hll]
    · rw [hll]; exact hge
    · simp only [Array.size_append, List.size_toArray, size_zeroCells, List.length_append, bc_length, hcl]
      show l.length + s.size + _ * 1 = _ * 1
      omega
    · rw [hll, hbl, Nat.mul_one]
      simp only [Array.toList_append]
      rw [show l.length + s.size = (bc l ++ byteCells s).length by rw [List.length_append, bc_length, hcl]]
      exact List.take_left
  rcases hown.2 with ⟨hv, h0⟩ | ⟨g, cap, cur, hv, hbg, hg, hnc, hcm, hcs, htake⟩
  · omega
  · by_cases hroom : l.length + s.size ≤ cap
    · have hst := run_storeCells_at P g (l.length * i.size) 5 (byteCells s) 0 cur w hg (by rw [hcl, hsize]; omega) hsrc.one
      simp only [Nat.add_zero] at hst
      have hr : (Builtin.append_ #[t, tx] ty #[.slice (some ⟨g, 0, none⟩) l.length cap, .string s]).run P w =
          .ok (.slice (some ⟨g, 0, none⟩) (l.length + s.size) cap) (w.setRow g (cur.toList.take (l.length * i.size) ++ byteCells s ++ cur.toList.drop (l.length * i.size + (byteCells s).length)).toArray) := by
        simp [Builtin.append_, run_underlying ht, run_underlying htx, sizeOf, typeInfo, hi, hsrc.len, hroom, hsrc.cells, Addr.add_lit, hst]
      rw [hv]
      refine ⟨_, _, hr, ⟨?_, .inr ⟨g, cap, _, ?_, hbg, setRow_heap w g cur _ 5 _ hg, ?_, hcm, ?_, ?_⟩⟩, ⟨rfl, rfl, rfl, by simp, fun k _ hk => setRow_other w g k _ (fun e => hk (by simp [Value.ownBlock, e]))⟩⟩
      · rw [bc_length, Nat.mul_one]
      · rw [hll]
      · rw [hll]; exact hroom
      · simp only [List.size_toArray, List.length_append, List.length_take, List.length_drop, Array.length_toList, hcl, hsize]
        omega
      · rw [hll, hbl, hsize, htake, Nat.mul_one]
        simp only
        rw [show l.length + s.size = (bc l ++ byteCells s).length by rw [List.length_append, bc_length, hcl]]
        exact List.take_left
    · have hold := run_firstCells_some (P := P) w.drew i.size l.length ⟨g, 0, none⟩ l.length cap (bc l) (by rw [bc_length, hsize, Nat.mul_one]) (fun j u hj => by
        have := World.ownsRow.cells hown (g := g) (by rw [hv]; rfl) j u hj
        simpa using this)
      exact grow (some ⟨g, 0, none⟩) cap hv (by omega) hold

theorem wpList_app_str {P : Program} {w : World} {ops : Array Oper} {rest : List Oper} {o : Oper} {a : Act} {Q : Exit → Act → World → Prop} (hgd : o.guard = none) (s x : Operand) (t tx : TypeId)
    (ho : o.op = .call { callee := .builtin .append, args := #[s, x], argTypes := #[t, tx] })
    (ht : P.underlying t = some (.slice 5)) (htx : P.underlying tx = some .string) (hinfo : (P.info? 5).map (fun i => (i.zero, i.size, i.bytes)) = some (some (.int .u8 0), 1, 1))
    (base : Nat) (v : Value) (l : List UInt8) (hs : a.eval s = v) (hown : Owns w base v l) (hpos : 0 < l.length) (y : ByteArray) (hx : a.eval x = .string y)
    (hlen : l.length + y.size ≤ 140737488355328) (hbase : base ≤ w.heap.size)
    (h : ∀ v' w', Owns w' base v' (l ++ y.data.toList) → w.grownBy w' v.ownBlock → wpList P ops Q rest (a.put o.dst v') w') : wpList P ops Q (o :: rest) a w := by
  obtain ⟨i, hi, hz, hsz, hby⟩ := info_parts hinfo
  obtain ⟨v', w', hr, h2, h3⟩ := run_app_str (P := P) (w := w) base t tx o.type i ht htx hi hz hsz hby v l y hown hpos hlen hbase
  refine wpList_plain hgd fun K hK => ?_
  unfold Oper.wp execOp
  simp only [ho, resolve, invoke, builtin, Sem.run_bind, Sem.run_pure, Result.andThen_ok, List.map_toArray, List.map_cons, List.map_nil, hs, hx, hr]
  exact hK _ _ (h v' w' h2 h3)

/-- '[]byte(s)' -/
theorem reads_bytes (w : World) (s : ByteArray) (cap : Nat) (hcap : s.size ≤ cap) (fr : Nat × Nat) :
    Reads (w.alloc (.cells (bytesRow s cap) 5 fr)).drew (.slice (some ⟨w.heap.size, 0, none⟩) s.size cap) s.data.toList := by
  have hl : s.data.toList.length = s.size := by rw [Array.length_toList]; rfl
  refine .inr ⟨w.heap.size, 0, cap, by rw [hl], by omega, fun j hj => ?_⟩
  have h1 := World.cell?_alloc_mark w (bytesRow s cap) 5 fr j
  rw [Nat.zero_add]
  refine h1.trans ?_
  rw [bytesRow_at s cap j (by rw [hl] at hj; exact hj)]
  simp

end Go.Proofs.Ytfhicemfhkhjaab
