/-
  A board: Wake.
-/
import Derived.Test.YtogbmldplgondacBd6
namespace Go.Proofs.Ytogbmldplgondac
open Go.RowKit Go.Maps
set_option maxRecDepth 100000

theorem wpList_del {w w' : World} {ops : Array Oper} {rest : List Oper} {o : Oper} {a : Act} {Q : Exit → Act → World → Prop} (hg : o.guard = none) (m x : Operand) (hop : o.op = Op.call { callee := Callee.builtin Builtin.delete, args := #[m, x], argTypes := #[90, 3] })
    {mv key : Value} (hm : a.eval m = mv) (hx : a.eval x = key) (hrun : (Builtin.delete_ #[90, 3] o.type #[mv, key]).run Try.prog w = .ok (.tuple #[]) w') (hK : wpList Try.prog ops Q rest (a.put o.dst (.tuple #[])) w') :
    wpList Try.prog ops Q (o :: rest) a w := by
  refine wpList_plain hg fun K' hK' => ?_
  unfold Oper.wp
  simp [execOp, hop, resolve, invoke, builtin, hm, hx, hrun, Result.andThen]
  exact hK' _ _ hK
theorem ofB_nil {d hb mb : Nat} {M : Int → Value} {on : Int} {k : Nat} (h : ofB d hb mb (upd M on (.slice none 0 0)) k) : ofB d hb mb M k := by
  rcases h with h | h | h | ⟨x, hx⟩
  · exact .inl h
  · exact .inr (.inl h)
  · exact .inr (.inr (.inl h))
  · unfold upd at hx
    split at hx
    · simp [Value.ownBlock] at hx
    · exact .inr (.inr (.inr ⟨x, hx⟩))
theorem Kb.wide {d hb mb : Nat} {M M' : Int → Value} {w w' : World} (h : Kb d hb mb M' w w') (hs : ∀ k, k < w.heap.size → ofB d hb mb M' k → ofB d hb mb M k) : Kb d hb mb M w w' :=
  ⟨h.os, h.tape, h.output, h.size, fun k hk hn => h.block k hk (fun e => hn (hs k hk e))⟩
theorem BD.gone {w : World} {base d hb mb N : Nat} {S : List Hd} {p : Int} {M : Int → Value} {L : Int → List Int} (H : BD w base d hb mb N S p M L) (on : Int) (hon : i64 on) (ty : TypeId) :
    ∃ w', (Builtin.delete_ #[90, 3] ty #[.map (some mb), .int .i64 on]).run Try.prog w = .ok (.tuple #[]) w' ∧ BD w' base d hb mb N S p (upd M on (.slice none 0 0)) (updL L on []) ∧ w.grownBy w' (some mb) := by
  obtain ⟨n1, n2, n3, n4⟩ := H.ne
  obtain ⟨w', hrun, hmp, hg⟩ := H.map.del hon ty
  have hk : ∀ k, k < w.heap.size → k ≠ mb → w'.heap[k]? = w.heap[k]? := fun k hk hne => hg.block k hk (fun e => hne (by cases e; rfl))
  refine ⟨w', hrun, ⟨H.gd, H.gh, H.gm, ?_, ?_, H.many, hmp, fun k => ?_, fun k k' g h0 h0' => ?_⟩, hg⟩
  · rw [hk d (H.lt d (.inl rfl)).1 n2]; exact H.top
  · rw [hk hb (H.lt hb (.inr (.inl rfl))).1 n3]; exact H.row
  · unfold upd updL
    split
    · exact .inl ⟨rfl, rfl⟩
    · exact (H.lists k).kept fun g hg' => hk g (H.lt g (.inr (.inr (.inr ⟨k, hg'⟩)))).1 (n4 k g hg').2.2
  · unfold upd at h0 h0'
    split at h0
    · simp [Value.ownBlock] at h0
    · split at h0'
      · simp [Value.ownBlock] at h0'
      · exact H.apart k k' g h0 h0'
/-- the handlers of a list made ready -/
def rdS (S : List Hd) (p : Int) (l : List Int) : List Hd := l.foldl (fun S x => S.set x.toNat (1, 0, p)) S
theorem rdS_len (p : Int) : ∀ (l : List Int) (S : List Hd), (rdS S p l).length = S.length
  | [], _ => rfl
  | x :: t, S => by
    have := rdS_len p t (S.set x.toNat (1, 0, p))
    simpa [rdS] using this
theorem rdS_snoc (S : List Hd) (p : Int) (l : List Int) (x : Int) : rdS S p (l ++ [x]) = (rdS S p l).set x.toNat (1, 0, p) := by simp [rdS]

set_option maxHeartbeats 1000000 in
theorem wake_any (on : Int) (w : World) {base d hb mb N : Nat} {S : List Hd} {p : Int} {M : Int → Value} {L : Int → List Int} (H : BD w base d hb mb N S p M L) (hon : i64 on) (hl : (L on).length ≤ 17592186043904) (hin : ∀ x ∈ L on, 0 ≤ x ∧ x < (S.length : Int)) :
    Calls Try.prog 22 #[.pointer (some ⟨d, 0, none⟩), .int .i64 on] w fun e w' => e = .returned (M on) ∧ RI w' (M on) (L on) ∧ BD w' base d hb mb N (rdS S p (L on)) p (upd M on (.slice none 0 0)) (updL L on []) ∧ Kb d hb mb M w w' := by
  obtain ⟨_, c1, _, _⟩ := H.cells
  have hlk := H.map.look hon
  obtain ⟨w1, hdel, hbd, hg⟩ := H.gone on hon 0
  have hrd : RI w1 (M on) (L on) := ((H.lists on).kept fun g hg' => hg.block g (H.lt g (.inr (.inr (.inr ⟨on, hg'⟩)))).1 (fun e => (H.ne.2.2.2 on g hg').2.2 (by cases e; rfl))).reads
  have hnb : ∀ g, (M on).ownBlock = some g → ¬ ofB d hb mb (upd M on (.slice none 0 0)) g := by
    rintro g hg' (rfl | rfl | rfl | ⟨x, hx⟩)
    · exact (H.ne.2.2.2 on g hg').1 rfl
    · exact (H.ne.2.2.2 on g hg').2.1 rfl
    · exact (H.ne.2.2.2 on g hg').2.2 rfl
    · unfold upd at hx
      split at hx
      · simp [Value.ownBlock] at hx
      · rename_i e; exact e (H.apart x on g hx hg')
  have HK0 := hid (show Kb d hb mb M w w1 from Kb.grown hg (fun k e => by cases e; exact .inr (.inr (.inl rfl))))
  have HD := hid hdel
  have HB := hid hbd
  have HNB := hid hnb
  have HR := hid hrd
  have HIn := hid hin
  clear hdel hbd hg hnb hin H
  obtain ⟨ao, cap, hv, hc, hn, hcell⟩ := hrd
  have HV := hid hv
  have HC := hid hcell
  rw [hv] at hlk
  clear hv hcell hn
  generalize hM' : upd M on (.slice none 0 0) = M' at *
  generalize hL' : updL L on [] = L' at *
  generalize hLo : L on = Lo at *
  go_enter Try.func22, Try.ntmps22
  go_wp2_with (at_delete; refine wpList_del rfl _ _ rfl rfl rfl HD.out ?_)
  clear hlk c1
  go_wp2
  go_loopw [23] (fun i wr => ∃ k : Nat, k ≤ Lo.length ∧ i = .int .i64 (k : Int) ∧ BD wr base d hb mb N (rdS S p (Lo.take k)) p M' L' ∧ Kb d hb mb M' w1 wr) (fun i _ => Lo.length - (intOf i).toNat)
  case atStart => exact ⟨0, by omega, rfl, HB.out, Kb.refl _ _ _ _ _⟩
  case round =>
    obtain ⟨k, hk, rfl, hb, hkb⟩ := hrel
    have HBk := hid hb
    have HKk := hid hkb
    clear hb hkb
    by_cases h : k < Lo.length
    · have hI : (k : Int) < (Lo.length : Int) := by omega
      obtain ⟨g, off, hao, c2⟩ := HC.out k h
      have hlt := World.block_lt_of_cell? _ _ c2
      have hgk := HKk.out.block g hlt (HNB.out g (by rw [HV.out, hao]; rfl))
      have c2 := (World.cell?_of_block (a := ⟨g, off + k, none⟩) hgk).trans c2
      have htk : Lo.take (k + 1) = Lo.take k ++ [Lo[k]] := by rw [List.take_add_one, List.getElem?_eq_getElem h]; rfl
      have hx := HIn.out Lo[k] (List.getElem_mem _)
      generalize Lo[k] = x at c2 htk hx
      obtain ⟨q, rfl⟩ : ∃ q : Nat, x = (q : Int) := ⟨x.toNat, by omega⟩
      have HMk := hid (makeReady_any q wr HBk.out (by rw [rdS_len]; omega))
      have HTK := hid htk
      subst hao
      clear htk hgk hlt
      go_wp2_with fail
      refine HMk.out.mono ?_
      rintro e w5 ⟨⟨v5, rfl⟩, hb5, hk5⟩
      have HB5 := hid (show BD w5 base d hb mb N (rdS S p (Lo.take (k + 1))) p M' L' by rw [HTK.out, rdS_snoc, Int.toNat_natCast]; exact hb5)
      have HK5 := hid (HKk.out.trans hk5)
      clear hb5 hk5 HMk
      go_wp2
      go_roundw
      case rel => exact ⟨k + 1, by omega, by go_num, HB5.out, HK5.out⟩
      case measure => simp [intOf]; omega
    · have hI : ¬ (k : Int) < (Lo.length : Int) := by omega
      have HBf := hid (show BD wr base d hb mb N (rdS S p Lo) p M' L' by have := HBk.out; rw [List.take_of_length_le (by omega)] at this; exact this)
      have HRf := hid (show RI wr (M on) Lo by
        obtain ⟨ao', c', hv', h1, h2, h3⟩ := HR.out
        refine ⟨ao', c', hv', h1, h2, fun j hj => ?_⟩
        obtain ⟨g, off, ha, hcell⟩ := h3 j hj
        exact ⟨g, off, ha, (World.cell?_of_block (a := ⟨g, off + j, none⟩) (HKk.out.block g (World.block_lt_of_cell? _ _ hcell) (HNB.out g (by rw [hv', ha]; rfl)))).trans hcell⟩)
      have HKf := hid (show Kb d hb mb M w wr from HK0.out.trans (HKk.out.wide fun k _ hk => by rw [← hM'] at hk; exact ofB_nil hk))
      go_wp2
      go_ret
      rw [HV.out] at HRf ⊢
      exact ⟨rfl, HRf.out, HBf.out, HKf.out⟩
end Go.Proofs.Ytogbmldplgondac
