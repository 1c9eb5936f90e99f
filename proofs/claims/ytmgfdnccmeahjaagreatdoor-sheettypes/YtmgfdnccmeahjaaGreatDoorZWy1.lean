/-
  Wy1: Sheets: errors.Is, errors.As of a Fault with a Why inside. Laid by mkwy1.py.
-/
import Derived.Test.YtmgfdnccmeahjaaGreatDoorZJ
namespace Go.Proofs.YtmgfdnccmeahjaaGreatDoor
open Go.RowKit Go.Extern.Stop Go.Stop Go.Extern
set_option maxRecDepth 100000
set_option linter.unusedVariables false
set_option linter.unusedSimpArgs false

theorem noIsW (v : Value) (xT : TypeId) (w : World) : (Instr.typeAssert (.iface 54 v) xT 160 true).run Tryz.prog w = .ok (.tuple #[.nilIface, .bool false]) w := run_typeAssert_lacksB Tryz.underlying160 (by kernel_rfl) (by kernel_rfl) v xT w
theorem hasUnwrapW (v : Value) (xT : TypeId) (w : World) : (Instr.typeAssert (.iface 54 v) xT 163 true).run Tryz.prog w = .ok (.tuple #[.iface 54 v, .bool true]) w := run_typeAssert_hasB Tryz.underlying163 (by kernel_rfl) v xT w
theorem whyVs (vx vy : Value) (w : World) : (binOp .eql 27 (.iface 54 vx) (.iface 312 vy)).run Tryz.prog w = .ok (.bool false) w := run_eql_iface_types _ _ vx vy Tryz.underlying27 (by decide) w
set_option maxHeartbeats 1000000 in
theorem unwrapW_any (g : Nat) (t : TypeId) (v n : Value) (w : World) (h : w.heap[g]? = some (.cells #[.iface t v, n] 58 (0, 0))) :
    Calls Tryz.prog 61 #[.pointer (some ⟨g, 0, none⟩)] w fun e w' => e = .returned (.iface t v) ∧ w' = w := by
  have c2 : w.cell? ⟨g, 0, none⟩ = some (.iface t v) := by rw [Lib.cell_of_heap h]; rfl
  clear h
  go_enter Tryz.func61, Tryz.ntmps61
  go_wp2
  go_ret
  exact ⟨rfl, rfl⟩

set_option maxHeartbeats 4000000 in
theorem is0_why_same (f g : Nat) (a : Addr) (x y n : Value) (w : World) (h : w.heap[f]? = some (.cells #[x, y, .iface 54 (.pointer (some ⟨g, 0, none⟩))] 42 (0, 0))) (hg : w.heap[g]? = some (.cells #[.iface 312 (.pointer (some a)), n] 58 (0, 0))) :
    Calls Tryz.prog 41 #[.iface 38 (.pointer (some ⟨f, 0, none⟩)), .iface 312 (.pointer (some a)), .bool true] w fun e w' => e = .returned (.bool true) ∧ w' = w := by
  obtain ⟨i, hi, hcmp⟩ := Option.map_eq_some_iff.1 isComp
  obtain ⟨j, hj, hjs⟩ := Option.map_eq_some_iff.1 isSize
  have heq := run_eql_iface_ptr_same (P := Tryz.prog) w a Tryz.underlying27 Tryz.underlying312 hi hcmp hj
  have nF := noIsF
  have uF := hasUnwrapF
  have qF := faultVs
  have nW := noIsW
  have uW := hasUnwrapW
  have qW := whyVs
  have HU := hid (unwrap_any f x y _ _ w h)
  have HV := hid (unwrapW_any g _ _ n w hg)
  clear h hg
  go_enter Tryz.func41, Tryz.ntmps41
  go_wp2
  refine wp_loop_rounds 3 ?_
  rw [rounds_succ]
  go_wp2_with fail
  refine Calls.mono HU.out ?_
  rintro e w1 ⟨rfl, hw⟩
  replace hw := hw.symm
  subst hw
  go_wp2
  rw [rounds_succ]
  go_wp2_with fail
  refine Calls.mono HV.out ?_
  rintro e w1 ⟨rfl, hw⟩
  replace hw := hw.symm
  subst hw
  go_wp2
  rw [rounds_succ]
  go_wp2
  go_ret
  exact ⟨rfl, rfl⟩

set_option maxHeartbeats 4000000 in
theorem is0_why_other (f g : Nat) (a b : Addr) (x y n : Value) (ca cb : Array Value) (ta tb : TypeId) (w : World) (h : w.heap[f]? = some (.cells #[x, y, .iface 54 (.pointer (some ⟨g, 0, none⟩))] 42 (0, 0))) (hg : w.heap[g]? = some (.cells #[.iface 312 (.pointer (some a)), n] 58 (0, 0))) (hne : a ≠ b) (ha : w.heap[a.block]? = some (.cells ca ta (0, 0))) (hb : w.heap[b.block]? = some (.cells cb tb (0, 0))) :
    Calls Tryz.prog 41 #[.iface 38 (.pointer (some ⟨f, 0, none⟩)), .iface 312 (.pointer (some b)), .bool true] w fun e w' => e = .returned (.bool false) ∧ w' = w := by
  obtain ⟨i, hi, hcmp⟩ := Option.map_eq_some_iff.1 isComp
  obtain ⟨j, hj, hjs⟩ := Option.map_eq_some_iff.1 isSize
  have heq := run_eql_iface_ptr_other (P := Tryz.prog) w Tryz.underlying27 Tryz.underlying312 hi hcmp hj (by rw [hjs]; decide) hne ha hb
  have nE := noIsE
  have uE := noUnwrapE
  have vE := noUnwrapsE
  have nF := noIsF
  have uF := hasUnwrapF
  have qF := faultVs
  have nW := noIsW
  have uW := hasUnwrapW
  have qW := whyVs
  have HU := hid (unwrap_any f x y _ _ w h)
  have HV := hid (unwrapW_any g _ _ n w hg)
  clear h hg ha hb
  go_enter Tryz.func41, Tryz.ntmps41
  go_wp2
  refine wp_loop_rounds 3 ?_
  rw [rounds_succ]
  go_wp2_with fail
  refine Calls.mono HU.out ?_
  rintro e w1 ⟨rfl, hw⟩
  replace hw := hw.symm
  subst hw
  go_wp2
  rw [rounds_succ]
  go_wp2_with fail
  refine Calls.mono HV.out ?_
  rintro e w1 ⟨rfl, hw⟩
  replace hw := hw.symm
  subst hw
  go_wp2
  rw [rounds_succ]
  go_wp2
  go_ret
  exact ⟨rfl, rfl⟩

/-- a Fault with a Why of an error inside -/
def FYw (A : Nat → Addr) (f g c : Nat) (x y n : Value) (w : World) : Prop := w.heap[f]? = some (.cells #[x, y, .iface 54 (.pointer (some ⟨g, 0, none⟩))] 42 (0, 0)) ∧ w.heap[g]? = some (.cells #[.iface 312 (.pointer (some (A c))), n] 58 (0, 0))
theorem FYw.below {A : Nat → Addr} {f g c : Nat} {x y n : Value} {w w' : World} (h : FYw A f g c x y n w) (hb : Below w.heap.size w w') : FYw A f g c x y n w' :=
  ⟨(hb.block _ (Array.getElem?_eq_some_iff.1 h.1).1).trans h.1, (hb.block _ (Array.getElem?_eq_some_iff.1 h.2).1).trans h.2⟩
theorem isw_at (A : Nat → Addr) (f g c d : Nat) (x y n : Value) (w : World) (h : FYw A f g c x y n w) (hA : Sn A w) (hc : 1 ≤ c ∧ c ≤ 20) (hd : 1 ≤ d ∧ d ≤ 20) :
    Calls Tryz.prog 13 #[.iface 38 (.pointer (some ⟨f, 0, none⟩)), .iface 312 (.pointer (some (A d)))] w fun e w' => e = .returned (.bool (decide (c = d))) ∧ w' = w := by
  refine is_of _ _ _ w _ ?_
  by_cases hcd : c = d
  · subst hcd
    rw [decide_eq_true rfl]
    exact is0_why_same f g (A c) _ _ _ w h.1 h.2
  · rw [decide_eq_false hcd]
    obtain ⟨ca, ta, ha⟩ := hA.lie hc
    obtain ⟨cb, tb, hb⟩ := hA.lie hd
    exact is0_why_other f g (A c) (A d) _ _ _ ca cb ta tb w h.1 h.2 (hA.ne hc hd hcd) ha hb
set_option maxHeartbeats 2000000 in
theorem kindsw_any (A : Nat → Addr) (f g c : Nat) (x y n : Value) (w : World) (h : FYw A f g c x y n w) (hA : Sn A w) (hc : 1 ≤ c ∧ c ≤ 20) :
    Calls Tryz.prog 53 #[.iface 38 (.pointer (some ⟨f, 0, none⟩))] w fun e w' => e = .returned (.int .i64 1) ∧ Below w.heap.size w w' := by
  have HH := hid h
  have HA := hid hA
  clear h hA
  go_enter Tryz.func53, Tryz.ntmps53
  go_wp2_with fail
  go_loopw [3, 4] (fun nn k wr => ∃ j : Nat, j ≤ 20 ∧ k = .int .i64 ((j : Int) + 1) ∧ nn = .int .i64 (if c ≤ j then 1 else 0) ∧ Below w.heap.size w wr) (fun _ k _ => 21 - (intOf k).toNat)
  case atStart => exact ⟨0, by omega, rfl, by rw [if_neg (by omega)], Below.refl _ _⟩
  case round =>
    obtain ⟨j, hj, rfl, rfl, hbl⟩ := hrel
    by_cases hlt : j < 20
    · have hI : (j : Int) + 1 ≤ 20 := by omega
      have hf1 := HH.out.below hbl
      have HV := hid (variable_any A j hlt _ rfl wr (HA.out.below hbl))
      have hb2 : Below wr.heap.size wr (wr.alloc (.cells (errs A) 27)) := (Below.refl _ _).alloc (Nat.le_refl _) _
      have hi := isw_at A f g c (j + 1) x y n (wr.alloc (.cells (errs A) 27)) (hf1.below hb2) ((HA.out.below hbl).below hb2) hc ⟨by omega, by omega⟩
      have HBL := hid (hbl.trans (hb2.mono hbl.size))
      generalize wr.alloc (.cells (errs A) 27) = wv at *
      clear hf1 hbl hb2
      by_cases hcj : c = j + 1
      · rw [decide_eq_true hcj] at hi
        have HI := hid hi
        have HC := hid hcj
        rw [if_neg (show ¬ c ≤ j by omega)]
        clear hi hcj
        go_wp2_with fail
        refine Calls.mono HV.out ?_
        rintro e w2 ⟨rfl, hw⟩
        replace hw := hw.symm
        subst hw
        go_wp2_with fail
        refine Calls.mono HI.out ?_
        rintro e w3 ⟨rfl, hw⟩
        replace hw := hw.symm
        subst hw
        go_wp2
        go_roundw
        case rel => exact ⟨j + 1, by omega, by go_num, by rw [if_pos (show c ≤ j + 1 by have := HC.out; omega)], HBL.out⟩
        case measure => simp [intOf]; omega
      · rw [decide_eq_false hcj] at hi
        have HI := hid hi
        have hif : (if c ≤ j then (1 : Int) else 0) = (if c ≤ j + 1 then 1 else 0) := by
          by_cases h1 : c ≤ j
          · rw [if_pos h1, if_pos (by omega)]
          · rw [if_neg h1, if_neg (by omega)]
        have HIf := hid hif
        generalize (if c ≤ j then (1 : Int) else 0) = q at *
        clear hi hcj hif
        go_wp2_with fail
        refine Calls.mono HV.out ?_
        rintro e w2 ⟨rfl, hw⟩
        replace hw := hw.symm
        subst hw
        go_wp2_with fail
        refine Calls.mono HI.out ?_
        rintro e w3 ⟨rfl, hw⟩
        replace hw := hw.symm
        subst hw
        go_wp2
        go_roundw
        case rel => exact ⟨j + 1, by omega, by go_num, by rw [HIf.out], HBL.out⟩
        case measure => simp [intOf]; omega
    · have hI : ¬ (j : Int) + 1 ≤ 20 := by omega
      rw [if_pos (show c ≤ j by omega)]
      go_wp2
      go_ret
      exact ⟨rfl, hbl⟩

theorem typeOfWhy (v : Value) (w : World) : (ReflectliteType.typeOf #[.iface 54 v]).run Tryz.prog w = .ok (.iface 158 (.agg #[.pointer (some ⟨35, 54, none⟩)])) w := by kernel_rfl
theorem assignableWW (w : World) : (ReflectliteType.relation "AssignableTo" ReflectliteType.assignableTo #[.agg #[.pointer (some ⟨35, 54, none⟩)], .iface 158 (.agg #[.pointer (some ⟨35, 54, none⟩)])]).run Tryz.prog w = .ok (.bool true) w := by kernel_rfl
theorem valueOfWhy (e : Addr) (w : World) : (ReflectliteValue.unpack (.iface 54 (.pointer (some e)))).run Tryz.prog w
    = .ok (.agg #[.pointer (some ⟨35, 54, none⟩), .pointer (some ⟨w.heap.size, 0, none⟩), .int .u64 150]) (w.alloc (.cells #[.pointer (some e)] 54)) := by kernel_rfl
theorem elemOfPPw (w : World) : (Rtype.elem? 55).run Tryz.prog w = .ok (some 54) w := by kernel_rfl
theorem mkPw (p : Addr) (w : World) : (ReflectliteValue.mk 54 p ReflectliteValue.flagAddr).run Tryz.prog w = .ok (.agg #[.pointer (some ⟨35, 54, none⟩), .pointer (some p), .int .u64 406]) w := by kernel_rfl
theorem elemVPPw (a p : Addr) (W : World) (ha : W.cell? a = some (.pointer (some p))) :
    (ReflectliteValue.method (ReflectliteValue.valueError "reflectlite.Value.Elem" 0) ReflectliteValue.elem #[.agg #[.pointer (some ⟨35, 55, none⟩), .pointer (some a), .int .u64 150]]).run Tryz.prog W
      = .ok (.agg #[.pointer (some ⟨35, 54, none⟩), .pointer (some p), .int .u64 406]) W := by
  rw [rlm]
  simp only [Sem.run_bind, partsPPw, Result.andThen]
  simp [ReflectliteValue.elem, loadVar, isAgg, underlying, Tryz.underlying55, ha, Result.andThen, elemOfPPw, mkPw]
theorem partsPaw (a : Addr) (w : World) : (ReflectliteValue.parts (.agg #[.pointer (some ⟨35, 54, none⟩), .pointer (some a), .int .u64 406])).run Tryz.prog w = .ok (some (54, a, 406)) w := by kernel_rfl
theorem partsPw (a : Addr) (w : World) : (ReflectliteValue.parts (.agg #[.pointer (some ⟨35, 54, none⟩), .pointer (some a), .int .u64 150])).run Tryz.prog w = .ok (some (54, a, 150)) w := by kernel_rfl
theorem directPw (w : World) : (Rtype.directlyAssignable 54 54).run Tryz.prog w = .ok true w := by kernel_rfl
theorem setPw (ta b e : Addr) (old : Value) (W : World) (hb : W.cell? b = some (.pointer (some e))) (ht : W.cell? ta = some old) (hf : W.frozen? ta = false) :
    (ReflectliteValue.set #[.agg #[.pointer (some ⟨35, 54, none⟩), .pointer (some ta), .int .u64 406], .agg #[.pointer (some ⟨35, 54, none⟩), .pointer (some b), .int .u64 150]]).run Tryz.prog W
      = .ok (.tuple #[]) (W.setCell ta (.pointer (some e))) := by
  obtain ⟨r1, r2, r3, hrl⟩ := rls (.agg #[.pointer (some ⟨35, 54, none⟩), .pointer (some ta), .int .u64 406]) (.agg #[.pointer (some ⟨35, 54, none⟩), .pointer (some b), .int .u64 150])
  rw [hrl]
  simp only [Sem.run_bind, partsPaw, partsPw, Result.andThen]
  simp [ReflectliteValue.flagAddr, loadVar, isAgg, underlying, Tryz.underlying54, hb, Result.andThen, directPw, storeVar, Value.cells, storeCells, Addr.add]
  rw [run_store Tryz.prog W ta _ _ (by rfl)]
  simp [ht, hf]
set_option maxHeartbeats 6000000 in
theorem as_why (f : Nat) (g : Nat) (t : Addr) (x y n old : Value) (w : World) (hE : ErT w) (h : w.heap[f]? = some (.cells #[x, y, .iface 54 (.pointer (some ⟨g, 0, none⟩))] 42 (0, 0))) (ht0 : w.cell? t = some old) (hf0 : w.frozen? t = false) :
    Calls Tryz.prog 15 #[.iface 38 (.pointer (some ⟨f, 0, none⟩)), .iface 55 (.pointer (some t))] w fun ev w' => ev = .returned (.bool true) ∧ w' = ((((w.alloc (.cells #[.pointer (some t)] 55)).alloc (.cells #[.pointer (some ⟨35, 55, none⟩), .pointer (some ⟨w.heap.size, 0, none⟩), .int .u64 150] 107)).alloc (.cells #[.pointer (some ⟨35, 55, none⟩), .pointer (some ⟨w.heap.size, 0, none⟩), .int .u64 150] 107)).alloc (.cells #[.pointer (some ⟨g, 0, none⟩)] 54)).setCell t (.pointer (some ⟨g, 0, none⟩)) := by
  have h6 := @run_callFunc_extern Tryz.prog 42 _ (fun args => ReflectliteValue.unpack (args.getD 0 (.tuple #[]))) Tryz.func42 (by kernel_rfl) (by kernel_rfl) (by kernel_rfl) (by kernel_rfl)
  have h7 := @run_callFunc_extern Tryz.prog 43 _ (ReflectliteValue.methodAny (ReflectliteValue.valueError "reflectlite.Value.Type" 0) (fun t _ _ _ => ReflectliteType.toType t)) Tryz.func43 (by kernel_rfl) (by kernel_rfl) (by kernel_rfl) (by kernel_rfl)
  have h8 := @run_callFunc_extern Tryz.prog 44 _ (ReflectliteValue.method (ReflectliteValue.valueError "reflectlite.Value.IsNil" 0) ReflectliteValue.isNil) Tryz.func44 (by kernel_rfl) (by kernel_rfl) (by kernel_rfl) (by kernel_rfl)
  have h27 := @run_callFunc_extern Tryz.prog 295 _ (ReflectliteType.abiMethod fun t => do pure (.int .u8 (← Rtype.kind t))) Tryz.func295 (by kernel_rfl) (by kernel_rfl) (by kernel_rfl) (by kernel_rfl)
  have h37 := @run_callFunc_extern Tryz.prog 304 _ (ReflectliteType.method ReflectliteType.elem) Tryz.func304 (by kernel_rfl) (by kernel_rfl) (by kernel_rfl) (by kernel_rfl)
  have h38 := @run_callFunc_extern Tryz.prog 305 _ (ReflectliteType.relation "Implements" ReflectliteType.implements_) Tryz.func305 (by kernel_rfl) (by kernel_rfl) (by kernel_rfl) (by kernel_rfl)
  have h10 := @run_callFunc_extern Tryz.prog 40 _ ReflectliteType.typeOf Tryz.func40 (by kernel_rfl) (by kernel_rfl) (by kernel_rfl) (by kernel_rfl)
  have h35 := @run_callFunc_extern Tryz.prog 302 _ (ReflectliteType.relation "AssignableTo" ReflectliteType.assignableTo) Tryz.func302 (by kernel_rfl) (by kernel_rfl) (by kernel_rfl) (by kernel_rfl)
  have h11 := @run_callFunc_extern Tryz.prog 86 _ (ReflectliteValue.method (ReflectliteValue.valueError "reflectlite.Value.Elem" 0) ReflectliteValue.elem) Tryz.func86 (by kernel_rfl) (by kernel_rfl) (by kernel_rfl) (by kernel_rfl)
  have h12 := @run_callFunc_extern Tryz.prog 87 _ ReflectliteValue.set Tryz.func87 (by kernel_rfl) (by kernel_rfl) (by kernel_rfl) (by kernel_rfl)
  have mA := methodAssignableTo
  have mK := methodKind
  have mE := methodElem
  have mI := methodImplements
  have tO := typeOfP
  have tE := typeOfWhy
  have aW := assignableW
  have aE := assignableWW
  have v25 := valueOfWhy
  have f6 := valueOfPPw
  have f7 := typePPw
  have k27 := kindPPw
  have k25 := kindPw
  have e27 := elemPPw
  have i25 := implementsPw
  have nF := noAsF
  have uF := hasUnwrapF
  have hg : w.cell? ⟨7, 0, none⟩ = some (.iface 158 (.agg #[.pointer (some ⟨35, 27, none⟩)])) := hE
  have n8 := isNilPPw ⟨w.heap.size, 0, none⟩ t ((w.alloc (.cells #[.pointer (some t)] 55)).alloc (.cells #[.pointer (some ⟨35, 55, none⟩), .pointer (some ⟨w.heap.size, 0, none⟩), .int .u64 150] 107)) (by simp)
  have hlt : 7 < w.heap.size := World.block_lt_of_cell? _ _ hg
  have hg2 : ((w.alloc (.cells #[.pointer (some t)] 55)).alloc (.cells #[.pointer (some ⟨35, 55, none⟩), .pointer (some ⟨w.heap.size, 0, none⟩), .int .u64 150] 107)).cell? ⟨7, 0, none⟩ = some (.iface 158 (.agg #[.pointer (some ⟨35, 27, none⟩)])) := by
    rw [World.cell?_alloc_lt _ _ ⟨7, 0, none⟩ (by simp; omega), World.cell?_alloc_lt _ _ ⟨7, 0, none⟩ hlt]; exact hg
  have htl : t.block < w.heap.size := World.block_lt_of_cell? _ _ ht0
  have el := elemVPPw ⟨w.heap.size, 0, none⟩ t (((w.alloc (.cells #[.pointer (some t)] 55)).alloc (.cells #[.pointer (some ⟨35, 55, none⟩), .pointer (some ⟨w.heap.size, 0, none⟩), .int .u64 150] 107)).alloc (.cells #[.pointer (some ⟨35, 55, none⟩), .pointer (some ⟨w.heap.size, 0, none⟩), .int .u64 150] 107)) (by rw [World.cell?_alloc_lt _ _ ⟨w.heap.size, 0, none⟩ (by simp; omega)]; simp)
  have st := setPw t ⟨w.heap.size + 1 + 1 + 1, 0, none⟩ ⟨g, 0, none⟩ old ((((w.alloc (.cells #[.pointer (some t)] 55)).alloc (.cells #[.pointer (some ⟨35, 55, none⟩), .pointer (some ⟨w.heap.size, 0, none⟩), .int .u64 150] 107)).alloc (.cells #[.pointer (some ⟨35, 55, none⟩), .pointer (some ⟨w.heap.size, 0, none⟩), .int .u64 150] 107)).alloc (.cells #[.pointer (some ⟨g, 0, none⟩)] 54))
    (by rw [World.cell?_alloc_at _ _ _ _ (by simp)]; rfl)
    (by rw [World.cell?_alloc_lt _ _ t (by simp; omega), World.cell?_alloc_lt _ _ t (by simp; omega), World.cell?_alloc_lt _ _ t (by simp; omega), World.cell?_alloc_lt _ _ t htl]; exact ht0)
    (by rw [World.frozen?_alloc_old _ _ t (by simp; omega), World.frozen?_alloc_old _ _ t (by simp; omega), World.frozen?_alloc_old _ _ t (by simp; omega), World.frozen?_alloc_old _ _ t (Nat.ne_of_lt htl)]; exact hf0)
  have hfl : f < w.heap.size := (Array.getElem?_eq_some_iff.1 h).1
  have hWf : (((w.alloc (.cells #[.pointer (some t)] 55)).alloc (.cells #[.pointer (some ⟨35, 55, none⟩), .pointer (some ⟨w.heap.size, 0, none⟩), .int .u64 150] 107)).alloc (.cells #[.pointer (some ⟨35, 55, none⟩), .pointer (some ⟨w.heap.size, 0, none⟩), .int .u64 150] 107)).heap[f]? = some (.cells #[x, y, .iface 54 (.pointer (some ⟨g, 0, none⟩))] 42 (0, 0)) := by
    rw [Lib.alloc_old _ _ f (by simp; omega), Lib.alloc_old _ _ f (by simp; omega), Lib.alloc_old _ _ f hfl]; exact h
  have c2 : (((w.alloc (.cells #[.pointer (some t)] 55)).alloc (.cells #[.pointer (some ⟨35, 55, none⟩), .pointer (some ⟨w.heap.size, 0, none⟩), .int .u64 150] 107)).alloc (.cells #[.pointer (some ⟨35, 55, none⟩), .pointer (some ⟨w.heap.size, 0, none⟩), .int .u64 150] 107)).cell? ⟨f, 2, none⟩ = some (.iface 54 (.pointer (some ⟨g, 0, none⟩))) := by rw [Lib.cell_of_heap hWf]; rfl
  have HU := hid (unwrap_any f x y _ _ (((w.alloc (.cells #[.pointer (some t)] 55)).alloc (.cells #[.pointer (some ⟨35, 55, none⟩), .pointer (some ⟨w.heap.size, 0, none⟩), .int .u64 150] 107)).alloc (.cells #[.pointer (some ⟨35, 55, none⟩), .pointer (some ⟨w.heap.size, 0, none⟩), .int .u64 150] 107)) hWf)
  clear hE h hWf
  go_enter Tryz.func15, Tryz.ntmps15
  go_wp2
  refine wp_loop_rounds 2 ?_
  rw [rounds_succ]
  go_wp2
  rw [rounds_succ]
  go_wp2
  go_ret
  exact ⟨rfl, rfl⟩
end Go.Proofs.YtmgfdnccmeahjaaGreatDoor
