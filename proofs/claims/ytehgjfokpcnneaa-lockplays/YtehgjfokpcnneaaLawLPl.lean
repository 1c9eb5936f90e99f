/-
  LockPlays: the law's walk.
-/
import Derived.Test.YtehgjfokpcnneaaUn3
import Derived.Deep.RegionHeld3
namespace Go.Proofs.Ytehgjfokpcnneaa
open Go.RowKit
set_option maxRecDepth 100000

theorem grown_kw {w w' : World} {r : Option Nat} (h : w.grownBy w' r) : Kw (fun k => r = some k) w w' := ⟨h.os, h.tape, h.output, h.size, fun k hk hn => h.block k hk (fun e => hn e.symm)⟩
theorem OI.typ {w : World} {base : Nat} {v : Value} {R : List Int} (h : OI w base v R) : ∀ k, v.ownBlock = some k → ∃ row, w.heap[k]? = some (.cells row TI (0, 0)) := by
  intro k hk
  rcases h.2 with ⟨rfl, _⟩ | ⟨g, cap, cur, rfl, _, hgg, _⟩
  · simp [Value.ownBlock] at hk
  · simp [Value.ownBlock] at hk
    subst hk
    exact ⟨cur, hgg⟩
theorem TN.grown {tt rt : TypeId} {w w' : World} {base d hb : Nat} {p : Value} {o : OS} {R : List Int} {v : Value} {b : Nat} (h : TN tt rt w base d hb p o) (ho : OI w b v R) (hg : w.grownBy w' v.ownBlock) (h1 : tt ≠ TI) (h2 : rt ≠ TI) : TN tt rt w' base d hb p o := by
  refine h.kw (grown_kw hg) (fun S e => ?_)
  subst e
  constructor
  · intro e
    obtain ⟨row, hr⟩ := ho.typ _ e
    have := h.2.top
    rw [hr] at this
    simp at this
    exact h1 this.2.symm
  · intro e
    obtain ⟨row, hr⟩ := ho.typ _ e
    have := h.2.row
    rw [hr] at this
    simp at this
    exact h2 this.2.symm
theorem PI.made {w0 w : World} {p q : Value} {d hb d' hb' g : Nat} {LF : Nat → Int} {o1 o2 : OS} (h : PI w0 w p q d hb d' hb' g LF none o1 o2) (cc : Array Value) : PI w0 (w.alloc (.cells cc TC)) p q d hb d' hb' g LF (some (w.heap.size, cc)) o1 o2 :=
  (h.later ((Below.refl _ _).alloc (Nat.le_refl _) _)).withC h.below.size (heap_alloc_new w _)
theorem OI.lf {w : World} {base : Nat} {v : Value} {n : Nat} (h : OI w base v (List.replicate n 0)) (hn : 0 < n) : ∃ g cap, v = .slice (some ⟨g, 0, none⟩) n cap ∧ n ≤ cap ∧ base ≤ g ∧ ∃ row : Array Value, w.heap[g]? = some (.cells row TI (0, 0)) ∧ ∀ j, j < n → row[j]? = some (.int .i64 0) := by
  rcases h.2 with ⟨_, h0⟩ | ⟨g, cap, cur, rfl, hg, hgg, hn', hm, hs, ht⟩
  · simp at h0; omega
  · rw [List.length_replicate] at hn' ht ⊢
    refine ⟨g, cap, rfl, hn', hg, cur, hgg, fun j hj => ?_⟩
    have h1 := congrArg (·[j]?) ht
    simp only [List.getElem?_take, Nat.mul_one, if_pos hj] at h1
    rw [ic_at _ j (by simpa using hj)] at h1
    simpa using h1

set_option maxHeartbeats 64000000 in
theorem plays_any (n : Int) (v : Value) (P : List Cl) (w : World) (hr : CL w v P) (hl : P.length * 32 ≤ reachBytes) :
    Calls Try.prog 7 #[.int .i64 n, v] w fun e w' => e = .returned (.bool true) ∧ Below w.heap.size w w' := by
  have hl' : P.length ≤ 4398046510976 := by have : reachBytes = 140737488351232 := rfl; omega
  clear hl
  have HN := hid (pnew_un n)
  have HR := hid (rnew_un n)
  obtain ⟨ao, cap, rfl, hc, hn, hcell⟩ := hr
  have HC := hid hcell
  clear hcell hn
  have hln := nwO_ln n
  have hbd := nwO_bd n
  generalize nwO n = o at HN HR hln hbd
  generalize nwE n = er at HN HR
  obtain ⟨bn, hbn⟩ : ∃ b, o.isNone = b := ⟨_, rfl⟩
  have hbs : o.isSome = !bn := by rw [← hbn]; cases o <;> rfl
  have b1 : (bn == bn) = true := by simp
  have b2 : (bn != bn) = false := by simp
  have z1 : (er == er) = true := by simp
  go_enter Try.func7, Try.ntmps7
  go_wp2_with fail
  refine Calls.mono (HN.out _) ?_
  rintro e w1 ⟨p, d, hb, rfl, hT1, hB1⟩
  have TA := hid hT1
  have BA := hid hB1
  have hz1 := hB1.size
  have en1 := hT1.nil1
  have eg1 := hT1.guard
  rw [hbn] at en1
  clear hT1 hB1 HN
  go_wp2_with fail
  refine Calls.mono (HR.out _) ?_
  rintro e w2 ⟨q, d', hb', rfl, hT2, hB2⟩
  have TA2 := hid (TA.out.below hB2)
  have TB2 := hid (hT2.base hz1)
  have BB := hid (BA.out.trans (hB2.mono hz1))
  have en2 := hT2.nil2
  have eg2 := hT2.guard
  rw [hbn] at en2
  have en3 := hT2.not2
  rw [hbs] at en3
  clear hT2 hB2 HR TA BA
  obtain ⟨ST, SR⟩ : (∀ {g : Nat} {LF : Nat → Int} {C : Option (Nat × Array Value)}, PI w w2 p q d hb d' hb' g LF C o o → True) ∧ True := ⟨fun _ => trivial, trivial⟩
  clear ST SR
  have S1 := hid (show Calls Try.prog 18 #[p] w2 fun e w' => e = .returned (.int .i64 (lnO o)) ∧ w' = w2 from by
    have h := TA2.out
    cases o with
    | none => unfold TN at h; subst h; exact stripes_nil w2
    | some S => obtain ⟨rfl, h⟩ := h; exact stripes_any w2 h)
  have S2 := hid (show Calls Try.prog 24 #[q] w2 fun e w' => e = .returned (.int .i64 (lnO o)) ∧ w' = w2 from by
    have h := TB2.out
    cases o with
    | none => unfold TN at h; subst h; exact rstripes_nil w2
    | some S => obtain ⟨rfl, h⟩ := h; exact rstripes_any w2 h)
  have z2 : (lnO o == lnO o) = true := by simp
  go_wp2_with (first
    | (go_at_call 18; refine S1.out.mono ?_; rintro e w3 ⟨rfl, rfl⟩)
    | (go_at_call 24; refine S2.out.mono ?_; rintro e w3 ⟨rfl, rfl⟩))
  go_loopw [9, 10] (fun vl vi wr => ∃ k : Nat, k ≤ 64 ∧ vi = .int .i64 (k : Int) ∧ OI wr w.heap.size vl (List.replicate k 0) ∧ TN T1 R1 wr w.heap.size d hb p o ∧ TN T2 R2 wr w.heap.size d' hb' q o ∧ Below w.heap.size w wr) (fun _ vi _ => 64 - (intOf vi).toNat)
  case atStart => exact ⟨0, Nat.zero_le _, rfl, OI.nil _ _, TA2.out, TB2.out, BB.out⟩
  case round =>
    obtain ⟨K, hk, rfl, hO, hA, hB, hW⟩ := hrel
    have HO := hid hO
    have HA := hid hA
    have HB := hid hB
    have HW := hid hW
    have hws := hW.size
    clear hO hA hB hW S1 S2 TA2 TB2 BB
    by_cases h : K < 64
    · have hI : (K : Int) < 64 := by omega
      go_wp2_with (at_builtin; refine wpList_appI rfl _ _ rfl w.heap.size _ (List.replicate K 0) rfl (HO.out.alloc _) _ [0] rfl (ri_one _ _) ?hlen ?hbase ?hnext)
      case hlen => simp; omega
      case hbase => simp; omega
      case hnext =>
        intro v' w' ho hg
        have A1 := HA.out.below ((Below.refl _ _).alloc (Nat.le_refl _) (.cells #[.int .i64 0] TI))
        have B1 := HB.out.below ((Below.refl _ _).alloc (Nat.le_refl _) (.cells #[.int .i64 0] TI))
        have HA1 := hid (A1.grown (HO.out.alloc _) hg (by decide) (by decide))
        have HB1 := hid (B1.grown (HO.out.alloc _) hg (by decide) (by decide))
        have HO1 := hid (show OI w' w.heap.size v' (List.replicate (K + 1) 0) from by rw [List.replicate_succ']; exact ho)
        have HW1 := hid ((HW.out.alloc hws (.cells #[.int .i64 0] TI)).grown hg (by simp; omega) (fun g e => HO.out.block_ge g e))
        clear ho hg A1 B1
        go_wp2
        go_roundw
        case rel => exact ⟨K + 1, by omega, by go_num, HO1.out, HA1.out, HB1.out, HW1.out⟩
        case measure => simp [intOf]; omega
    · have hI : ¬ (K : Int) < 64 := by omega
      have HK := hid (show K = 64 by omega)
      obtain ⟨g, cl, hvl, hcl, hgg, row, hrow, hrj⟩ := HO.out.lf (by omega)
      subst hvl
      have HPI := hid (show PI w wr p q d hb d' hb' g (fun _ => 0) none o o from ⟨HA.out, HB.out, hgg, ⟨row, hrow, fun j hj => hrj j (by rw [HK.out]; exact hj)⟩, (fun _ _ e => by cases e), HW.out⟩)
      have HBD := hid hbd
      clear HO HA HB HW hws hrow hrj hbd hgg hcl
      go_wp2
      clear hI h hk
      go_loopw [6, 8, 11, 12, 13, 14, 15, 16] (fun _ _ vi _ _ _ _ _ wr => ∃ (k : Nat) (LF : Nat → Int) (o : OS), k ≤ P.length ∧ vi = .int .i64 (k : Int) ∧ PI w wr p q d hb d' hb' g LF none o o ∧ bdO o (k : Int) ∧ lnO o ≤ 64 ∧ o.isSome = (!bn) ∧ ∀ j, j < 64 → 0 ≤ LF j ∧ LF j ≤ (k : Int)) (fun _ _ vi _ _ _ _ _ _ => P.length - (intOf vi).toNat)
      case atStart => exact ⟨0, _, o, Nat.zero_le _, rfl, HPI.out, HBD.out, hln, hbs, fun j _ => ⟨Int.le_refl _, by simp⟩⟩
      case round =>
        obtain ⟨k, LF, o2, hk, rfl, hPI, hbd, hln2, hbs2, hLF⟩ := hrel
        have HP := hid hPI
        have HBD := hid hbd
        have HLF := hid hLF
        have HSM := hid hbs2
        have HLN := hid hln2
        clear hPI hbd hLF hbs2 hln2 HPI hbs hln
        by_cases h : k < P.length
        · have hI : (k : Int) < (P.length : Int) := by omega
          obtain ⟨⟨bs, bt⟩, gs, off, hao, p0, p1, p2, p3⟩ := HC.out k h
          subst hao
          have p0 := below_cells HP.out.below _ _ p0
          have p1 := below_cells HP.out.below _ _ p1
          have p2 := below_cells HP.out.below _ _ p2
          have p3 := below_cells HP.out.below _ _ p3
          obtain ⟨y, hy⟩ : ∃ y, P[k] = y := ⟨_, rfl⟩
          rw [hy] at p0 p1 p2 p3 bs bt
          obtain ⟨kd, s, t, mine⟩ := y
          simp only at p0 p1 p2 p3 bs bt
          clear hy
          have DK : kd = 0 ∨ kd = 1 ∨ kd = 2 ∨ kd = 3 ∨ kd = 4 ∨ kd = 5 ∨ kd = 6 ∨ (kd ≠ 0 ∧ kd ≠ 1 ∧ kd ≠ 2 ∧ kd ≠ 3 ∧ kd ≠ 4 ∧ kd ≠ 5 ∧ kd ≠ 6) := by omega
          rcases DK with rfl | rfl | rfl | rfl | rfl | rfl | rfl | ⟨g0, g1, g2, g3, g4, g5, g6⟩
          · cases mine with
            | false =>
              as_aux_lemma =>
                have Pc := hid (HP.out.made #[.int .i64 0, .int .i64 (s), .int .i64 (t), .bool false])
                go_wp2_with fail
                refine Calls.mono (pticket_pi (s) Pc.out) ?_
                rintro e wa ⟨rfl, ha⟩
                have Pa := hid ha
                obtain ⟨c0, c1, c2, c3, c4⟩ := ha.call
                clear ha
                have ez : (tnO o2 (s) == tnO o2 (s)) = true := by simp
                have ez2 : (teO o2 (s) == teO o2 (s)) = true := by simp
                go_wp2_with fail
                refine Calls.mono (rticket_pi (s) Pa.out) ?_
                rintro e wb ⟨rfl, hq⟩
                have Pb := hid hq
                clear hq
                go_wp2
                go_roundw
                case rel => exact ⟨k + 1, LF, tkO o2 (s), by omega, by go_num, Pb.out.noC, HBD.out.tk (s), by rw [lnO_tk]; exact HLN.out, by rw [some_tk]; exact HSM.out, fun j hj => ⟨(HLF.out j hj).1, by have := (HLF.out j hj).2; omega⟩⟩
                case measure => simp [intOf]; omega
            | true =>
              have DD : ¬ 0 ≤ s ∨ (0 ≤ s ∧ ¬ s < 64) ∨ (0 ≤ s ∧ s < 64) := by omega
              rcases DD with hs0 | ⟨hs0, hs1⟩ | ⟨hs0, hs1⟩
              · as_aux_lemma =>
                  have Pc := hid (HP.out.made #[.int .i64 0, .int .i64 (s), .int .i64 (t), .bool true])
                  go_wp2_with fail
                  refine Calls.mono (pticket_pi (s) Pc.out) ?_
                  rintro e wa ⟨rfl, ha⟩
                  have Pa := hid ha
                  obtain ⟨c0, c1, c2, c3, c4⟩ := ha.call
                  clear ha
                  have ez : (tnO o2 (s) == tnO o2 (s)) = true := by simp
                  have ez2 : (teO o2 (s) == teO o2 (s)) = true := by simp
                  go_wp2_with fail
                  refine Calls.mono (rticket_pi (s) Pa.out) ?_
                  rintro e wb ⟨rfl, hq⟩
                  have Pb := hid hq
                  clear hq
                  go_wp2
                  go_roundw
                  case rel => exact ⟨k + 1, LF, tkO o2 (s), by omega, by go_num, Pb.out.noC, HBD.out.tk (s), by rw [lnO_tk]; exact HLN.out, by rw [some_tk]; exact HSM.out, fun j hj => ⟨(HLF.out j hj).1, by have := (HLF.out j hj).2; omega⟩⟩
                  case measure => simp [intOf]; omega

              · as_aux_lemma =>
                  have Pc := hid (HP.out.made #[.int .i64 0, .int .i64 (s), .int .i64 (t), .bool true])
                  go_wp2_with fail
                  refine Calls.mono (pticket_pi (s) Pc.out) ?_
                  rintro e wa ⟨rfl, ha⟩
                  have Pa := hid ha
                  obtain ⟨c0, c1, c2, c3, c4⟩ := ha.call
                  clear ha
                  have ez : (tnO o2 (s) == tnO o2 (s)) = true := by simp
                  have ez2 : (teO o2 (s) == teO o2 (s)) = true := by simp
                  go_wp2_with fail
                  refine Calls.mono (rticket_pi (s) Pa.out) ?_
                  rintro e wb ⟨rfl, hq⟩
                  have Pb := hid hq
                  clear hq
                  go_wp2
                  go_roundw
                  case rel => exact ⟨k + 1, LF, tkO o2 (s), by omega, by go_num, Pb.out.noC, HBD.out.tk (s), by rw [lnO_tk]; exact HLN.out, by rw [some_tk]; exact HSM.out, fun j hj => ⟨(HLF.out j hj).1, by have := (HLF.out j hj).2; omega⟩⟩
                  case measure => simp [intOf]; omega

              · obtain ⟨i, rfl⟩ : ∃ i : Nat, s = (i : Int) := ⟨s.toNat, by omega⟩
                have hi64 : i < 64 := by omega
                have hcl2 : (i : Int) < (K : Int) := by have := HK.out; omega
                have le1 : (wr.alloc (.cells #[.int .i64 0, .int .i64 (i : Int), .int .i64 t, .bool true] 52)).cell? ⟨g, i, none⟩ = some (.int .i64 (LF i)) := ((HP.out.made #[.int .i64 0, .int .i64 (i : Int), .int .i64 t, .bool true]).left i hi64).1
                generalize hLFi : LF i = tt at le1
                as_aux_lemma =>
                  have Pc := hid (HP.out.made #[.int .i64 0, .int .i64 ((i : Int)), .int .i64 (tt), .bool true])
                  go_wp2_with fail
                  refine Calls.mono (pticket_pi ((i : Int)) Pc.out) ?_
                  rintro e wa ⟨rfl, ha⟩
                  have Pa := hid ha
                  obtain ⟨c0, c1, c2, c3, c4⟩ := ha.call
                  clear ha
                  have ez : (tnO o2 ((i : Int)) == tnO o2 ((i : Int))) = true := by simp
                  have ez2 : (teO o2 ((i : Int)) == teO o2 ((i : Int))) = true := by simp
                  go_wp2_with fail
                  refine Calls.mono (rticket_pi ((i : Int)) Pa.out) ?_
                  rintro e wb ⟨rfl, hq⟩
                  have Pb := hid hq
                  clear hq
                  go_wp2
                  go_roundw
                  case rel => exact ⟨k + 1, LF, tkO o2 ((i : Int)), by omega, by go_num, Pb.out.noC, HBD.out.tk ((i : Int)), by rw [lnO_tk]; exact HLN.out, by rw [some_tk]; exact HSM.out, fun j hj => ⟨(HLF.out j hj).1, by have := (HLF.out j hj).2; omega⟩⟩
                  case measure => simp [intOf]; omega
          · cases mine with
            | false =>
              as_aux_lemma =>
                have Pc := hid (HP.out.made #[.int .i64 1, .int .i64 (s), .int .i64 (t), .bool false])
                have A00 := hid Pc.out.drew
                have HBQ := hid (show bdO o2 1000000000000000000 from HBD.out.mono (by omega))
                have ez : (svO o2 (s) (t) == svO o2 (s) (t)) = true := by simp
                have ez2 : (svO o2 (s) (t) != svO o2 (s) (t)) = false := by simp
                go_wp2_with fail
                go_region_held3 (fun w' => w'.cell? ⟨wr.heap.size, 1, none⟩ = some (.int .i64 (s)) ∧ w'.cell? ⟨wr.heap.size, 2, none⟩ = some (.int .i64 (t))) (first | exact ⟨Pc.out.call.2.1, Pc.out.call.2.2.1⟩ | exact ⟨A11.out.call.2.1, A11.out.call.2.2.1⟩ | exact ⟨A10.out.call.2.1, A10.out.call.2.2.1⟩ | exact ⟨A01.out.call.2.1, A01.out.call.2.2.1⟩ | exact ⟨A00.out.call.2.1, A00.out.call.2.2.1⟩) (first
                  | (go_at_call 12; first | (refine Calls.mono (pserved_pi (s) (t) A00.out) ?_; rintro e w5 ⟨rfl, h5⟩; have A10 := hid h5; clear h5) | (refine Calls.mono (pserved_pi (s) (t) A01.out) ?_; rintro e w6 ⟨rfl, h6⟩; have A11 := hid h6; clear h6))
                  | (go_at_call 26; first | (refine Calls.mono (rserved_pi (s) (t) A00.out) ?_; rintro e w5 ⟨rfl, h5⟩; have A01 := hid h5; clear h5) | (refine Calls.mono (rserved_pi (s) (t) A10.out) ?_; rintro e w6 ⟨rfl, h6⟩; have A11 := hid h6; clear h6)))
                all_goals
                  go_wp2
                  go_roundw
                  case rel => exact ⟨k + 1, LF, o2, by omega, by go_num, A11.out.noC, HBD.out.mono (by omega), HLN.out, HSM.out, fun j hj => ⟨(HLF.out j hj).1, by have := (HLF.out j hj).2; omega⟩⟩
                  case measure => simp [intOf]; omega
            | true =>
              have DD : ¬ 0 ≤ s ∨ (0 ≤ s ∧ ¬ s < 64) ∨ (0 ≤ s ∧ s < 64) := by omega
              rcases DD with hs0 | ⟨hs0, hs1⟩ | ⟨hs0, hs1⟩
              · as_aux_lemma =>
                  have Pc := hid (HP.out.made #[.int .i64 1, .int .i64 (s), .int .i64 (t), .bool true])
                  have A00 := hid Pc.out.drew
                  have HBQ := hid (show bdO o2 1000000000000000000 from HBD.out.mono (by omega))
                  have ez : (svO o2 (s) (t) == svO o2 (s) (t)) = true := by simp
                  have ez2 : (svO o2 (s) (t) != svO o2 (s) (t)) = false := by simp
                  go_wp2_with fail
                  go_region_held3 (fun w' => w'.cell? ⟨wr.heap.size, 1, none⟩ = some (.int .i64 (s)) ∧ w'.cell? ⟨wr.heap.size, 2, none⟩ = some (.int .i64 (t))) (first | exact ⟨Pc.out.call.2.1, Pc.out.call.2.2.1⟩ | exact ⟨A11.out.call.2.1, A11.out.call.2.2.1⟩ | exact ⟨A10.out.call.2.1, A10.out.call.2.2.1⟩ | exact ⟨A01.out.call.2.1, A01.out.call.2.2.1⟩ | exact ⟨A00.out.call.2.1, A00.out.call.2.2.1⟩) (first
                    | (go_at_call 12; first | (refine Calls.mono (pserved_pi (s) (t) A00.out) ?_; rintro e w5 ⟨rfl, h5⟩; have A10 := hid h5; clear h5) | (refine Calls.mono (pserved_pi (s) (t) A01.out) ?_; rintro e w6 ⟨rfl, h6⟩; have A11 := hid h6; clear h6))
                    | (go_at_call 26; first | (refine Calls.mono (rserved_pi (s) (t) A00.out) ?_; rintro e w5 ⟨rfl, h5⟩; have A01 := hid h5; clear h5) | (refine Calls.mono (rserved_pi (s) (t) A10.out) ?_; rintro e w6 ⟨rfl, h6⟩; have A11 := hid h6; clear h6)))
                  all_goals
                    go_wp2
                    go_roundw
                    case rel => exact ⟨k + 1, LF, o2, by omega, by go_num, A11.out.noC, HBD.out.mono (by omega), HLN.out, HSM.out, fun j hj => ⟨(HLF.out j hj).1, by have := (HLF.out j hj).2; omega⟩⟩
                    case measure => simp [intOf]; omega

              · as_aux_lemma =>
                  have Pc := hid (HP.out.made #[.int .i64 1, .int .i64 (s), .int .i64 (t), .bool true])
                  have A00 := hid Pc.out.drew
                  have HBQ := hid (show bdO o2 1000000000000000000 from HBD.out.mono (by omega))
                  have ez : (svO o2 (s) (t) == svO o2 (s) (t)) = true := by simp
                  have ez2 : (svO o2 (s) (t) != svO o2 (s) (t)) = false := by simp
                  go_wp2_with fail
                  go_region_held3 (fun w' => w'.cell? ⟨wr.heap.size, 1, none⟩ = some (.int .i64 (s)) ∧ w'.cell? ⟨wr.heap.size, 2, none⟩ = some (.int .i64 (t))) (first | exact ⟨Pc.out.call.2.1, Pc.out.call.2.2.1⟩ | exact ⟨A11.out.call.2.1, A11.out.call.2.2.1⟩ | exact ⟨A10.out.call.2.1, A10.out.call.2.2.1⟩ | exact ⟨A01.out.call.2.1, A01.out.call.2.2.1⟩ | exact ⟨A00.out.call.2.1, A00.out.call.2.2.1⟩) (first
                    | (go_at_call 12; first | (refine Calls.mono (pserved_pi (s) (t) A00.out) ?_; rintro e w5 ⟨rfl, h5⟩; have A10 := hid h5; clear h5) | (refine Calls.mono (pserved_pi (s) (t) A01.out) ?_; rintro e w6 ⟨rfl, h6⟩; have A11 := hid h6; clear h6))
                    | (go_at_call 26; first | (refine Calls.mono (rserved_pi (s) (t) A00.out) ?_; rintro e w5 ⟨rfl, h5⟩; have A01 := hid h5; clear h5) | (refine Calls.mono (rserved_pi (s) (t) A10.out) ?_; rintro e w6 ⟨rfl, h6⟩; have A11 := hid h6; clear h6)))
                  all_goals
                    go_wp2
                    go_roundw
                    case rel => exact ⟨k + 1, LF, o2, by omega, by go_num, A11.out.noC, HBD.out.mono (by omega), HLN.out, HSM.out, fun j hj => ⟨(HLF.out j hj).1, by have := (HLF.out j hj).2; omega⟩⟩
                    case measure => simp [intOf]; omega

              · obtain ⟨i, rfl⟩ : ∃ i : Nat, s = (i : Int) := ⟨s.toNat, by omega⟩
                have hi64 : i < 64 := by omega
                have hcl2 : (i : Int) < (K : Int) := by have := HK.out; omega
                have le1 : (wr.alloc (.cells #[.int .i64 1, .int .i64 (i : Int), .int .i64 t, .bool true] 52)).cell? ⟨g, i, none⟩ = some (.int .i64 (LF i)) := ((HP.out.made #[.int .i64 1, .int .i64 (i : Int), .int .i64 t, .bool true]).left i hi64).1
                generalize hLFi : LF i = tt at le1
                as_aux_lemma =>
                  have Pc := hid (HP.out.made #[.int .i64 1, .int .i64 ((i : Int)), .int .i64 (tt), .bool true])
                  have A00 := hid Pc.out.drew
                  have HBQ := hid (show bdO o2 1000000000000000000 from HBD.out.mono (by omega))
                  have ez : (svO o2 ((i : Int)) (tt) == svO o2 ((i : Int)) (tt)) = true := by simp
                  have ez2 : (svO o2 ((i : Int)) (tt) != svO o2 ((i : Int)) (tt)) = false := by simp
                  go_wp2_with fail
                  go_region_held3 (fun w' => w'.cell? ⟨wr.heap.size, 1, none⟩ = some (.int .i64 ((i : Int))) ∧ w'.cell? ⟨wr.heap.size, 2, none⟩ = some (.int .i64 (tt))) (first | exact ⟨Pc.out.call.2.1, Pc.out.call.2.2.1⟩ | exact ⟨A11.out.call.2.1, A11.out.call.2.2.1⟩ | exact ⟨A10.out.call.2.1, A10.out.call.2.2.1⟩ | exact ⟨A01.out.call.2.1, A01.out.call.2.2.1⟩ | exact ⟨A00.out.call.2.1, A00.out.call.2.2.1⟩) (first
                    | (go_at_call 12; first | (refine Calls.mono (pserved_pi ((i : Int)) (tt) A00.out) ?_; rintro e w5 ⟨rfl, h5⟩; have A10 := hid h5; clear h5) | (refine Calls.mono (pserved_pi ((i : Int)) (tt) A01.out) ?_; rintro e w6 ⟨rfl, h6⟩; have A11 := hid h6; clear h6))
                    | (go_at_call 26; first | (refine Calls.mono (rserved_pi ((i : Int)) (tt) A00.out) ?_; rintro e w5 ⟨rfl, h5⟩; have A01 := hid h5; clear h5) | (refine Calls.mono (rserved_pi ((i : Int)) (tt) A10.out) ?_; rintro e w6 ⟨rfl, h6⟩; have A11 := hid h6; clear h6)))
                  all_goals
                    go_wp2
                    go_roundw
                    case rel => exact ⟨k + 1, LF, o2, by omega, by go_num, A11.out.noC, HBD.out.mono (by omega), HLN.out, HSM.out, fun j hj => ⟨(HLF.out j hj).1, by have := (HLF.out j hj).2; omega⟩⟩
                    case measure => simp [intOf]; omega
          · cases mine with
            | false =>
              as_aux_lemma =>
                have Pc := hid (HP.out.made #[.int .i64 2, .int .i64 (s), .int .i64 (t), .bool false])
                go_wp2_with fail
                refine Calls.mono (pleave_pi (s) (t) Pc.out) ?_
                rintro e wa ⟨rfl, ha⟩
                have Pa := hid ha
                obtain ⟨c0, c1, c2, c3, c4⟩ := ha.call
                clear ha
                have ez : (hoO o2 (s) (t) 0 == hoO o2 (s) (t) 0) = true := by simp
                go_wp2_with fail
                refine Calls.mono (rleave_pi (s) (t) Pa.out) ?_
                rintro e wb ⟨rfl, hq⟩
                have Pb := hid hq
                obtain ⟨d0, d1, d2, d3, d4⟩ := hq.call
                clear hq
                cases bn with
                | true =>
                  go_wp2
                  go_roundw
                  case rel => exact ⟨k + 1, LF, lvO o2 (s) (t), by omega, by go_num, Pb.out.noC, HBD.out.lv (s) (t), by rw [lnO_lv]; exact HLN.out, by rw [some_lv]; exact HSM.out, fun j hj => ⟨(HLF.out j hj).1, by have := (HLF.out j hj).2; omega⟩⟩
                  case measure => simp [intOf]; omega
                | false =>
                  by_cases he : hoO o2 (s) (t) 0 = 0
                  · have heb : (hoO o2 (s) (t) 0 == 0) = true := by simp [he]
                    have hs64 := hoO_ok (by rw [HSM.out]; rfl) he HLN.out
                    clear he
                    obtain ⟨i, rfl⟩ : ∃ i : Nat, s = (i : Int) := ⟨s.toNat, by omega⟩
                    have hii : i < 64 := by omega
                    have hii2 : (i : Int) < (K : Int) := by have := HK.out; omega
                    obtain ⟨l1, l2⟩ := Pb.out.left i hii
                    obtain ⟨b1, b2⟩ := HLF.out i hii
                    have Pd := hid (Pb.out.lset i)
                    generalize hLi : LF i = li at l1 b1 b2 Pd
                    go_wp2
                    go_roundw
                    case rel => exact ⟨k + 1, lfs LF i, lvO o2 ((i : Int)) (t), by omega, by go_num, Pd.out.noC, HBD.out.lv ((i : Int)) (t), by rw [lnO_lv]; exact HLN.out, by rw [some_lv]; exact HSM.out, fun j hj => by have h1 := HLF.out j hj; unfold lfs; split <;> first | (rw [hLi]; omega) | omega⟩
                    case measure => simp [intOf]; omega
                  · have heb : (hoO o2 (s) (t) 0 == 0) = false := by simp [he]
                    clear he
                    go_wp2
                    go_roundw
                    case rel => exact ⟨k + 1, LF, lvO o2 (s) (t), by omega, by go_num, Pb.out.noC, HBD.out.lv (s) (t), by rw [lnO_lv]; exact HLN.out, by rw [some_lv]; exact HSM.out, fun j hj => ⟨(HLF.out j hj).1, by have := (HLF.out j hj).2; omega⟩⟩
                    case measure => simp [intOf]; omega
            | true =>
              have DD : ¬ 0 ≤ s ∨ (0 ≤ s ∧ ¬ s < 64) ∨ (0 ≤ s ∧ s < 64) := by omega
              rcases DD with hs0 | ⟨hs0, hs1⟩ | ⟨hs0, hs1⟩
              · as_aux_lemma =>
                  have Pc := hid (HP.out.made #[.int .i64 2, .int .i64 (s), .int .i64 (t), .bool true])
                  go_wp2_with fail
                  refine Calls.mono (pleave_pi (s) (t) Pc.out) ?_
                  rintro e wa ⟨rfl, ha⟩
                  have Pa := hid ha
                  obtain ⟨c0, c1, c2, c3, c4⟩ := ha.call
                  clear ha
                  have ez : (hoO o2 (s) (t) 0 == hoO o2 (s) (t) 0) = true := by simp
                  go_wp2_with fail
                  refine Calls.mono (rleave_pi (s) (t) Pa.out) ?_
                  rintro e wb ⟨rfl, hq⟩
                  have Pb := hid hq
                  obtain ⟨d0, d1, d2, d3, d4⟩ := hq.call
                  clear hq
                  cases bn with
                  | true =>
                    go_wp2
                    go_roundw
                    case rel => exact ⟨k + 1, LF, lvO o2 (s) (t), by omega, by go_num, Pb.out.noC, HBD.out.lv (s) (t), by rw [lnO_lv]; exact HLN.out, by rw [some_lv]; exact HSM.out, fun j hj => ⟨(HLF.out j hj).1, by have := (HLF.out j hj).2; omega⟩⟩
                    case measure => simp [intOf]; omega
                  | false =>
                    by_cases he : hoO o2 (s) (t) 0 = 0
                    · have heb : (hoO o2 (s) (t) 0 == 0) = true := by simp [he]
                      have hs64 := hoO_ok (by rw [HSM.out]; rfl) he HLN.out
                      exact absurd hs64 (by omega)
                    · have heb : (hoO o2 (s) (t) 0 == 0) = false := by simp [he]
                      clear he
                      go_wp2
                      go_roundw
                      case rel => exact ⟨k + 1, LF, lvO o2 (s) (t), by omega, by go_num, Pb.out.noC, HBD.out.lv (s) (t), by rw [lnO_lv]; exact HLN.out, by rw [some_lv]; exact HSM.out, fun j hj => ⟨(HLF.out j hj).1, by have := (HLF.out j hj).2; omega⟩⟩
                      case measure => simp [intOf]; omega

              · as_aux_lemma =>
                  have Pc := hid (HP.out.made #[.int .i64 2, .int .i64 (s), .int .i64 (t), .bool true])
                  go_wp2_with fail
                  refine Calls.mono (pleave_pi (s) (t) Pc.out) ?_
                  rintro e wa ⟨rfl, ha⟩
                  have Pa := hid ha
                  obtain ⟨c0, c1, c2, c3, c4⟩ := ha.call
                  clear ha
                  have ez : (hoO o2 (s) (t) 0 == hoO o2 (s) (t) 0) = true := by simp
                  go_wp2_with fail
                  refine Calls.mono (rleave_pi (s) (t) Pa.out) ?_
                  rintro e wb ⟨rfl, hq⟩
                  have Pb := hid hq
                  obtain ⟨d0, d1, d2, d3, d4⟩ := hq.call
                  clear hq
                  cases bn with
                  | true =>
                    go_wp2
                    go_roundw
                    case rel => exact ⟨k + 1, LF, lvO o2 (s) (t), by omega, by go_num, Pb.out.noC, HBD.out.lv (s) (t), by rw [lnO_lv]; exact HLN.out, by rw [some_lv]; exact HSM.out, fun j hj => ⟨(HLF.out j hj).1, by have := (HLF.out j hj).2; omega⟩⟩
                    case measure => simp [intOf]; omega
                  | false =>
                    by_cases he : hoO o2 (s) (t) 0 = 0
                    · have heb : (hoO o2 (s) (t) 0 == 0) = true := by simp [he]
                      have hs64 := hoO_ok (by rw [HSM.out]; rfl) he HLN.out
                      exact absurd hs64 (by omega)
                    · have heb : (hoO o2 (s) (t) 0 == 0) = false := by simp [he]
                      clear he
                      go_wp2
                      go_roundw
                      case rel => exact ⟨k + 1, LF, lvO o2 (s) (t), by omega, by go_num, Pb.out.noC, HBD.out.lv (s) (t), by rw [lnO_lv]; exact HLN.out, by rw [some_lv]; exact HSM.out, fun j hj => ⟨(HLF.out j hj).1, by have := (HLF.out j hj).2; omega⟩⟩
                      case measure => simp [intOf]; omega

              · obtain ⟨i, rfl⟩ : ∃ i : Nat, s = (i : Int) := ⟨s.toNat, by omega⟩
                have hi64 : i < 64 := by omega
                have hcl2 : (i : Int) < (K : Int) := by have := HK.out; omega
                have le1 : (wr.alloc (.cells #[.int .i64 2, .int .i64 (i : Int), .int .i64 t, .bool true] 52)).cell? ⟨g, i, none⟩ = some (.int .i64 (LF i)) := ((HP.out.made #[.int .i64 2, .int .i64 (i : Int), .int .i64 t, .bool true]).left i hi64).1
                generalize hLFi : LF i = tt at le1
                as_aux_lemma =>
                  have Pc := hid (HP.out.made #[.int .i64 2, .int .i64 ((i : Int)), .int .i64 (tt), .bool true])
                  go_wp2_with fail
                  refine Calls.mono (pleave_pi ((i : Int)) (tt) Pc.out) ?_
                  rintro e wa ⟨rfl, ha⟩
                  have Pa := hid ha
                  obtain ⟨c0, c1, c2, c3, c4⟩ := ha.call
                  clear ha
                  have ez : (hoO o2 ((i : Int)) (tt) 0 == hoO o2 ((i : Int)) (tt) 0) = true := by simp
                  go_wp2_with fail
                  refine Calls.mono (rleave_pi ((i : Int)) (tt) Pa.out) ?_
                  rintro e wb ⟨rfl, hq⟩
                  have Pb := hid hq
                  obtain ⟨d0, d1, d2, d3, d4⟩ := hq.call
                  clear hq
                  cases bn with
                  | true =>
                    go_wp2
                    go_roundw
                    case rel => exact ⟨k + 1, LF, lvO o2 ((i : Int)) (tt), by omega, by go_num, Pb.out.noC, HBD.out.lv ((i : Int)) (tt), by rw [lnO_lv]; exact HLN.out, by rw [some_lv]; exact HSM.out, fun j hj => ⟨(HLF.out j hj).1, by have := (HLF.out j hj).2; omega⟩⟩
                    case measure => simp [intOf]; omega
                  | false =>
                    by_cases he : hoO o2 ((i : Int)) (tt) 0 = 0
                    · have heb : (hoO o2 ((i : Int)) (tt) 0 == 0) = true := by simp [he]
                      have hs64 := hoO_ok (by rw [HSM.out]; rfl) he HLN.out
                      clear he
                      have hii : i < 64 := by omega
                      have hii2 : (i : Int) < (K : Int) := by have := HK.out; omega
                      obtain ⟨l1, l2⟩ := Pb.out.left i hii
                      obtain ⟨b1, b2⟩ := HLF.out i hii
                      have Pd := hid (Pb.out.lset i)
                      generalize hLi : LF i = li at l1 b1 b2 Pd
                      go_wp2
                      go_roundw
                      case rel => exact ⟨k + 1, lfs LF i, lvO o2 ((i : Int)) (tt), by omega, by go_num, Pd.out.noC, HBD.out.lv ((i : Int)) (tt), by rw [lnO_lv]; exact HLN.out, by rw [some_lv]; exact HSM.out, fun j hj => by have h1 := HLF.out j hj; unfold lfs; split <;> first | (rw [hLi]; omega) | omega⟩
                      case measure => simp [intOf]; omega
                    · have heb : (hoO o2 ((i : Int)) (tt) 0 == 0) = false := by simp [he]
                      clear he
                      go_wp2
                      go_roundw
                      case rel => exact ⟨k + 1, LF, lvO o2 ((i : Int)) (tt), by omega, by go_num, Pb.out.noC, HBD.out.lv ((i : Int)) (tt), by rw [lnO_lv]; exact HLN.out, by rw [some_lv]; exact HSM.out, fun j hj => ⟨(HLF.out j hj).1, by have := (HLF.out j hj).2; omega⟩⟩
                      case measure => simp [intOf]; omega
          · cases mine with
            | false =>
              as_aux_lemma =>
                have Pc := hid (HP.out.made #[.int .i64 3, .int .i64 (s), .int .i64 (t), .bool false])
                have A00 := hid Pc.out.drew
                have HBQ := hid (show bdO o2 1000000000000000000 from HBD.out.mono (by omega))
                have ez : (hoO o2 (s) (t) 0 == hoO o2 (s) (t) 0) = true := by simp
                have ez2 : (hoO o2 (s) (t) 0 != hoO o2 (s) (t) 0) = false := by simp
                go_wp2_with fail
                go_region_held3 (fun w' => w'.cell? ⟨wr.heap.size, 1, none⟩ = some (.int .i64 (s)) ∧ w'.cell? ⟨wr.heap.size, 2, none⟩ = some (.int .i64 (t))) (first | exact ⟨Pc.out.call.2.1, Pc.out.call.2.2.1⟩ | exact ⟨A11.out.call.2.1, A11.out.call.2.2.1⟩ | exact ⟨A10.out.call.2.1, A10.out.call.2.2.1⟩ | exact ⟨A01.out.call.2.1, A01.out.call.2.2.1⟩ | exact ⟨A00.out.call.2.1, A00.out.call.2.2.1⟩) (first
                  | (go_at_call 14; first | (refine Calls.mono (podd_pi (s) (t) A00.out HBQ.out) ?_; rintro e w5 ⟨rfl, h5⟩; have A10 := hid h5; clear h5) | (refine Calls.mono (podd_pi (s) (t) A01.out HBQ.out) ?_; rintro e w6 ⟨rfl, h6⟩; have A11 := hid h6; clear h6))
                  | (go_at_call 28; first | (refine Calls.mono (rodd_pi (s) (t) A00.out HBQ.out) ?_; rintro e w5 ⟨rfl, h5⟩; have A01 := hid h5; clear h5) | (refine Calls.mono (rodd_pi (s) (t) A10.out HBQ.out) ?_; rintro e w6 ⟨rfl, h6⟩; have A11 := hid h6; clear h6)))
                all_goals
                  go_wp2
                  go_roundw
                  case rel => exact ⟨k + 1, LF, ctO o2 (s) (t) 0, by omega, by go_num, A11.out.noC, HBD.out.ct (s) (t) 0, by rw [lnO_ct]; exact HLN.out, by rw [some_ct]; exact HSM.out, fun j hj => ⟨(HLF.out j hj).1, by have := (HLF.out j hj).2; omega⟩⟩
                  case measure => simp [intOf]; omega
            | true =>
              have DD : ¬ 0 ≤ s ∨ (0 ≤ s ∧ ¬ s < 64) ∨ (0 ≤ s ∧ s < 64) := by omega
              rcases DD with hs0 | ⟨hs0, hs1⟩ | ⟨hs0, hs1⟩
              · as_aux_lemma =>
                  have Pc := hid (HP.out.made #[.int .i64 3, .int .i64 (s), .int .i64 (t), .bool true])
                  have A00 := hid Pc.out.drew
                  have HBQ := hid (show bdO o2 1000000000000000000 from HBD.out.mono (by omega))
                  have ez : (hoO o2 (s) (t) 0 == hoO o2 (s) (t) 0) = true := by simp
                  have ez2 : (hoO o2 (s) (t) 0 != hoO o2 (s) (t) 0) = false := by simp
                  go_wp2_with fail
                  go_region_held3 (fun w' => w'.cell? ⟨wr.heap.size, 1, none⟩ = some (.int .i64 (s)) ∧ w'.cell? ⟨wr.heap.size, 2, none⟩ = some (.int .i64 (t))) (first | exact ⟨Pc.out.call.2.1, Pc.out.call.2.2.1⟩ | exact ⟨A11.out.call.2.1, A11.out.call.2.2.1⟩ | exact ⟨A10.out.call.2.1, A10.out.call.2.2.1⟩ | exact ⟨A01.out.call.2.1, A01.out.call.2.2.1⟩ | exact ⟨A00.out.call.2.1, A00.out.call.2.2.1⟩) (first
                    | (go_at_call 14; first | (refine Calls.mono (podd_pi (s) (t) A00.out HBQ.out) ?_; rintro e w5 ⟨rfl, h5⟩; have A10 := hid h5; clear h5) | (refine Calls.mono (podd_pi (s) (t) A01.out HBQ.out) ?_; rintro e w6 ⟨rfl, h6⟩; have A11 := hid h6; clear h6))
                    | (go_at_call 28; first | (refine Calls.mono (rodd_pi (s) (t) A00.out HBQ.out) ?_; rintro e w5 ⟨rfl, h5⟩; have A01 := hid h5; clear h5) | (refine Calls.mono (rodd_pi (s) (t) A10.out HBQ.out) ?_; rintro e w6 ⟨rfl, h6⟩; have A11 := hid h6; clear h6)))
                  all_goals
                    go_wp2
                    go_roundw
                    case rel => exact ⟨k + 1, LF, ctO o2 (s) (t) 0, by omega, by go_num, A11.out.noC, HBD.out.ct (s) (t) 0, by rw [lnO_ct]; exact HLN.out, by rw [some_ct]; exact HSM.out, fun j hj => ⟨(HLF.out j hj).1, by have := (HLF.out j hj).2; omega⟩⟩
                    case measure => simp [intOf]; omega

              · as_aux_lemma =>
                  have Pc := hid (HP.out.made #[.int .i64 3, .int .i64 (s), .int .i64 (t), .bool true])
                  have A00 := hid Pc.out.drew
                  have HBQ := hid (show bdO o2 1000000000000000000 from HBD.out.mono (by omega))
                  have ez : (hoO o2 (s) (t) 0 == hoO o2 (s) (t) 0) = true := by simp
                  have ez2 : (hoO o2 (s) (t) 0 != hoO o2 (s) (t) 0) = false := by simp
                  go_wp2_with fail
                  go_region_held3 (fun w' => w'.cell? ⟨wr.heap.size, 1, none⟩ = some (.int .i64 (s)) ∧ w'.cell? ⟨wr.heap.size, 2, none⟩ = some (.int .i64 (t))) (first | exact ⟨Pc.out.call.2.1, Pc.out.call.2.2.1⟩ | exact ⟨A11.out.call.2.1, A11.out.call.2.2.1⟩ | exact ⟨A10.out.call.2.1, A10.out.call.2.2.1⟩ | exact ⟨A01.out.call.2.1, A01.out.call.2.2.1⟩ | exact ⟨A00.out.call.2.1, A00.out.call.2.2.1⟩) (first
                    | (go_at_call 14; first | (refine Calls.mono (podd_pi (s) (t) A00.out HBQ.out) ?_; rintro e w5 ⟨rfl, h5⟩; have A10 := hid h5; clear h5) | (refine Calls.mono (podd_pi (s) (t) A01.out HBQ.out) ?_; rintro e w6 ⟨rfl, h6⟩; have A11 := hid h6; clear h6))
                    | (go_at_call 28; first | (refine Calls.mono (rodd_pi (s) (t) A00.out HBQ.out) ?_; rintro e w5 ⟨rfl, h5⟩; have A01 := hid h5; clear h5) | (refine Calls.mono (rodd_pi (s) (t) A10.out HBQ.out) ?_; rintro e w6 ⟨rfl, h6⟩; have A11 := hid h6; clear h6)))
                  all_goals
                    go_wp2
                    go_roundw
                    case rel => exact ⟨k + 1, LF, ctO o2 (s) (t) 0, by omega, by go_num, A11.out.noC, HBD.out.ct (s) (t) 0, by rw [lnO_ct]; exact HLN.out, by rw [some_ct]; exact HSM.out, fun j hj => ⟨(HLF.out j hj).1, by have := (HLF.out j hj).2; omega⟩⟩
                    case measure => simp [intOf]; omega

              · obtain ⟨i, rfl⟩ : ∃ i : Nat, s = (i : Int) := ⟨s.toNat, by omega⟩
                have hi64 : i < 64 := by omega
                have hcl2 : (i : Int) < (K : Int) := by have := HK.out; omega
                have le1 : (wr.alloc (.cells #[.int .i64 3, .int .i64 (i : Int), .int .i64 t, .bool true] 52)).cell? ⟨g, i, none⟩ = some (.int .i64 (LF i)) := ((HP.out.made #[.int .i64 3, .int .i64 (i : Int), .int .i64 t, .bool true]).left i hi64).1
                generalize hLFi : LF i = tt at le1
                as_aux_lemma =>
                  have Pc := hid (HP.out.made #[.int .i64 3, .int .i64 ((i : Int)), .int .i64 (tt), .bool true])
                  have A00 := hid Pc.out.drew
                  have HBQ := hid (show bdO o2 1000000000000000000 from HBD.out.mono (by omega))
                  have ez : (hoO o2 ((i : Int)) (tt) 0 == hoO o2 ((i : Int)) (tt) 0) = true := by simp
                  have ez2 : (hoO o2 ((i : Int)) (tt) 0 != hoO o2 ((i : Int)) (tt) 0) = false := by simp
                  go_wp2_with fail
                  go_region_held3 (fun w' => w'.cell? ⟨wr.heap.size, 1, none⟩ = some (.int .i64 ((i : Int))) ∧ w'.cell? ⟨wr.heap.size, 2, none⟩ = some (.int .i64 (tt))) (first | exact ⟨Pc.out.call.2.1, Pc.out.call.2.2.1⟩ | exact ⟨A11.out.call.2.1, A11.out.call.2.2.1⟩ | exact ⟨A10.out.call.2.1, A10.out.call.2.2.1⟩ | exact ⟨A01.out.call.2.1, A01.out.call.2.2.1⟩ | exact ⟨A00.out.call.2.1, A00.out.call.2.2.1⟩) (first
                    | (go_at_call 14; first | (refine Calls.mono (podd_pi ((i : Int)) (tt) A00.out HBQ.out) ?_; rintro e w5 ⟨rfl, h5⟩; have A10 := hid h5; clear h5) | (refine Calls.mono (podd_pi ((i : Int)) (tt) A01.out HBQ.out) ?_; rintro e w6 ⟨rfl, h6⟩; have A11 := hid h6; clear h6))
                    | (go_at_call 28; first | (refine Calls.mono (rodd_pi ((i : Int)) (tt) A00.out HBQ.out) ?_; rintro e w5 ⟨rfl, h5⟩; have A01 := hid h5; clear h5) | (refine Calls.mono (rodd_pi ((i : Int)) (tt) A10.out HBQ.out) ?_; rintro e w6 ⟨rfl, h6⟩; have A11 := hid h6; clear h6)))
                  all_goals
                    go_wp2
                    go_roundw
                    case rel => exact ⟨k + 1, LF, ctO o2 ((i : Int)) (tt) 0, by omega, by go_num, A11.out.noC, HBD.out.ct ((i : Int)) (tt) 0, by rw [lnO_ct]; exact HLN.out, by rw [some_ct]; exact HSM.out, fun j hj => ⟨(HLF.out j hj).1, by have := (HLF.out j hj).2; omega⟩⟩
                    case measure => simp [intOf]; omega
          · cases mine with
            | false =>
              as_aux_lemma =>
                have Pc := hid (HP.out.made #[.int .i64 4, .int .i64 (s), .int .i64 (t), .bool false])
                have A00 := hid Pc.out.drew
                have HBQ := hid (show bdO o2 1000000000000000000 from HBD.out.mono (by omega))
                have ez : (hoO o2 (s) (t) 1 == hoO o2 (s) (t) 1) = true := by simp
                have ez2 : (hoO o2 (s) (t) 1 != hoO o2 (s) (t) 1) = false := by simp
                go_wp2_with fail
                go_region_held3 (fun w' => w'.cell? ⟨wr.heap.size, 1, none⟩ = some (.int .i64 (s)) ∧ w'.cell? ⟨wr.heap.size, 2, none⟩ = some (.int .i64 (t))) (first | exact ⟨Pc.out.call.2.1, Pc.out.call.2.2.1⟩ | exact ⟨A11.out.call.2.1, A11.out.call.2.2.1⟩ | exact ⟨A10.out.call.2.1, A10.out.call.2.2.1⟩ | exact ⟨A01.out.call.2.1, A01.out.call.2.2.1⟩ | exact ⟨A00.out.call.2.1, A00.out.call.2.2.1⟩) (first
                  | (go_at_call 15; first | (refine Calls.mono (peven_pi (s) (t) A00.out HBQ.out) ?_; rintro e w5 ⟨rfl, h5⟩; have A10 := hid h5; clear h5) | (refine Calls.mono (peven_pi (s) (t) A01.out HBQ.out) ?_; rintro e w6 ⟨rfl, h6⟩; have A11 := hid h6; clear h6))
                  | (go_at_call 29; first | (refine Calls.mono (reven_pi (s) (t) A00.out HBQ.out) ?_; rintro e w5 ⟨rfl, h5⟩; have A01 := hid h5; clear h5) | (refine Calls.mono (reven_pi (s) (t) A10.out HBQ.out) ?_; rintro e w6 ⟨rfl, h6⟩; have A11 := hid h6; clear h6)))
                all_goals
                  go_wp2
                  go_roundw
                  case rel => exact ⟨k + 1, LF, ctO o2 (s) (t) 1, by omega, by go_num, A11.out.noC, HBD.out.ct (s) (t) 1, by rw [lnO_ct]; exact HLN.out, by rw [some_ct]; exact HSM.out, fun j hj => ⟨(HLF.out j hj).1, by have := (HLF.out j hj).2; omega⟩⟩
                  case measure => simp [intOf]; omega
            | true =>
              have DD : ¬ 0 ≤ s ∨ (0 ≤ s ∧ ¬ s < 64) ∨ (0 ≤ s ∧ s < 64) := by omega
              rcases DD with hs0 | ⟨hs0, hs1⟩ | ⟨hs0, hs1⟩
              · as_aux_lemma =>
                  have Pc := hid (HP.out.made #[.int .i64 4, .int .i64 (s), .int .i64 (t), .bool true])
                  have A00 := hid Pc.out.drew
                  have HBQ := hid (show bdO o2 1000000000000000000 from HBD.out.mono (by omega))
                  have ez : (hoO o2 (s) (t) 1 == hoO o2 (s) (t) 1) = true := by simp
                  have ez2 : (hoO o2 (s) (t) 1 != hoO o2 (s) (t) 1) = false := by simp
                  go_wp2_with fail
                  go_region_held3 (fun w' => w'.cell? ⟨wr.heap.size, 1, none⟩ = some (.int .i64 (s)) ∧ w'.cell? ⟨wr.heap.size, 2, none⟩ = some (.int .i64 (t))) (first | exact ⟨Pc.out.call.2.1, Pc.out.call.2.2.1⟩ | exact ⟨A11.out.call.2.1, A11.out.call.2.2.1⟩ | exact ⟨A10.out.call.2.1, A10.out.call.2.2.1⟩ | exact ⟨A01.out.call.2.1, A01.out.call.2.2.1⟩ | exact ⟨A00.out.call.2.1, A00.out.call.2.2.1⟩) (first
                    | (go_at_call 15; first | (refine Calls.mono (peven_pi (s) (t) A00.out HBQ.out) ?_; rintro e w5 ⟨rfl, h5⟩; have A10 := hid h5; clear h5) | (refine Calls.mono (peven_pi (s) (t) A01.out HBQ.out) ?_; rintro e w6 ⟨rfl, h6⟩; have A11 := hid h6; clear h6))
                    | (go_at_call 29; first | (refine Calls.mono (reven_pi (s) (t) A00.out HBQ.out) ?_; rintro e w5 ⟨rfl, h5⟩; have A01 := hid h5; clear h5) | (refine Calls.mono (reven_pi (s) (t) A10.out HBQ.out) ?_; rintro e w6 ⟨rfl, h6⟩; have A11 := hid h6; clear h6)))
                  all_goals
                    go_wp2
                    go_roundw
                    case rel => exact ⟨k + 1, LF, ctO o2 (s) (t) 1, by omega, by go_num, A11.out.noC, HBD.out.ct (s) (t) 1, by rw [lnO_ct]; exact HLN.out, by rw [some_ct]; exact HSM.out, fun j hj => ⟨(HLF.out j hj).1, by have := (HLF.out j hj).2; omega⟩⟩
                    case measure => simp [intOf]; omega

              · as_aux_lemma =>
                  have Pc := hid (HP.out.made #[.int .i64 4, .int .i64 (s), .int .i64 (t), .bool true])
                  have A00 := hid Pc.out.drew
                  have HBQ := hid (show bdO o2 1000000000000000000 from HBD.out.mono (by omega))
                  have ez : (hoO o2 (s) (t) 1 == hoO o2 (s) (t) 1) = true := by simp
                  have ez2 : (hoO o2 (s) (t) 1 != hoO o2 (s) (t) 1) = false := by simp
                  go_wp2_with fail
                  go_region_held3 (fun w' => w'.cell? ⟨wr.heap.size, 1, none⟩ = some (.int .i64 (s)) ∧ w'.cell? ⟨wr.heap.size, 2, none⟩ = some (.int .i64 (t))) (first | exact ⟨Pc.out.call.2.1, Pc.out.call.2.2.1⟩ | exact ⟨A11.out.call.2.1, A11.out.call.2.2.1⟩ | exact ⟨A10.out.call.2.1, A10.out.call.2.2.1⟩ | exact ⟨A01.out.call.2.1, A01.out.call.2.2.1⟩ | exact ⟨A00.out.call.2.1, A00.out.call.2.2.1⟩) (first
                    | (go_at_call 15; first | (refine Calls.mono (peven_pi (s) (t) A00.out HBQ.out) ?_; rintro e w5 ⟨rfl, h5⟩; have A10 := hid h5; clear h5) | (refine Calls.mono (peven_pi (s) (t) A01.out HBQ.out) ?_; rintro e w6 ⟨rfl, h6⟩; have A11 := hid h6; clear h6))
                    | (go_at_call 29; first | (refine Calls.mono (reven_pi (s) (t) A00.out HBQ.out) ?_; rintro e w5 ⟨rfl, h5⟩; have A01 := hid h5; clear h5) | (refine Calls.mono (reven_pi (s) (t) A10.out HBQ.out) ?_; rintro e w6 ⟨rfl, h6⟩; have A11 := hid h6; clear h6)))
                  all_goals
                    go_wp2
                    go_roundw
                    case rel => exact ⟨k + 1, LF, ctO o2 (s) (t) 1, by omega, by go_num, A11.out.noC, HBD.out.ct (s) (t) 1, by rw [lnO_ct]; exact HLN.out, by rw [some_ct]; exact HSM.out, fun j hj => ⟨(HLF.out j hj).1, by have := (HLF.out j hj).2; omega⟩⟩
                    case measure => simp [intOf]; omega

              · obtain ⟨i, rfl⟩ : ∃ i : Nat, s = (i : Int) := ⟨s.toNat, by omega⟩
                have hi64 : i < 64 := by omega
                have hcl2 : (i : Int) < (K : Int) := by have := HK.out; omega
                have le1 : (wr.alloc (.cells #[.int .i64 4, .int .i64 (i : Int), .int .i64 t, .bool true] 52)).cell? ⟨g, i, none⟩ = some (.int .i64 (LF i)) := ((HP.out.made #[.int .i64 4, .int .i64 (i : Int), .int .i64 t, .bool true]).left i hi64).1
                generalize hLFi : LF i = tt at le1
                as_aux_lemma =>
                  have Pc := hid (HP.out.made #[.int .i64 4, .int .i64 ((i : Int)), .int .i64 (tt), .bool true])
                  have A00 := hid Pc.out.drew
                  have HBQ := hid (show bdO o2 1000000000000000000 from HBD.out.mono (by omega))
                  have ez : (hoO o2 ((i : Int)) (tt) 1 == hoO o2 ((i : Int)) (tt) 1) = true := by simp
                  have ez2 : (hoO o2 ((i : Int)) (tt) 1 != hoO o2 ((i : Int)) (tt) 1) = false := by simp
                  go_wp2_with fail
                  go_region_held3 (fun w' => w'.cell? ⟨wr.heap.size, 1, none⟩ = some (.int .i64 ((i : Int))) ∧ w'.cell? ⟨wr.heap.size, 2, none⟩ = some (.int .i64 (tt))) (first | exact ⟨Pc.out.call.2.1, Pc.out.call.2.2.1⟩ | exact ⟨A11.out.call.2.1, A11.out.call.2.2.1⟩ | exact ⟨A10.out.call.2.1, A10.out.call.2.2.1⟩ | exact ⟨A01.out.call.2.1, A01.out.call.2.2.1⟩ | exact ⟨A00.out.call.2.1, A00.out.call.2.2.1⟩) (first
                    | (go_at_call 15; first | (refine Calls.mono (peven_pi ((i : Int)) (tt) A00.out HBQ.out) ?_; rintro e w5 ⟨rfl, h5⟩; have A10 := hid h5; clear h5) | (refine Calls.mono (peven_pi ((i : Int)) (tt) A01.out HBQ.out) ?_; rintro e w6 ⟨rfl, h6⟩; have A11 := hid h6; clear h6))
                    | (go_at_call 29; first | (refine Calls.mono (reven_pi ((i : Int)) (tt) A00.out HBQ.out) ?_; rintro e w5 ⟨rfl, h5⟩; have A01 := hid h5; clear h5) | (refine Calls.mono (reven_pi ((i : Int)) (tt) A10.out HBQ.out) ?_; rintro e w6 ⟨rfl, h6⟩; have A11 := hid h6; clear h6)))
                  all_goals
                    go_wp2
                    go_roundw
                    case rel => exact ⟨k + 1, LF, ctO o2 ((i : Int)) (tt) 1, by omega, by go_num, A11.out.noC, HBD.out.ct ((i : Int)) (tt) 1, by rw [lnO_ct]; exact HLN.out, by rw [some_ct]; exact HSM.out, fun j hj => ⟨(HLF.out j hj).1, by have := (HLF.out j hj).2; omega⟩⟩
                    case measure => simp [intOf]; omega
          · cases mine with
            | false =>
              as_aux_lemma =>
                have Pc := hid (HP.out.made #[.int .i64 5, .int .i64 (s), .int .i64 (t), .bool false])
                have A00 := hid Pc.out.drew
                have HBQ := hid (show bdO o2 1000000000000000000 from HBD.out.mono (by omega))
                have ez : (sqO o2 (s) == sqO o2 (s)) = true := by simp
                have ez2 : (sqO o2 (s) != sqO o2 (s)) = false := by simp
                go_wp2_with fail
                go_region_held3 (fun w' => w'.cell? ⟨wr.heap.size, 1, none⟩ = some (.int .i64 (s)) ∧ w'.cell? ⟨wr.heap.size, 2, none⟩ = some (.int .i64 (t))) (first | exact ⟨Pc.out.call.2.1, Pc.out.call.2.2.1⟩ | exact ⟨A11.out.call.2.1, A11.out.call.2.2.1⟩ | exact ⟨A10.out.call.2.1, A10.out.call.2.2.1⟩ | exact ⟨A01.out.call.2.1, A01.out.call.2.2.1⟩ | exact ⟨A00.out.call.2.1, A00.out.call.2.2.1⟩) (first
                  | (go_at_call 17; first | (refine Calls.mono (pseq_pi (s) A00.out) ?_; rintro e w5 ⟨rfl, h5⟩; have A10 := hid h5; clear h5) | (refine Calls.mono (pseq_pi (s) A01.out) ?_; rintro e w6 ⟨rfl, h6⟩; have A11 := hid h6; clear h6))
                  | (go_at_call 30; first | (refine Calls.mono (rseq_pi (s) A00.out) ?_; rintro e w5 ⟨rfl, h5⟩; have A01 := hid h5; clear h5) | (refine Calls.mono (rseq_pi (s) A10.out) ?_; rintro e w6 ⟨rfl, h6⟩; have A11 := hid h6; clear h6)))
                all_goals
                  go_wp2
                  go_roundw
                  case rel => exact ⟨k + 1, LF, o2, by omega, by go_num, A11.out.noC, HBD.out.mono (by omega), HLN.out, HSM.out, fun j hj => ⟨(HLF.out j hj).1, by have := (HLF.out j hj).2; omega⟩⟩
                  case measure => simp [intOf]; omega
            | true =>
              have DD : ¬ 0 ≤ s ∨ (0 ≤ s ∧ ¬ s < 64) ∨ (0 ≤ s ∧ s < 64) := by omega
              rcases DD with hs0 | ⟨hs0, hs1⟩ | ⟨hs0, hs1⟩
              · as_aux_lemma =>
                  have Pc := hid (HP.out.made #[.int .i64 5, .int .i64 (s), .int .i64 (t), .bool true])
                  have A00 := hid Pc.out.drew
                  have HBQ := hid (show bdO o2 1000000000000000000 from HBD.out.mono (by omega))
                  have ez : (sqO o2 (s) == sqO o2 (s)) = true := by simp
                  have ez2 : (sqO o2 (s) != sqO o2 (s)) = false := by simp
                  go_wp2_with fail
                  go_region_held3 (fun w' => w'.cell? ⟨wr.heap.size, 1, none⟩ = some (.int .i64 (s)) ∧ w'.cell? ⟨wr.heap.size, 2, none⟩ = some (.int .i64 (t))) (first | exact ⟨Pc.out.call.2.1, Pc.out.call.2.2.1⟩ | exact ⟨A11.out.call.2.1, A11.out.call.2.2.1⟩ | exact ⟨A10.out.call.2.1, A10.out.call.2.2.1⟩ | exact ⟨A01.out.call.2.1, A01.out.call.2.2.1⟩ | exact ⟨A00.out.call.2.1, A00.out.call.2.2.1⟩) (first
                    | (go_at_call 17; first | (refine Calls.mono (pseq_pi (s) A00.out) ?_; rintro e w5 ⟨rfl, h5⟩; have A10 := hid h5; clear h5) | (refine Calls.mono (pseq_pi (s) A01.out) ?_; rintro e w6 ⟨rfl, h6⟩; have A11 := hid h6; clear h6))
                    | (go_at_call 30; first | (refine Calls.mono (rseq_pi (s) A00.out) ?_; rintro e w5 ⟨rfl, h5⟩; have A01 := hid h5; clear h5) | (refine Calls.mono (rseq_pi (s) A10.out) ?_; rintro e w6 ⟨rfl, h6⟩; have A11 := hid h6; clear h6)))
                  all_goals
                    go_wp2
                    go_roundw
                    case rel => exact ⟨k + 1, LF, o2, by omega, by go_num, A11.out.noC, HBD.out.mono (by omega), HLN.out, HSM.out, fun j hj => ⟨(HLF.out j hj).1, by have := (HLF.out j hj).2; omega⟩⟩
                    case measure => simp [intOf]; omega

              · as_aux_lemma =>
                  have Pc := hid (HP.out.made #[.int .i64 5, .int .i64 (s), .int .i64 (t), .bool true])
                  have A00 := hid Pc.out.drew
                  have HBQ := hid (show bdO o2 1000000000000000000 from HBD.out.mono (by omega))
                  have ez : (sqO o2 (s) == sqO o2 (s)) = true := by simp
                  have ez2 : (sqO o2 (s) != sqO o2 (s)) = false := by simp
                  go_wp2_with fail
                  go_region_held3 (fun w' => w'.cell? ⟨wr.heap.size, 1, none⟩ = some (.int .i64 (s)) ∧ w'.cell? ⟨wr.heap.size, 2, none⟩ = some (.int .i64 (t))) (first | exact ⟨Pc.out.call.2.1, Pc.out.call.2.2.1⟩ | exact ⟨A11.out.call.2.1, A11.out.call.2.2.1⟩ | exact ⟨A10.out.call.2.1, A10.out.call.2.2.1⟩ | exact ⟨A01.out.call.2.1, A01.out.call.2.2.1⟩ | exact ⟨A00.out.call.2.1, A00.out.call.2.2.1⟩) (first
                    | (go_at_call 17; first | (refine Calls.mono (pseq_pi (s) A00.out) ?_; rintro e w5 ⟨rfl, h5⟩; have A10 := hid h5; clear h5) | (refine Calls.mono (pseq_pi (s) A01.out) ?_; rintro e w6 ⟨rfl, h6⟩; have A11 := hid h6; clear h6))
                    | (go_at_call 30; first | (refine Calls.mono (rseq_pi (s) A00.out) ?_; rintro e w5 ⟨rfl, h5⟩; have A01 := hid h5; clear h5) | (refine Calls.mono (rseq_pi (s) A10.out) ?_; rintro e w6 ⟨rfl, h6⟩; have A11 := hid h6; clear h6)))
                  all_goals
                    go_wp2
                    go_roundw
                    case rel => exact ⟨k + 1, LF, o2, by omega, by go_num, A11.out.noC, HBD.out.mono (by omega), HLN.out, HSM.out, fun j hj => ⟨(HLF.out j hj).1, by have := (HLF.out j hj).2; omega⟩⟩
                    case measure => simp [intOf]; omega

              · obtain ⟨i, rfl⟩ : ∃ i : Nat, s = (i : Int) := ⟨s.toNat, by omega⟩
                have hi64 : i < 64 := by omega
                have hcl2 : (i : Int) < (K : Int) := by have := HK.out; omega
                have le1 : (wr.alloc (.cells #[.int .i64 5, .int .i64 (i : Int), .int .i64 t, .bool true] 52)).cell? ⟨g, i, none⟩ = some (.int .i64 (LF i)) := ((HP.out.made #[.int .i64 5, .int .i64 (i : Int), .int .i64 t, .bool true]).left i hi64).1
                generalize hLFi : LF i = tt at le1
                as_aux_lemma =>
                  have Pc := hid (HP.out.made #[.int .i64 5, .int .i64 ((i : Int)), .int .i64 (tt), .bool true])
                  have A00 := hid Pc.out.drew
                  have HBQ := hid (show bdO o2 1000000000000000000 from HBD.out.mono (by omega))
                  have ez : (sqO o2 ((i : Int)) == sqO o2 ((i : Int))) = true := by simp
                  have ez2 : (sqO o2 ((i : Int)) != sqO o2 ((i : Int))) = false := by simp
                  go_wp2_with fail
                  go_region_held3 (fun w' => w'.cell? ⟨wr.heap.size, 1, none⟩ = some (.int .i64 ((i : Int))) ∧ w'.cell? ⟨wr.heap.size, 2, none⟩ = some (.int .i64 (tt))) (first | exact ⟨Pc.out.call.2.1, Pc.out.call.2.2.1⟩ | exact ⟨A11.out.call.2.1, A11.out.call.2.2.1⟩ | exact ⟨A10.out.call.2.1, A10.out.call.2.2.1⟩ | exact ⟨A01.out.call.2.1, A01.out.call.2.2.1⟩ | exact ⟨A00.out.call.2.1, A00.out.call.2.2.1⟩) (first
                    | (go_at_call 17; first | (refine Calls.mono (pseq_pi ((i : Int)) A00.out) ?_; rintro e w5 ⟨rfl, h5⟩; have A10 := hid h5; clear h5) | (refine Calls.mono (pseq_pi ((i : Int)) A01.out) ?_; rintro e w6 ⟨rfl, h6⟩; have A11 := hid h6; clear h6))
                    | (go_at_call 30; first | (refine Calls.mono (rseq_pi ((i : Int)) A00.out) ?_; rintro e w5 ⟨rfl, h5⟩; have A01 := hid h5; clear h5) | (refine Calls.mono (rseq_pi ((i : Int)) A10.out) ?_; rintro e w6 ⟨rfl, h6⟩; have A11 := hid h6; clear h6)))
                  all_goals
                    go_wp2
                    go_roundw
                    case rel => exact ⟨k + 1, LF, o2, by omega, by go_num, A11.out.noC, HBD.out.mono (by omega), HLN.out, HSM.out, fun j hj => ⟨(HLF.out j hj).1, by have := (HLF.out j hj).2; omega⟩⟩
                    case measure => simp [intOf]; omega
          · cases mine with
            | false =>
              as_aux_lemma =>
                have Pc := hid (HP.out.made #[.int .i64 6, .int .i64 (s), .int .i64 (t), .bool false])
                have A00 := hid Pc.out.drew
                have HBQ := hid (show bdO o2 1000000000000000000 from HBD.out.mono (by omega))
                have ez : (wtO o2 (s) == wtO o2 (s)) = true := by simp
                have ez2 : (wtO o2 (s) != wtO o2 (s)) = false := by simp
                go_wp2_with fail
                go_region_held3 (fun w' => w'.cell? ⟨wr.heap.size, 1, none⟩ = some (.int .i64 (s)) ∧ w'.cell? ⟨wr.heap.size, 2, none⟩ = some (.int .i64 (t))) (first | exact ⟨Pc.out.call.2.1, Pc.out.call.2.2.1⟩ | exact ⟨A11.out.call.2.1, A11.out.call.2.2.1⟩ | exact ⟨A10.out.call.2.1, A10.out.call.2.2.1⟩ | exact ⟨A01.out.call.2.1, A01.out.call.2.2.1⟩ | exact ⟨A00.out.call.2.1, A00.out.call.2.2.1⟩) (first
                  | (go_at_call 16; first | (refine Calls.mono (pwaiting_pi (s) A00.out) ?_; rintro e w5 ⟨rfl, h5⟩; have A10 := hid h5; clear h5) | (refine Calls.mono (pwaiting_pi (s) A01.out) ?_; rintro e w6 ⟨rfl, h6⟩; have A11 := hid h6; clear h6))
                  | (go_at_call 31; first | (refine Calls.mono (rwaiting_pi (s) A00.out) ?_; rintro e w5 ⟨rfl, h5⟩; have A01 := hid h5; clear h5) | (refine Calls.mono (rwaiting_pi (s) A10.out) ?_; rintro e w6 ⟨rfl, h6⟩; have A11 := hid h6; clear h6)))
                all_goals
                  go_wp2
                  go_roundw
                  case rel => exact ⟨k + 1, LF, o2, by omega, by go_num, A11.out.noC, HBD.out.mono (by omega), HLN.out, HSM.out, fun j hj => ⟨(HLF.out j hj).1, by have := (HLF.out j hj).2; omega⟩⟩
                  case measure => simp [intOf]; omega
            | true =>
              have DD : ¬ 0 ≤ s ∨ (0 ≤ s ∧ ¬ s < 64) ∨ (0 ≤ s ∧ s < 64) := by omega
              rcases DD with hs0 | ⟨hs0, hs1⟩ | ⟨hs0, hs1⟩
              · as_aux_lemma =>
                  have Pc := hid (HP.out.made #[.int .i64 6, .int .i64 (s), .int .i64 (t), .bool true])
                  have A00 := hid Pc.out.drew
                  have HBQ := hid (show bdO o2 1000000000000000000 from HBD.out.mono (by omega))
                  have ez : (wtO o2 (s) == wtO o2 (s)) = true := by simp
                  have ez2 : (wtO o2 (s) != wtO o2 (s)) = false := by simp
                  go_wp2_with fail
                  go_region_held3 (fun w' => w'.cell? ⟨wr.heap.size, 1, none⟩ = some (.int .i64 (s)) ∧ w'.cell? ⟨wr.heap.size, 2, none⟩ = some (.int .i64 (t))) (first | exact ⟨Pc.out.call.2.1, Pc.out.call.2.2.1⟩ | exact ⟨A11.out.call.2.1, A11.out.call.2.2.1⟩ | exact ⟨A10.out.call.2.1, A10.out.call.2.2.1⟩ | exact ⟨A01.out.call.2.1, A01.out.call.2.2.1⟩ | exact ⟨A00.out.call.2.1, A00.out.call.2.2.1⟩) (first
                    | (go_at_call 16; first | (refine Calls.mono (pwaiting_pi (s) A00.out) ?_; rintro e w5 ⟨rfl, h5⟩; have A10 := hid h5; clear h5) | (refine Calls.mono (pwaiting_pi (s) A01.out) ?_; rintro e w6 ⟨rfl, h6⟩; have A11 := hid h6; clear h6))
                    | (go_at_call 31; first | (refine Calls.mono (rwaiting_pi (s) A00.out) ?_; rintro e w5 ⟨rfl, h5⟩; have A01 := hid h5; clear h5) | (refine Calls.mono (rwaiting_pi (s) A10.out) ?_; rintro e w6 ⟨rfl, h6⟩; have A11 := hid h6; clear h6)))
                  all_goals
                    go_wp2
                    go_roundw
                    case rel => exact ⟨k + 1, LF, o2, by omega, by go_num, A11.out.noC, HBD.out.mono (by omega), HLN.out, HSM.out, fun j hj => ⟨(HLF.out j hj).1, by have := (HLF.out j hj).2; omega⟩⟩
                    case measure => simp [intOf]; omega

              · as_aux_lemma =>
                  have Pc := hid (HP.out.made #[.int .i64 6, .int .i64 (s), .int .i64 (t), .bool true])
                  have A00 := hid Pc.out.drew
                  have HBQ := hid (show bdO o2 1000000000000000000 from HBD.out.mono (by omega))
                  have ez : (wtO o2 (s) == wtO o2 (s)) = true := by simp
                  have ez2 : (wtO o2 (s) != wtO o2 (s)) = false := by simp
                  go_wp2_with fail
                  go_region_held3 (fun w' => w'.cell? ⟨wr.heap.size, 1, none⟩ = some (.int .i64 (s)) ∧ w'.cell? ⟨wr.heap.size, 2, none⟩ = some (.int .i64 (t))) (first | exact ⟨Pc.out.call.2.1, Pc.out.call.2.2.1⟩ | exact ⟨A11.out.call.2.1, A11.out.call.2.2.1⟩ | exact ⟨A10.out.call.2.1, A10.out.call.2.2.1⟩ | exact ⟨A01.out.call.2.1, A01.out.call.2.2.1⟩ | exact ⟨A00.out.call.2.1, A00.out.call.2.2.1⟩) (first
                    | (go_at_call 16; first | (refine Calls.mono (pwaiting_pi (s) A00.out) ?_; rintro e w5 ⟨rfl, h5⟩; have A10 := hid h5; clear h5) | (refine Calls.mono (pwaiting_pi (s) A01.out) ?_; rintro e w6 ⟨rfl, h6⟩; have A11 := hid h6; clear h6))
                    | (go_at_call 31; first | (refine Calls.mono (rwaiting_pi (s) A00.out) ?_; rintro e w5 ⟨rfl, h5⟩; have A01 := hid h5; clear h5) | (refine Calls.mono (rwaiting_pi (s) A10.out) ?_; rintro e w6 ⟨rfl, h6⟩; have A11 := hid h6; clear h6)))
                  all_goals
                    go_wp2
                    go_roundw
                    case rel => exact ⟨k + 1, LF, o2, by omega, by go_num, A11.out.noC, HBD.out.mono (by omega), HLN.out, HSM.out, fun j hj => ⟨(HLF.out j hj).1, by have := (HLF.out j hj).2; omega⟩⟩
                    case measure => simp [intOf]; omega

              · obtain ⟨i, rfl⟩ : ∃ i : Nat, s = (i : Int) := ⟨s.toNat, by omega⟩
                have hi64 : i < 64 := by omega
                have hcl2 : (i : Int) < (K : Int) := by have := HK.out; omega
                have le1 : (wr.alloc (.cells #[.int .i64 6, .int .i64 (i : Int), .int .i64 t, .bool true] 52)).cell? ⟨g, i, none⟩ = some (.int .i64 (LF i)) := ((HP.out.made #[.int .i64 6, .int .i64 (i : Int), .int .i64 t, .bool true]).left i hi64).1
                generalize hLFi : LF i = tt at le1
                as_aux_lemma =>
                  have Pc := hid (HP.out.made #[.int .i64 6, .int .i64 ((i : Int)), .int .i64 (tt), .bool true])
                  have A00 := hid Pc.out.drew
                  have HBQ := hid (show bdO o2 1000000000000000000 from HBD.out.mono (by omega))
                  have ez : (wtO o2 ((i : Int)) == wtO o2 ((i : Int))) = true := by simp
                  have ez2 : (wtO o2 ((i : Int)) != wtO o2 ((i : Int))) = false := by simp
                  go_wp2_with fail
                  go_region_held3 (fun w' => w'.cell? ⟨wr.heap.size, 1, none⟩ = some (.int .i64 ((i : Int))) ∧ w'.cell? ⟨wr.heap.size, 2, none⟩ = some (.int .i64 (tt))) (first | exact ⟨Pc.out.call.2.1, Pc.out.call.2.2.1⟩ | exact ⟨A11.out.call.2.1, A11.out.call.2.2.1⟩ | exact ⟨A10.out.call.2.1, A10.out.call.2.2.1⟩ | exact ⟨A01.out.call.2.1, A01.out.call.2.2.1⟩ | exact ⟨A00.out.call.2.1, A00.out.call.2.2.1⟩) (first
                    | (go_at_call 16; first | (refine Calls.mono (pwaiting_pi ((i : Int)) A00.out) ?_; rintro e w5 ⟨rfl, h5⟩; have A10 := hid h5; clear h5) | (refine Calls.mono (pwaiting_pi ((i : Int)) A01.out) ?_; rintro e w6 ⟨rfl, h6⟩; have A11 := hid h6; clear h6))
                    | (go_at_call 31; first | (refine Calls.mono (rwaiting_pi ((i : Int)) A00.out) ?_; rintro e w5 ⟨rfl, h5⟩; have A01 := hid h5; clear h5) | (refine Calls.mono (rwaiting_pi ((i : Int)) A10.out) ?_; rintro e w6 ⟨rfl, h6⟩; have A11 := hid h6; clear h6)))
                  all_goals
                    go_wp2
                    go_roundw
                    case rel => exact ⟨k + 1, LF, o2, by omega, by go_num, A11.out.noC, HBD.out.mono (by omega), HLN.out, HSM.out, fun j hj => ⟨(HLF.out j hj).1, by have := (HLF.out j hj).2; omega⟩⟩
                    case measure => simp [intOf]; omega
          · have q0 : (kd == 0) = false := by simp [g0]
            have q1 : (kd == 1) = false := by simp [g1]
            have q2 : (kd == 2) = false := by simp [g2]
            have q3 : (kd == 3) = false := by simp [g3]
            have q4 : (kd == 4) = false := by simp [g4]
            have q5 : (kd == 5) = false := by simp [g5]
            have q6 : (kd == 6) = false := by simp [g6]
            clear g0 g1 g2 g3 g4 g5 g6
            cases mine with
            | false =>
              as_aux_lemma =>
                have Pc := hid (HP.out.made #[.int .i64 kd, .int .i64 (s), .int .i64 (t), .bool false])
                have ez : (lnO o2 == lnO o2) = true := by simp
                go_wp2_with (first
                  | (go_at_call 18; refine Calls.mono (pstripes_pi Pc.out) ?_; rintro e w3 ⟨rfl, rfl⟩)
                  | (go_at_call 24; refine Calls.mono (rstripes_pi Pc.out) ?_; rintro e w3 ⟨rfl, rfl⟩))
                go_roundw
                case rel => exact ⟨k + 1, LF, o2, by omega, by go_num, Pc.out.noC, HBD.out.mono (by omega), HLN.out, HSM.out, fun j hj => ⟨(HLF.out j hj).1, by have := (HLF.out j hj).2; omega⟩⟩
                case measure => simp [intOf]; omega
            | true =>
              have DD : ¬ 0 ≤ s ∨ (0 ≤ s ∧ ¬ s < 64) ∨ (0 ≤ s ∧ s < 64) := by omega
              rcases DD with hs0 | ⟨hs0, hs1⟩ | ⟨hs0, hs1⟩
              · as_aux_lemma =>
                  have Pc := hid (HP.out.made #[.int .i64 kd, .int .i64 (s), .int .i64 (t), .bool true])
                  have ez : (lnO o2 == lnO o2) = true := by simp
                  go_wp2_with (first
                    | (go_at_call 18; refine Calls.mono (pstripes_pi Pc.out) ?_; rintro e w3 ⟨rfl, rfl⟩)
                    | (go_at_call 24; refine Calls.mono (rstripes_pi Pc.out) ?_; rintro e w3 ⟨rfl, rfl⟩))
                  go_roundw
                  case rel => exact ⟨k + 1, LF, o2, by omega, by go_num, Pc.out.noC, HBD.out.mono (by omega), HLN.out, HSM.out, fun j hj => ⟨(HLF.out j hj).1, by have := (HLF.out j hj).2; omega⟩⟩
                  case measure => simp [intOf]; omega

              · as_aux_lemma =>
                  have Pc := hid (HP.out.made #[.int .i64 kd, .int .i64 (s), .int .i64 (t), .bool true])
                  have ez : (lnO o2 == lnO o2) = true := by simp
                  go_wp2_with (first
                    | (go_at_call 18; refine Calls.mono (pstripes_pi Pc.out) ?_; rintro e w3 ⟨rfl, rfl⟩)
                    | (go_at_call 24; refine Calls.mono (rstripes_pi Pc.out) ?_; rintro e w3 ⟨rfl, rfl⟩))
                  go_roundw
                  case rel => exact ⟨k + 1, LF, o2, by omega, by go_num, Pc.out.noC, HBD.out.mono (by omega), HLN.out, HSM.out, fun j hj => ⟨(HLF.out j hj).1, by have := (HLF.out j hj).2; omega⟩⟩
                  case measure => simp [intOf]; omega

              · obtain ⟨i, rfl⟩ : ∃ i : Nat, s = (i : Int) := ⟨s.toNat, by omega⟩
                have hi64 : i < 64 := by omega
                have hcl2 : (i : Int) < (K : Int) := by have := HK.out; omega
                have le1 : (wr.alloc (.cells #[.int .i64 kd, .int .i64 (i : Int), .int .i64 t, .bool true] 52)).cell? ⟨g, i, none⟩ = some (.int .i64 (LF i)) := ((HP.out.made #[.int .i64 kd, .int .i64 (i : Int), .int .i64 t, .bool true]).left i hi64).1
                generalize hLFi : LF i = tt at le1
                as_aux_lemma =>
                  have Pc := hid (HP.out.made #[.int .i64 kd, .int .i64 ((i : Int)), .int .i64 (tt), .bool true])
                  have ez : (lnO o2 == lnO o2) = true := by simp
                  go_wp2_with (first
                    | (go_at_call 18; refine Calls.mono (pstripes_pi Pc.out) ?_; rintro e w3 ⟨rfl, rfl⟩)
                    | (go_at_call 24; refine Calls.mono (rstripes_pi Pc.out) ?_; rintro e w3 ⟨rfl, rfl⟩))
                  go_roundw
                  case rel => exact ⟨k + 1, LF, o2, by omega, by go_num, Pc.out.noC, HBD.out.mono (by omega), HLN.out, HSM.out, fun j hj => ⟨(HLF.out j hj).1, by have := (HLF.out j hj).2; omega⟩⟩
                  case measure => simp [intOf]; omega
        · have hI : ¬ (k : Int) < (P.length : Int) := by omega
          have HQ := hid HP.out
          clear HP
          go_wp2
          go_loopw [17] (fun vi wr => ∃ m : Nat, m ≤ 66 ∧ vi = .int .i64 ((m : Int) - 1) ∧ PI w wr p q d hb d' hb' g LF none o2 o2) (fun vi _ => 66 - (intOf vi + 1).toNat)
          case atStart => exact ⟨0, Nat.zero_le _, rfl, HQ.out⟩
          case round =>
            obtain ⟨m, hm, rfl, hPI⟩ := hrel
            have HP := hid hPI
            clear hPI HQ
            by_cases h : m < 66
            · have hI : (m : Int) - 1 < 65 := by omega
              have ez : (sqO o2 ((m : Int) - 1) == sqO o2 ((m : Int) - 1)) = true := by simp
              have ez2 : (wtO o2 ((m : Int) - 1) == wtO o2 ((m : Int) - 1)) = true := by simp
              go_wp2_with fail
              refine Calls.mono (pseq_pi _ HP.out) ?_
              rintro e wa ⟨rfl, ha⟩
              have Pa := hid ha
              clear ha
              go_wp2_with fail
              refine Calls.mono (rseq_pi _ Pa.out) ?_
              rintro e wb ⟨rfl, hq⟩
              have Pb := hid hq
              clear hq
              go_wp2_with fail
              refine Calls.mono (pwaiting_pi _ Pb.out) ?_
              rintro e wc ⟨rfl, ha⟩
              have Pc := hid ha
              clear ha
              go_wp2_with fail
              refine Calls.mono (rwaiting_pi _ Pc.out) ?_
              rintro e wd ⟨rfl, hq⟩
              have Pd := hid hq
              clear hq
              go_wp2
              go_roundw
              case rel => exact ⟨m + 1, by omega, by congr 1; omega, Pd.out⟩
              case measure => simp [intOf]; omega
            · have hI : ¬ (m : Int) - 1 < 65 := by omega
              go_wp2
              go_ret
              exact ⟨rfl, HP.out.below⟩
end Go.Proofs.Ytehgjfokpcnneaa
