/-
  Lists that are grown: stock, value, grown.
-/
import Derived.Test.YtpplkoilpblpkaaDoorVal
namespace Go.Proofs.YtpplkoilpblpkaaDoor
open Go.RowKit
set_option maxRecDepth 100000

/-- what stock answers -/
def StR (a : ByteArray) (n : Int) : Prop :=
  a = ⟨#[48, 48]⟩ ∧ n = 18 ∨
  a = ⟨#[48, 49]⟩ ∧ n = 14 ∨
  a = ⟨#[49, 48]⟩ ∧ n = 0 ∨
  a = ⟨#[49, 55]⟩ ∧ n = 6 ∨
  a = ⟨#[50, 48]⟩ ∧ n = 2 ∨
  a = ⟨#[50, 49]⟩ ∧ n = 0 ∨
  a = ⟨#[51, 48]⟩ ∧ n = (-8) ∨
  a = ⟨#[51, 49, 48, 51]⟩ ∧ n = 6 ∨
  a = ⟨#[51, 57, 50, 50]⟩ ∧ n = (-15) ∨
  a = ⟨#[52, 49, 52]⟩ ∧ n = 13 ∨
  a = ⟨#[56, 48, 48, 53]⟩ ∧ n = 6 ∨
  a = ⟨#[57, 49]⟩ ∧ n = 0
def stAL : List (List UInt8) := [[48, 48], [48, 49], [49, 48], [49, 55], [50, 48], [50, 49], [51, 48], [51, 49, 48, 51], [51, 57, 50, 50], [52, 49, 52], [56, 48, 48, 53], [57, 49]]
theorem StR.mem {a : ByteArray} {n : Int} (h : StR a n) : a.data.toList ∈ stAL := by
  unfold StR at h
  rcases h with ⟨rfl, _⟩ | ⟨rfl, _⟩ | ⟨rfl, _⟩ | ⟨rfl, _⟩ | ⟨rfl, _⟩ | ⟨rfl, _⟩ | ⟨rfl, _⟩ | ⟨rfl, _⟩ | ⟨rfl, _⟩ | ⟨rfl, _⟩ | ⟨rfl, _⟩ | ⟨rfl, _⟩ <;> decide

set_option maxHeartbeats 2000000 in
theorem stock_any (z : Int) (w : World) : Calls Tryd.prog 12 #[.int .i64 z] w fun e w' => (∃ a n, e = .returned (.tuple #[.string a, .int .i64 n]) ∧ StR a n) ∧ w' = w := by
  have HW := hid (within_any z 11 w (by omega) (by omega))
  have h0 : 0 ≤ z % 12 := by omega
  have h5 : z % 12 < 12 := by omega
  rw [show (11 : Int) + 1 = 12 from rfl] at HW
  generalize z % 12 = r at HW h0 h5
  go_enter Tryd.func12, Tryd.ntmps12
  go_wp2_with fail
  refine Calls.mono HW.out ?_
  rintro e w' ⟨rfl, rfl⟩
  clear HW
  have hr5 : r = 0 ∨ r = 1 ∨ r = 2 ∨ r = 3 ∨ r = 4 ∨ r = 5 ∨ r = 6 ∨ r = 7 ∨ r = 8 ∨ r = 9 ∨ r = 10 ∨ r = 11 := by omega
  clear h0 h5
  rcases hr5 with rfl | rfl | rfl | rfl | rfl | rfl | rfl | rfl | rfl | rfl | rfl | rfl
  · go_wp2
    go_ret2
    exact ⟨⟨_, _, rfl, .inl ⟨rfl, rfl⟩⟩, rfl⟩
  · go_wp2
    go_ret2
    exact ⟨⟨_, _, rfl, .inr (.inl ⟨rfl, rfl⟩)⟩, rfl⟩
  · go_wp2
    go_ret2
    exact ⟨⟨_, _, rfl, .inr (.inr (.inl ⟨rfl, rfl⟩))⟩, rfl⟩
  · go_wp2
    go_ret2
    exact ⟨⟨_, _, rfl, .inr (.inr (.inr (.inl ⟨rfl, rfl⟩)))⟩, rfl⟩
  · go_wp2
    go_ret2
    exact ⟨⟨_, _, rfl, .inr (.inr (.inr (.inr (.inl ⟨rfl, rfl⟩))))⟩, rfl⟩
  · go_wp2
    go_ret2
    exact ⟨⟨_, _, rfl, .inr (.inr (.inr (.inr (.inr (.inl ⟨rfl, rfl⟩)))))⟩, rfl⟩
  · go_wp2
    go_ret2
    exact ⟨⟨_, _, rfl, .inr (.inr (.inr (.inr (.inr (.inr (.inl ⟨rfl, rfl⟩))))))⟩, rfl⟩
  · go_wp2
    go_ret2
    exact ⟨⟨_, _, rfl, .inr (.inr (.inr (.inr (.inr (.inr (.inr (.inl ⟨rfl, rfl⟩)))))))⟩, rfl⟩
  · go_wp2
    go_ret2
    exact ⟨⟨_, _, rfl, .inr (.inr (.inr (.inr (.inr (.inr (.inr (.inr (.inl ⟨rfl, rfl⟩))))))))⟩, rfl⟩
  · go_wp2
    go_ret2
    exact ⟨⟨_, _, rfl, .inr (.inr (.inr (.inr (.inr (.inr (.inr (.inr (.inr (.inl ⟨rfl, rfl⟩)))))))))⟩, rfl⟩
  · go_wp2
    go_ret2
    exact ⟨⟨_, _, rfl, .inr (.inr (.inr (.inr (.inr (.inr (.inr (.inr (.inr (.inr (.inl ⟨rfl, rfl⟩))))))))))⟩, rfl⟩
  · go_wp2
    go_ret2
    exact ⟨⟨_, _, rfl, .inr (.inr (.inr (.inr (.inr (.inr (.inr (.inr (.inr (.inr (.inr (⟨rfl, rfl⟩)))))))))))⟩, rfl⟩

theorem value_any (a : ByteArray) (n : Int) (v : Value) (l : List UInt8) (w : World) (hs : StR a n) (hr : Reads w v l) (hlen : l.length ≤ 9223372036854775807) :
    Calls Tryd.prog 13 #[.string a, .int .i64 n, v] w fun e w' => ∃ x : ByteArray, e = .returned (.tuple #[.string x, .bool true]) ∧ (∃ k, kfind a.data.toList = some k ∧ VOk k x) ∧ Below w.heap.size w w' := by
  unfold StR at hs
  rcases hs with ⟨rfl, rfl⟩ | ⟨rfl, rfl⟩ | ⟨rfl, rfl⟩ | ⟨rfl, rfl⟩ | ⟨rfl, rfl⟩ | ⟨rfl, rfl⟩ | ⟨rfl, rfl⟩ | ⟨rfl, rfl⟩ | ⟨rfl, rfl⟩ | ⟨rfl, rfl⟩ | ⟨rfl, rfl⟩ | ⟨rfl, rfl⟩
  · exact (value_0 v l w hr hlen).mono fun e w' ⟨x, h1, h2, h3⟩ => ⟨x, h1, ⟨_, rfl, h2⟩, h3⟩
  · exact (value_1 v l w hr hlen).mono fun e w' ⟨x, h1, h2, h3⟩ => ⟨x, h1, ⟨_, rfl, h2⟩, h3⟩
  · exact (value_2 v l w hr hlen).mono fun e w' ⟨x, h1, h2, h3⟩ => ⟨x, h1, ⟨_, rfl, h2⟩, h3⟩
  · exact (value_3 v l w hr hlen).mono fun e w' ⟨x, h1, h2, h3⟩ => ⟨x, h1, ⟨_, rfl, h2⟩, h3⟩
  · exact (value_4 v l w hr hlen).mono fun e w' ⟨x, h1, h2, h3⟩ => ⟨x, h1, ⟨_, rfl, h2⟩, h3⟩
  · exact (value_5 v l w hr hlen).mono fun e w' ⟨x, h1, h2, h3⟩ => ⟨x, h1, ⟨_, rfl, h2⟩, h3⟩
  · exact (value_6 v l w hr hlen).mono fun e w' ⟨x, h1, h2, h3⟩ => ⟨x, h1, ⟨_, rfl, h2⟩, h3⟩
  · exact (value_7 v l w hr hlen).mono fun e w' ⟨x, h1, h2, h3⟩ => ⟨x, h1, ⟨_, rfl, h2⟩, h3⟩
  · exact (value_8 v l w hr hlen).mono fun e w' ⟨x, h1, h2, h3⟩ => ⟨x, h1, ⟨_, rfl, h2⟩, h3⟩
  · exact (value_9 v l w hr hlen).mono fun e w' ⟨x, h1, h2, h3⟩ => ⟨x, h1, ⟨_, rfl, h2⟩, h3⟩
  · exact (value_10 v l w hr hlen).mono fun e w' ⟨x, h1, h2, h3⟩ => ⟨x, h1, ⟨_, rfl, h2⟩, h3⟩
  · exact (value_11 v l w hr hlen).mono fun e w' ⟨x, h1, h2, h3⟩ => ⟨x, h1, ⟨_, rfl, h2⟩, h3⟩

/-- a list that is grown -/
def GL (L : List El) : Prop := (∀ j, j < L.length → ft L j = 0) ∧ ∀ x ∈ L, x.1.data.toList ∈ stAL ∧ x.2.size ≤ 19
theorem GL.nil : GL [] := ⟨fun j hj => by simp at hj, fun x hx => by cases hx⟩
theorem hsB_no {L : List El} {a : List UInt8} (h : ∀ x ∈ L, x.1.data.toList ≠ a) : hsB L a = false := by
  unfold hsB
  rw [plc_none h]
  rfl
theorem stAL_02 : ∀ a ∈ stAL, a ≠ [48, 50] ∧ a ≠ [51, 55] := by decide
theorem GL.snoc {L : List El} {a x : ByteArray} {k : Int} (h : GL L) (hs : a.data.toList ∈ stAL) (hk : kfind a.data.toList = some k) (hx : VOk k x) (hno : ∀ y ∈ L, y.1.data.toList ≠ a.data.toList) : GL (L ++ [(a, x)]) := by
  refine ⟨ft_app h.1 ?_, fun y hy => ?_⟩
  · unfold ftE
    rw [hk]
    simp only
    have hc : clE L a.data.toList = 0 := by
      unfold clE
      rw [hsB_no hno, if_neg (by simp), if_neg]
      rintro (⟨h1, h2⟩ | ⟨h1, h2⟩)
      · rw [hsB_no (fun y hy => (stAL_02 _ (h.2 y hy).1).1)] at h2
        cases h2
      · exact (stAL_02 _ hs).1 h1
    rw [if_neg (by simpa using hc)]
    exact hx.1
  · rcases List.mem_append.1 hy with hy | hy
    · exact h.2 y hy
    · rw [List.mem_singleton.1 hy]
      exact ⟨hs, hx.2⟩
/-- does one of the first j have this Ai? -/
def tw (L : List El) (a : List UInt8) (j : Nat) : Bool := (L.take j).any fun x => x.1.data.toList == a
theorem tw_step {L : List El} {a : List UInt8} {j : Nat} (h : j < L.length) : tw L a (j + 1) = (tw L a j || (L[j].1.data.toList == a)) := by
  unfold tw
  rw [List.take_add_one, List.getElem?_eq_getElem h, List.any_append]
  simp
theorem tw_no {L : List El} {a : List UInt8} (h : tw L a L.length = false) : ∀ y ∈ L, y.1.data.toList ≠ a := by
  intro y hy e
  unfold tw at h
  rw [List.take_length] at h
  have := List.any_eq_false.1 h y hy
  simp [e] at this
theorem RE.form {w : World} {v : Value} {L : List El} (h : RE w v L) : ∃ ao cap, v = .slice ao L.length cap := by
  rcases h with ⟨rfl, ao, cap, rfl, _⟩ | ⟨b, off, cap, rfl, _⟩
  · exact ⟨_, _, rfl⟩
  · exact ⟨_, _, rfl⟩
theorem RE.here {w : World} {v : Value} {L : List El} (h : RE w v L) (hl : 0 < L.length) : ∃ b off cap, v = .slice (some ⟨b, off, none⟩) L.length cap ∧ L.length ≤ cap ∧ ∀ j (hj : j < L.length), w.cell? ⟨b, off + j * 2, none⟩ = some (.string L[j].1) ∧ w.cell? ⟨b, off + j * 2 + 1, none⟩ = some (.string L[j].2) := by
  rcases h with ⟨rfl, _⟩ | h
  · simp at hl
  · exact h
/-- a list of items that came in -/
def IT (w : World) (v : Value) (n : Nat) : Prop := n ≤ 9223372036854775807 ∧ ∃ ao cap, v = .slice ao n cap ∧ n ≤ cap ∧ ∀ j, j < n → ∃ b off, ao = some ⟨b, off, none⟩ ∧ ∃ z r l, w.cell? ⟨b, off + j * 2, none⟩ = some (.int .i64 z) ∧ w.cell? ⟨b, off + j * 2 + 1, none⟩ = some r ∧ Reads w r l ∧ l.length ≤ 9223372036854775807

set_option maxHeartbeats 8000000 in
theorem grown_any (v : Value) (n : Nat) (w : World) (hit : IT w v n) :
    Calls Tryd.prog 4 #[v] w fun e w' => (∃ lv L, e = .returned (.tuple #[lv, .bool true]) ∧ OE w' w.heap.size lv L ∧ GL L ∧ L.length ≤ 12) ∧ Below w.heap.size w w' := by
  obtain ⟨hn, ao, cap, rfl, hcap, hcell⟩ := hit
  have HC := hid hcell
  clear hcell
  go_enter Tryd.func4, Tryd.ntmps4
  go_wp2_with fail
  go_loopw [4, 5] (fun lv i wr => ∃ (k : Nat) (L : List El), i = .int .i64 (k : Int) ∧ k ≤ n ∧ OE wr w.heap.size lv L ∧ GL L ∧ L.length ≤ 12 ∧ Below w.heap.size w wr) (fun _ i _ => n - (intOf i).toNat)
  case atStart => exact ⟨0, [], rfl, by omega, OE.nil _ _, GL.nil, by simp, Below.refl _ _⟩
  case round =>
    obtain ⟨k, L, rfl, hk, hO, hG, hL, hb⟩ := hrel
    have HO := hid hO
    have HG := hid hG
    have HB := hid hb
    have hz := hb.size
    clear hO hG hb
    obtain ⟨lo, lc, rfl⟩ := HO.out.reads.form
    by_cases hlt : k < n
    · have hI : (k : Int) < (n : Int) := by omega
      by_cases hl12 : L.length < 12
      · have hl12I : (L.length : Int) < 12 := by omega
        obtain ⟨b, off, rfl, z, r, l, c0, c1, hr, hlen⟩ := HC.out k hlt
        have c0 := below_cells HB.out _ _ c0
        have c1 := below_cells HB.out _ _ c1
        have HRr := hid (hr.below HB.out)
        have HLl := hid hlen
        clear hr hlen
        have HS := hid (stock_any z wr)
        obtain ⟨wo, rfl⟩ : ∃ wo, wo = wr := ⟨_, rfl⟩
        go_wp2_with fail
        refine Calls.mono HS.out ?_
        rintro e wz ⟨⟨a, sn, rfl, hst⟩, hwz⟩
        have hws := hwz.symm
        clear hwz HS
        subst hws
        have HST := hid hst
        clear hst
        go_wp2_with fail
        go_loopw [8, 9] (fun t i wx => ∃ j : Nat, j ≤ L.length ∧ i = .int .i64 (j : Int) ∧ wx = wo ∧ t = .bool (tw L a.data.toList j)) (fun _ i _ => L.length - (intOf i).toNat)
        case atStart => exact ⟨0, by omega, rfl, rfl, rfl⟩
        case round =>
          obtain ⟨j, hj, rfl, hw, rfl⟩ := hrel
          have hws := hw.symm
          clear hw
          subst hws
          by_cases hjl : j < L.length
          · have hjI : (j : Int) < (L.length : Int) := by omega
            obtain ⟨b2, off2, cap2, hv, hcap2, hcell⟩ := HO.out.reads.here (by omega)
            cases hv
            have d0 := (hcell j hjl).1
            clear hcell
            have HT := hid (tw_step (a := a.data.toList) hjl)
            obtain ⟨t0, ht0⟩ : ∃ t0, tw L a.data.toList j = t0 := ⟨_, rfl⟩
            rw [ht0] at HT ⊢
            clear ht0
            cases t0 with
            | true =>
              rw [Bool.true_or] at HT
              go_wp2
              go_roundw
              case rel => exact ⟨j + 1, by omega, by go_num, by simp, by rw [HT.out]⟩
              case measure => simp [intOf]; omega
            | false =>
              rw [Bool.false_or] at HT
              by_cases he : L[j].1.data.toList = a.data.toList
              · have hb : ((L[j]'hjl).1.toList == a.toList) = true := by rw [ByteArray.toList_eq, ByteArray.toList_eq, he]; simp
                have HT2 := hid (HT.out.trans (by rw [he]; simp : _ = true))
                go_wp2
                go_roundw
                case rel => exact ⟨j + 1, by omega, by go_num, by simp, by rw [HT2.out]⟩
                case measure => simp [intOf]; omega
              · have hb : ((L[j]'hjl).1.toList == a.toList) = false := by rw [ByteArray.toList_eq, ByteArray.toList_eq]; exact beq_eq_false_iff_ne.2 he
                have HT2 := hid (HT.out.trans (beq_eq_false_iff_ne.2 he))
                go_wp2
                go_roundw
                case rel => exact ⟨j + 1, by omega, by go_num, by simp, by rw [HT2.out]⟩
                case measure => simp [intOf]; omega
          · have hjI : ¬ (j : Int) < (L.length : Int) := by omega
            have hjL : j = L.length := by omega
            subst hjL
            cases htw : tw L a.data.toList L.length with
            | true =>
              clear htw
              go_wp2
              go_roundw
              case rel => exact ⟨k + 1, L, by go_num, by omega, HO.out, HG.out, by omega, HB.out⟩
              case measure => simp [intOf]; omega
            | false =>
              have HN := hid (tw_no htw)
              clear htw
              have HV := hid (value_any a sn r l wo HST.out HRr.out HLl.out)
              go_wp2_with fail
              refine Calls.mono HV.out ?_
              rintro e WX ⟨X, rfl, ⟨kk, hkk, hok⟩, hbv⟩
              have HGn := hid (HG.out.snoc HST.out.mem hkk hok HN.out)
              have OX := hid (HO.out.later hbv)
              have BX := hid (HB.out.trans (hbv.mono HB.out.size))
              clear hkk hok hbv HV HN
              have R1 := hid (RE.one WX a X)
              have O6 := hid (OX.out.alloc (.cells #[.string a, .string X] 36))
              have B6 := hid (BX.out.alloc BX.out.size (.cells #[.string a, .string X] 36))
              go_wp2_with (at_builtin; refine wpList_appE rfl _ _ rfl w.heap.size _ L rfl O6.out _ [(a, X)] rfl R1.out ?hlen2 B6.out.size ?hnext2)
              case hlen2 => show (L.length + 1) * 32 ≤ _; omega
              case hnext2 =>
                intro v5 w5 ho5 hg5
                have s5 : WX.grownBy w5 (Value.slice lo L.length lc).ownBlock := gb_trans (gb_alloc _ _ _) hg5
                have O7 := hid ho5
                have B7 := hid (BX.out.grown s5 BX.out.size (fun j hj => (World.ownsRow.lt OX.out j hj).1))
                clear ho5 hg5 s5 R1 O6 B6
                go_wp2
                go_roundw
                case rel => exact ⟨k + 1, L ++ [(a, X)], by go_num, by omega, O7.out, HGn.out, by simp; omega, B7.out⟩
                case measure => simp [intOf]; omega
      · have hl12I : ¬ (L.length : Int) < 12 := by omega
        go_wp2
        go_ret2
        exact ⟨⟨_, rfl, L, HO.out, HG.out, hL⟩, HB.out⟩
    · have hI : ¬ (k : Int) < (n : Int) := by omega
      go_wp2
      go_ret2
      exact ⟨⟨_, rfl, L, HO.out, HG.out, hL⟩, HB.out⟩

theorem ba_of {a : ByteArray} {l : List UInt8} (h : a.data.toList = l) : a = ⟨l.toArray⟩ := by
  cases a with | mk x =>
  subst h
  simp
theorem st_cases {a : ByteArray} (h : a.data.toList ∈ stAL) : a = ⟨#[48, 48]⟩ ∨ a = ⟨#[48, 49]⟩ ∨ a = ⟨#[49, 48]⟩ ∨ a = ⟨#[49, 55]⟩ ∨ a = ⟨#[50, 48]⟩ ∨ a = ⟨#[50, 49]⟩ ∨ a = ⟨#[51, 48]⟩ ∨ a = ⟨#[51, 49, 48, 51]⟩ ∨ a = ⟨#[51, 57, 50, 50]⟩ ∨ a = ⟨#[52, 49, 52]⟩ ∨ a = ⟨#[56, 48, 48, 53]⟩ ∨ a = ⟨#[57, 49]⟩ := by
  unfold stAL at h
  simp only [List.mem_cons, List.not_mem_nil, or_false] at h
  rcases h with h | h | h | h | h | h | h | h | h | h | h | h <;> have h := ba_of h
  · exact .inl h
  · exact .inr (.inl h)
  · exact .inr (.inr (.inl h))
  · exact .inr (.inr (.inr (.inl h)))
  · exact .inr (.inr (.inr (.inr (.inl h))))
  · exact .inr (.inr (.inr (.inr (.inr (.inl h)))))
  · exact .inr (.inr (.inr (.inr (.inr (.inr (.inl h))))))
  · exact .inr (.inr (.inr (.inr (.inr (.inr (.inr (.inl h)))))))
  · exact .inr (.inr (.inr (.inr (.inr (.inr (.inr (.inr (.inl h))))))))
  · exact .inr (.inr (.inr (.inr (.inr (.inr (.inr (.inr (.inr (.inl h)))))))))
  · exact .inr (.inr (.inr (.inr (.inr (.inr (.inr (.inr (.inr (.inr (.inl h))))))))))
  · exact .inr (.inr (.inr (.inr (.inr (.inr (.inr (.inr (.inr (.inr (.inr (h)))))))))))
theorem st_len : ∀ a ∈ stAL, a.length ≤ 4 := by decide
theorem st_400 : ∀ a ∈ stAL, a ≠ [52, 48, 48] := by decide
theorem GL.lone {L : List El} (h : GL L) : loI L < 0 := by
  unfold loI
  rw [loN_none]
  · omega
  · intro x hx
    have := stAL_02 _ (h.2 x hx).1
    unfold lnB
    rw [decide_eq_false this.1, decide_eq_false this.2]
    rfl
theorem scP_step {L : List El} {i : Nat} (h : i < L.length) : (scP L (i + 1)).length = (scP L i).length + (L[i]).1.size + (L[i]).2.size + (if plB (L[i]).1.data.toList = false ∧ i + 1 < L.length then 1 else 0) := by
  rw [scP, List.length_append, sg_at h, List.length_append, List.length_append, len_list, len_list]
  by_cases hc : plB (L[i]).1.data.toList = false ∧ i + 1 < L.length
  · rw [if_pos hc, if_pos hc]; simp; omega
  · rw [if_neg hc, if_neg hc]; simp; omega
theorem GL.sc {L : List El} (h : GL L) : ∀ i, i ≤ L.length → (scP L i).length ≤ 24 * i := by
  intro i
  induction i with
  | zero => intro _; simp [scP]
  | succ i ih =>
    intro hi
    have h1 := ih (by omega)
    have h2 := h.2 _ (List.getElem_mem (show i < L.length by omega))
    have h3 := st_len _ h2.1
    rw [len_list] at h3
    rw [scP_step (by omega)]
    split <;> omega
theorem GL.sh {L : List El} (h : GL L) : ∀ i, i ≤ L.length → (shP L i).length ≤ 44 * i := by
  intro i
  induction i with
  | zero => intro _; simp [shP]
  | succ i ih =>
    intro hi
    have h1 := ih (by omega)
    have h2 := h.2 _ (List.getElem_mem (show i < L.length by omega))
    have h3 := st_len _ h2.1
    have h4 := shV_len (L[i]'(by omega)).2.data.toList
    rw [len_list] at h4
    rw [shP, List.length_append, she_at (by omega), List.length_append, List.length_append, List.length_append]
    simp only [List.length_cons, List.length_nil]
    omega
theorem GL.prt {L : List El} (h : GL L) (hl : L.length ≤ 12) : PrA L ⟨(scP L L.length).toArray⟩ 0 0 :=
  .inr ⟨h.1, .inr (.inr ⟨h.lone, by have := h.sc L.length (Nat.le_refl _); omega, by simp, rfl, rfl⟩)⟩
theorem GL.shw {L : List El} (h : GL L) (hl : L.length ≤ 12) : PsA L ⟨(shP L L.length).toArray⟩ 0 0 := ⟨_, h.prt hl, .inr ⟨rfl, by simp⟩⟩
theorem GL.pse {L : List El} (h : GL L) (hl : L.length ≤ 12) : PaA (⟨(scP L L.length).toArray⟩ : ByteArray).data.toList L 0 0 := by
  have := PaA.fwd h.1 h.lone (by have := h.sc L.length (Nat.le_refl _); omega)
  simpa using this
theorem GL.psh {L : List El} (h : GL L) (hl : L.length ≤ 12) : ShA (⟨(shP L L.length).toArray⟩ : ByteArray).data.toList L 0 0 := by
  have := ShA.fwd h.1 (h.prt hl) (by have := h.sh L.length (Nat.le_refl _); omega)
  simpa using this
end Go.Proofs.YtpplkoilpblpkaaDoor
