/-
  Sheets: a cell ended, a row ended. Laid by v18.py.
-/
import Derived.Test.YtpgpeafmlijfkaaGreatDoorSq5
namespace Go.Proofs.YtpgpeafmlijfkaaGreatDoor
open Go.RowKit
set_option maxRecDepth 100000
set_option linter.unusedVariables false
set_option linter.unusedSimpArgs false

theorem freeze_other (w : World) (g n k : Nat) (h : k ≠ g) : (w.freeze ⟨g, 0, none⟩ n).heap[k]? = w.heap[k]? := by
  unfold World.freeze
  split
  · rfl
  · simp only [Array.getElem?_modify]
    rw [if_neg (fun e => h e.symm)]
theorem freeze_rest (w : World) (g n : Nat) : (w.freeze ⟨g, 0, none⟩ n).os = w.os ∧ (w.freeze ⟨g, 0, none⟩ n).tape = w.tape ∧ (w.freeze ⟨g, 0, none⟩ n).output = w.output ∧ (w.freeze ⟨g, 0, none⟩ n).heap.size = w.heap.size := by
  unfold World.freeze
  split
  · exact ⟨rfl, rfl, rfl, rfl⟩
  · exact ⟨rfl, rfl, rfl, by simp⟩

theorem rowEnd_any (A : Nat → Addr) (G : Nat → Prop) (b : Nat) (s : Rs) (w : World) (hcl : s.cs.length ≤ 1000000) (h : RX A G w b s) :
    Calls Tryz.prog 98 #[.pointer (some ⟨b, 10, none⟩)] w fun e w' => Stp A G w b s.cel e w' := by
  obtain ⟨bp, bv, cv, tv, V, h⟩ := h
  obtain ⟨W1, hs, hW, h1, h2, h3, h4⟩ : ∃ W1, (Calls Tryz.prog 66 #[.pointer (some ⟨b, 10, none⟩)] w.drew fun e w' => e = .returned (.string ⟨s.cur.toArray⟩) ∧ w' = W1) ∧ (∀ k, bv.ownBlock ≠ some k → W1.heap[k]? = w.heap[k]?) ∧ W1.os = w.os ∧ W1.tape = w.tape ∧ W1.output = w.output ∧ W1.heap.size = w.heap.size := by
    by_cases hz : s.cur = []
    · have hb := h.bz hz
      have ht := h.top
      rw [hb] at ht
      refine ⟨w.drew.drew, ?_, fun k _ => rfl, rfl, rfl, rfl, rfl⟩
      rw [hz]
      exact string_nil b w.drew ht
    · have hb := h.buf
      have ht := h.top
      rcases h.buf.2 with ⟨_, hl⟩ | ⟨g, cap, cur, hv, _⟩
      · exact absurd (List.eq_nil_of_length_eq_zero hl) hz
      · rw [hv] at hb ht
        obtain ⟨f1, f2, f3, f4⟩ := freeze_rest w.drew.drew g s.cur.length
        refine ⟨w.drew.drew.freeze ⟨g, 0, none⟩ s.cur.length, string_some b s.cur g cap w.drew ht hb hz, fun k hk => ?_, f1, f2, f3, f4⟩
        exact freeze_other w.drew.drew g _ k (by rintro rfl; exact hk (by rw [hv]; rfl))
  have nb1 : bv.ownBlock ≠ some b := own_ne h.buf h.top (by decide)
  have ht1 : RB W1 b (nxV b s.md) s.sz s.hp s.op s.ep s.rw s.wd bp bv cv tv s.fp (erV A s.er) false := (hW b nb1).trans h.top
  have hc1 : W1.ownsRow 0 9 1 cv s.cs.length (tl s.cs) := own_of h.cel fun g hg => hW g (own_two h.cel h.buf (by decide) g hg)
  refine (rowEnd_of b s.cur s.cs w W1 h.top hs ht1 hc1 hcl).mono ?_
  rintro e w' ⟨rfl, u, k1, k2, k3, k4, k5, k6, k7, k8⟩
  have all : ∀ k, k < w.heap.size → k ≠ b → bv.ownBlock ≠ some k → cv.ownBlock ≠ some k → w'.heap[k]? = w.heap[k]? := fun k hk a1 a2 a3 => (k3 k (by omega) a1 a3).trans (hW k a2)
  refine ⟨rfl, ⟨.pointer none, .slice none 0 0, u, tv, V, ?_⟩, ⟨k5.trans h1, k6.trans h2, k7.trans h3, by omega, fun k hk => all k (h.gs k hk) (fun e => h.nb (e ▸ hk)) (fun e => h.nbv k e hk) (fun e => h.ncv k e hk)⟩⟩
  exact { gs := fun k hk => by have := h.gs k hk; omega, nb := h.nb, nbv := by simp [Value.ownBlock],
          ncv := fun g hg hk => by
            rcases k4 with hu | ⟨g', hg', hge⟩
            · exact h.ncv g (hu ▸ hg) hk
            · rw [hg'] at hg
              cases hg
              have := h.gs _ hk
              omega,
          ntv := h.ntv, top := k1, bpo := .inl rfl, bz := fun _ => rfl, buf := World.ownsRow_nil _ _ _ _, cel := by simpa [Rs.cel] using k2,
          tol := own_of h.tol fun g hg => all g (World.ownsRow.lt h.tol g hg).2 (fun e => own_ne h.tol h.top (by decide) (e ▸ hg)) (own_two h.tol h.buf (by decide) g hg) (own_two h.tol h.cel (by decide) g hg),
          rws := ⟨h.rws.len, fun j hj hv => own_of (h.rws.row j hj hv) fun g hg => all g (World.ownsRow.lt (h.rws.row j hj hv) g hg).2 (fun e => own_ne (h.rws.row j hj hv) h.top (by decide) (e ▸ hg)) (own_two (h.rws.row j hj hv) h.buf (by decide) g hg) (h.ap _ (List.getElem_mem hv) g hg)⟩,
          ap := fun v hv g hg hu => by
            rcases k4 with hu' | ⟨g', hg', hge⟩
            · exact h.ap v hv g hg (hu' ▸ hu)
            · rw [hg'] at hu
              cases hu
              obtain ⟨j, hj, rfl⟩ := List.mem_iff_getElem.1 hv
              have := (World.ownsRow.lt (h.rws.row j (by rw [← h.rws.len]; exact hj) hj) g hg).2
              omega,
          vlt := h.vlt, dis := h.dis }

/-- behind a new block -/
theorem RX.alloc {A : Nat → Addr} {G : Nat → Prop} {w : World} {b : Nat} {s : Rs} (h : RX A G w b s) (o : Obj) : RX A G (w.alloc o) b s := by
  obtain ⟨bp, bv, cv, tv, V, h⟩ := h
  exact ⟨bp, bv, cv, tv, V, ⟨fun k hk => Nat.lt_of_lt_of_le (h.gs k hk) (by simp), h.nb, h.nbv, h.ncv, h.ntv, h.top.alloc _, h.bpo, h.bz, h.buf.alloc _, h.cel.alloc _, h.tol.alloc _, ⟨h.rws.len, fun j hj hv => (h.rws.row j hj hv).alloc _⟩, h.ap, h.vlt, h.dis⟩⟩
theorem RX.drewN {A : Nat → Addr} {G : Nat → Prop} {w : World} {b : Nat} {s : Rs} (h : RX A G w b s) : ∀ n, RX A G (w.drewN n) b s
  | 0 => h
  | n + 1 => RX.drew (RX.drewN h n)
theorem drewN_heap (w : World) : ∀ n, (w.drewN n).heap = w.heap
  | 0 => rfl
  | n + 1 => drewN_heap w n
theorem Kg.drewN {G : Nat → Prop} {a w : World} (h : Kg G a w) : ∀ n, Kg G a (w.drewN n)
  | 0 => h
  | n + 1 => Kg.drew (Kg.drewN h n)
theorem Kg.of_drewN {G : Nat → Prop} {w w' : World} : ∀ n, Kg G (w.drewN n) w' → Kg G w w'
  | 0, h => h
  | n + 1, h => Kg.of_drewN n (Kg.of_drew h)
set_option maxHeartbeats 1000000 in
theorem endRow_bad (A : Nat → Addr) (G : Nat → Prop) (b : Nat) (s : Rs) (p : Nat × Nat) (w : World) (hE : Lea A G w) (h : RX A G w b s) (hr : 0 < s.rw) (hc : s.cs.length ≠ s.wd) :
    Calls Tryz.prog 99 #[.pointer (some ⟨b, 0, none⟩), plV p] w fun e w' => Stp A G w b (s.fail 8 p) e w' := by
  obtain ⟨w1, hw1⟩ : ∃ w1, w1 = w.alloc (.cells #[.int .i64 (p.1 : Int), .int .i64 (p.2 : Int)] 70) := ⟨_, rfl⟩
  have hx1 : RX A G w1 b s := hw1 ▸ h.alloc _
  have hk1 : Kg G w w1 := hw1 ▸ (Kg.refl G w).alloc (by obtain ⟨_, _, _, _, _, h⟩ := h; exact h.gs) _
  have hn : w1.heap[w.heap.size]? = some (.cells #[.int .i64 (p.1 : Int), .int .i64 (p.2 : Int)] 70 (0, 0)) := hw1 ▸ heap_alloc_new _ _
  have n0 : w1.cell? ⟨w.heap.size, 0, none⟩ = some (.int .i64 (p.1 : Int)) := by rw [Lib.cell_of_heap hn]; rfl
  have n1 : w1.cell? ⟨w.heap.size, 1, none⟩ = some (.int .i64 (p.2 : Int)) := by rw [Lib.cell_of_heap hn]; rfl
  have g8 := (hE.kept hk1).er.e8
  have HF := hid (fun n => fail_any A G b s 8 (by decide) p (w1.drewN n) (hx1.drewN n))
  obtain ⟨bp, bv, cv, tv, V, hx⟩ := hx1
  obtain ⟨ao, cp, rfl⟩ := own_slice hx.cel
  have c8 := hx.top.c8
  have c12 := hx.top.c12
  have c9 := hx.top.c9
  have hd : decide ((0 : Int) < (s.rw : Int)) = true := by simp; omega
  have hq : ((s.cs.length : Int) != (s.wd : Int)) = true := by simp; omega
  have hi1 : (0 : Int) < (s.rw : Int) := by omega
  have hd2 : decide (0 < s.rw) = true := by simp; omega
  have hq2 : (s.cs.length == s.wd) = false := by simp; omega
  have HK := hid hk1
  have HW1 := hid hw1
  clear h hx hE hk1 hn
  unfold plV
  go_enter Tryz.func99, Tryz.ntmps99
  go_wp2_with fail
  rw [← hw1]
  clear hw1
  go_quiet (fail)
  go_wp2_with fail
  refine Calls.mono (HF.out _) ?_
  rintro e w' ⟨rfl, hx, hk⟩
  go_wp2
  go_end0
  exact ⟨rfl, hx, HK.out.trans (Kg.of_drewN _ hk)⟩
theorem endRow_rest {A : Nat → Addr} {G : Nat → Prop} {w1 : World} {b : Nat} {s : Rs} {bp bv cv tv : Value} {V : List Value} (hx : RM A G w1 b s bp bv cv tv V) (X : World) (hX : Kg (But w1 b) w1 X) (hr : ∀ k, k < w1.heap.size → k ≠ b → X.heap[k]? = w1.heap[k]?) (hXs : X.heap.size = w1.heap.size)
    (ht : RB X b (nxV b s.md) s.sz s.hp s.op s.ep (s.rw + 1) s.cs.length bp bv cv tv s.fp (erV A s.er) false) (htd : s.td.length ≤ 1000000) :
    ∃ v' w3, (Builtin.append_ #[30, 30] 30 #[tv, .slice (some ⟨X.heap.size, 0, none⟩) 1 1]).run Tryz.prog (X.drew.alloc (.cells #[cv] 28)) = .ok v' w3 ∧ (∃ ao n cap, v' = .slice ao n cap)
      ∧ RB w3 b (nxV b s.md) s.sz s.hp s.op s.ep (s.rw + 1) s.cs.length bp bv cv tv s.fp (erV A s.er) false
      ∧ RX A G (((((w3.setCell ⟨b, 13, none⟩ v').setCell ⟨b, 10, none⟩ (.pointer none)).setCell ⟨b, 11, none⟩ (.slice none 0 0)).setCell ⟨b, 12, none⟩ (.slice none 0 0)).setCell ⟨b, 0, none⟩ (nxV b 1)) b { s with rw := s.rw + 1, wd := s.cs.length, td := s.td ++ [s.cs], cur := [], cs := [], md := 1 }
      ∧ Kg G w1 (((((w3.setCell ⟨b, 13, none⟩ v').setCell ⟨b, 10, none⟩ (.pointer none)).setCell ⟨b, 11, none⟩ (.slice none 0 0)).setCell ⟨b, 12, none⟩ (.slice none 0 0)).setCell ⟨b, 0, none⟩ (nxV b 1)) := by
  obtain ⟨i, hi, hz, hsz, hby⟩ := info_parts ssi
  obtain ⟨W2, hW2⟩ : ∃ W2, W2 = X.drew.alloc (.cells #[cv] 28) := ⟨_, rfl⟩
  obtain ⟨r1, r2, r3, r4⟩ := hx.rows hX
  have old : ∀ k, k < w1.heap.size → W2.heap[k]? = X.heap[k]? := fun k hk => by rw [hW2]; exact Lib.alloc_old X.drew _ k (by show k < X.heap.size; omega)
  have lt1 : b < w1.heap.size := hx.top.lt
  have h2 : RB W2 b (nxV b s.md) s.sz s.hp s.op s.ep (s.rw + 1) s.cs.length bp bv cv tv s.fp (erV A s.er) false := (old b lt1).trans ht
  have hn2 : W2.heap[X.heap.size]? = some (.cells #[cv] 28 (0, 0)) := by rw [hW2]; exact heap_alloc_new X.drew _
  have ho2 : W2.ownsRow 0 28 1 tv V.length V := own_of r3 fun g hg => old g (World.ownsRow.lt hx.tol g hg).2
  have hz2 : W2.heap.size = w1.heap.size + 1 := by rw [hW2]; simp; exact hXs
  have hVl : V.length ≤ 1000000 := by rw [hx.rws.len]; exact htd
  obtain ⟨co, cc, hcv⟩ := own_slice hx.cel
  have hvone : ∀ u ∈ V, u.oneCell' = true := by
    intro u hu
    obtain ⟨j, hj, rfl⟩ := List.mem_iff_getElem.1 hu
    obtain ⟨a, c, e⟩ := own_slice (hx.rws.row j (by rw [← hx.rws.len]; exact hj) hj)
    rw [e]
    rfl
  obtain ⟨v', w3, hrun, hown, hgrow, _, hblk⟩ := run_append_own_at (P := Tryz.prog) W2 0 30 30 28 i _ 1 24 Tryz.underlying30 hi hz hsz hby rfl (by decide) _ _ _ ho2 ⟨X.heap.size, 0, none⟩ 1 1 [cv] rfl (by
    intro j u hj
    match j, hj with
    | 0, hj => simp at hj; subst hj; rw [Addr.add_lit, Lib.cell_of_heap hn2]; rfl) (by intro u hu; simp at hu; subst hu; rw [hcv]; rfl) (by unfold maxLen; omega) (by omega) (Nat.zero_le _)
  have hne : tv.ownBlock ≠ some b := own_ne ho2 h2 (by decide)
  have h3 : RB w3 b (nxV b s.md) s.sz s.hp s.op s.ep (s.rw + 1) s.cs.length bp bv cv tv s.fp (erV A s.er) false := (hgrow.block b (by omega) (fun e => hne e.symm)).trans h2
  have hne3 : v'.ownBlock ≠ some b := own_ne hown h3 (by decide)
  have q1 := set_grown w3 b 13 v'
  have q2 := set_grown (w3.setCell ⟨b, 13, none⟩ v') b 10 (.pointer none)
  have q3 := set_grown ((w3.setCell ⟨b, 13, none⟩ v').setCell ⟨b, 10, none⟩ (.pointer none)) b 11 (.slice none 0 0)
  have q4 := set_grown (((w3.setCell ⟨b, 13, none⟩ v').setCell ⟨b, 10, none⟩ (.pointer none)).setCell ⟨b, 11, none⟩ (.slice none 0 0)) b 12 (.slice none 0 0)
  have q5 := set_grown ((((w3.setCell ⟨b, 13, none⟩ v').setCell ⟨b, 10, none⟩ (.pointer none)).setCell ⟨b, 11, none⟩ (.slice none 0 0)).setCell ⟨b, 12, none⟩ (.slice none 0 0)) b 0 (nxV b 1)
  have hfr := ((((h3.put13 v').put10 (.pointer none)).put11 (.slice none 0 0)).put12 (.slice none 0 0)).put0 (nxV b 1)
  have hownZ := own_keep (own_keep (own_keep (own_keep (own_keep hown q1 hne3) q2 hne3) q3 hne3) q4 hne3) q5 hne3
  have s0 := hgrow.size
  have s1 := q1.size
  have s2 := q2.size
  have s3 := q3.size
  have s4 := q4.size
  have s5 := q5.size
  have o1 : w3.os = w1.os := by rw [hgrow.os, hW2]; exact hX.os
  have o2 : w3.tape = w1.tape := by rw [hgrow.tape, hW2]; exact hX.tape
  have o3 : w3.output = w1.output := by rw [hgrow.output, hW2]; exact hX.output
  have z1 := (((q5.os.trans q4.os).trans q3.os).trans q2.os).trans q1.os
  have z2 := (((q5.tape.trans q4.tape).trans q3.tape).trans q2.tape).trans q1.tape
  have z3 := (((q5.output.trans q4.output).trans q3.output).trans q2.output).trans q1.output
  have blk : ∀ k, k < w3.heap.size → k ≠ b → (((((w3.setCell ⟨b, 13, none⟩ v').setCell ⟨b, 10, none⟩ (.pointer none)).setCell ⟨b, 11, none⟩ (.slice none 0 0)).setCell ⟨b, 12, none⟩ (.slice none 0 0)).setCell ⟨b, 0, none⟩ (nxV b 1)).heap[k]? = w3.heap[k]? := fun k hk hkb => by
    have hne : some k ≠ some b := fun e => hkb (by cases e; rfl)
    rw [q5.block k (by omega) hne, q4.block k (by omega) hne, q3.block k (by omega) hne, q2.block k (by omega) hne, q1.block k hk hne]
  obtain ⟨Z, hZ⟩ : ∃ Z, Z = (((((w3.setCell ⟨b, 13, none⟩ v').setCell ⟨b, 10, none⟩ (.pointer none)).setCell ⟨b, 11, none⟩ (.slice none 0 0)).setCell ⟨b, 12, none⟩ (.slice none 0 0)).setCell ⟨b, 0, none⟩ (nxV b 1)) := ⟨_, rfl⟩
  refine ⟨v', w3, (by rw [hW2] at hrun; exact hrun), (by obtain ⟨a, c, e⟩ := own_slice hown; exact ⟨_, _, _, e⟩), h3, ?_⟩
  rw [← hZ] at hfr hownZ s5 z1 z2 z3 blk ⊢
  clear q1 q2 q3 q4 q5 hZ
  have all : ∀ k, k < w1.heap.size → k ≠ b → tv.ownBlock ≠ some k → Z.heap[k]? = w1.heap[k]? := fun k hk a1 a2 => by
    rw [blk k (by omega) a1, hgrow.block k (by omega) (fun e => a2 e.symm), old k hk, hr k hk a1]
  refine ⟨⟨.pointer none, .slice none 0 0, .slice none 0 0, v', V ++ [cv], ?_⟩, ⟨z1.trans o1, z2.trans o2, z3.trans o3, by omega, fun k hk => all k (hx.gs k hk) (fun e => hx.nb (e ▸ hk)) (fun e => hx.ntv k e hk)⟩⟩
  have row : ∀ {v : Value} {n : Nat} {xs : List Value}, w1.ownsRow 0 9 1 v n xs → Z.ownsRow 0 9 1 v n xs := fun {v n xs} ho => own_of ho fun g hg => all g (World.ownsRow.lt ho g hg).2 (fun e => own_ne ho hx.top (by decide) (e ▸ hg)) (own_two ho hx.tol (by decide) g hg)
  exact { gs := fun k hk => by have := hx.gs k hk; omega, nb := hx.nb, nbv := by simp [Value.ownBlock], ncv := by simp [Value.ownBlock],
          ntv := fun g hg hk => by
            rcases hblk with hu | hu
            · exact hx.ntv g (hu ▸ hg) hk
            · rw [hu] at hg
              cases hg
              have := hx.gs _ hk
              omega,
          top := hfr, bpo := .inl rfl, bz := fun _ => rfl, buf := World.ownsRow_nil _ _ _ _, cel := World.ownsRow_nil _ _ _ _, tol := by simpa using hownZ,
          rws := RwS.snoc ⟨hx.rws.len, fun j hj hv => row (hx.rws.row j hj hv)⟩ (row hx.cel),
          ap := by simp [Value.ownBlock],
          dis := hx.dis.snoc hx.ap,
          vlt := fun v hv g hg => by
            rcases List.mem_append.1 hv with hv | hv
            · exact hx.vlt v hv g hg
            · simp at hv; subst hv; exact hx.ncv g hg }
set_option maxHeartbeats 1000000 in
theorem endRow_ok (A : Nat → Addr) (G : Nat → Prop) (b : Nat) (s : Rs) (p : Nat × Nat) (w : World) (hE : Lea A G w) (h : RX A G w b s) (hn : ¬ (0 < s.rw ∧ s.cs.length ≠ s.wd)) (hrw : s.rw ≤ 1000000) (htd : s.td.length ≤ 1000000) :
    Calls Tryz.prog 99 #[.pointer (some ⟨b, 0, none⟩), plV p] w fun e w' => Stp A G w b { s with rw := s.rw + 1, wd := s.cs.length, td := s.td ++ [s.cs], cur := [], cs := [], md := 1 } e w' := by
  obtain ⟨w1, hw1⟩ : ∃ w1, w1 = w.alloc (.cells #[.int .i64 (p.1 : Int), .int .i64 (p.2 : Int)] 70) := ⟨_, rfl⟩
  have hx1 : RX A G w1 b s := hw1 ▸ h.alloc _
  have hk1 : Kg G w w1 := hw1 ▸ (Kg.refl G w).alloc (by obtain ⟨_, _, _, _, _, h⟩ := h; exact h.gs) _
  obtain ⟨bp, bv, cv, tv, V, hx⟩ := hx1
  obtain ⟨ao, cp, rfl⟩ := own_slice hx.cel
  obtain ⟨to, tp, rfl⟩ := own_slice hx.tol
  have c8 := hx.top.c8
  have c12 := hx.top.c12
  have c9 := hx.top.c9
  have f8 := hx.top.fr 8
  have f9 := hx.top.fr 9
  have HK := hid hk1
  have HX := hid hx
  have HW1 := hid hw1
  have hq : (0 < s.rw ∧ (s.cs.length == s.wd) = true) ∨ (¬ 0 < s.rw) := by
    by_cases h0 : 0 < s.rw
    · left; refine ⟨h0, ?_⟩; simp; exact Decidable.not_not.1 fun h' => hn ⟨h0, h'⟩
    · exact .inr h0
  clear h hx hE hk1 hn c9
  have c9 := HX.out.top.c9
  unfold plV
  rcases hq with ⟨hr, hq2⟩ | hr
  · have hd2 : decide (0 < s.rw) = true := by simp; omega
    go_enter Tryz.func99, Tryz.ntmps99
    go_wp2_with fail
    rw [← hw1]
    clear hw1
    go_quiet (fail)
    go_wp2_with fail
    obtain ⟨X, hX⟩ : ∃ X, X = ((w1.drewN nq).setCell ⟨b, 8, none⟩ (.int .i64 ((s.rw : Int) + 1))).setCell ⟨b, 9, none⟩ (.int .i64 (s.cs.length : Int)) := ⟨_, rfl⟩
    rw [← hX]
    have x1 := set_grown (w1.drewN nq) b 8 (.int .i64 ((s.rw : Int) + 1))
    have x2 := set_grown ((w1.drewN nq).setCell ⟨b, 8, none⟩ (.int .i64 ((s.rw : Int) + 1))) b 9 (.int .i64 (s.cs.length : Int))
    have xz : X.heap.size = w1.heap.size := by rw [hX]; simp [World.setCell, drewN_heap]
    have xb : ∀ k, k < w1.heap.size → k ≠ b → X.heap[k]? = w1.heap[k]? := fun k hk hkb => by
      have hne : some k ≠ some b := fun e => hkb (by cases e; rfl)
      rw [hX, x2.block k (by have := x1.size; rw [drewN_heap] at this; omega) hne, x1.block k (by rw [drewN_heap]; exact hk) hne, drewN_heap]
    have hXk : Kg (But w1 b) w1 X := hX ▸ ((Kg.drewN (Kg.refl (But w1 b) w1) nq).set (But.not w1 b) _).set (But.not w1 b) _
    have hXt : RB X b (nxV b s.md) s.sz s.hp s.op s.ep (s.rw + 1) s.cs.length bp bv (.slice ao s.cs.length cp) (.slice to V.length tp) s.fp (erV A s.er) false := by
      rw [hX]
      exact ((show R18 (w1.drewN nq) b _ _ _ _ _ _ _ _ _ _ _ _ _ _ _ _ _ _ from (by unfold R18; rw [drewN_heap]; exact HX.out.top)).put8 _).put9 _
    obtain ⟨v', w3, hrun, ⟨a1, a2, a3, rfl⟩, h3, hrx, hkz⟩ := endRow_rest HX.out X hXk xb xz hXt htd
    have c13 := hXt.c13
    have c12 := hXt.c12
    have d0 := h3.fr 0
    have d10 := h3.fr 10
    have d11 := h3.fr 11
    have d12 := h3.fr 12
    have d13 := h3.fr 13
    have e0 := h3.c0
    have e10 := h3.c10
    have e11 := h3.c11
    have e12 := h3.c12
    have e13 := h3.c13
    rw [nx1] at hrx hkz
    have HZ := hid (And.intro hrx hkz)
    have c12b : (X.drew.alloc (.cells #[.slice ao s.cs.length cp] 28)).cell? ⟨b, 13, none⟩ = some (.slice to V.length tp) := (World.cell?_of_block (a := ⟨b, 13, none⟩) (Lib.alloc_old X.drew _ b (by show b < X.heap.size; have := hXt.lt; omega))).trans hXt.c13
    have hrun2 : (Builtin.append_ #[30, 30] 30 #[.slice to V.length tp, .slice (some ⟨X.heap.size, 0, none⟩) 1 1]).run Tryz.prog ((X.alloc (.cells #[.slice ao s.cs.length cp] 28)).drew) = .ok (.slice a1 a2 a3) w3 := hrun
    have c12c : ((X.alloc (.cells #[.slice ao s.cs.length cp] 28)).drew).cell? ⟨b, 13, none⟩ = some (.slice to V.length tp) := c12b
    clear hrx hkz hXt hXk xb x1 x2 h3 hX hrun xz
    go_region_law (refine step_app (v := .slice to V.length tp) (xv := .slice (some ⟨X.heap.size, 0, none⟩) 1 1) rfl (.tmp 46) (.tmp 52) rfl (by rfl) (by rfl) hrun2 ?_)
    all_goals (go_wp2; go_end0; exact ⟨rfl, HZ.out.1, HK.out.trans HZ.out.2⟩)
  · have hd2 : decide (0 < s.rw) = false := by simp; omega
    go_enter Tryz.func99, Tryz.ntmps99
    go_wp2_with fail
    rw [← hw1]
    clear hw1
    go_quiet (fail)
    go_wp2_with fail
    obtain ⟨X, hX⟩ : ∃ X, X = ((w1.drewN nq).setCell ⟨b, 8, none⟩ (.int .i64 ((s.rw : Int) + 1))).setCell ⟨b, 9, none⟩ (.int .i64 (s.cs.length : Int)) := ⟨_, rfl⟩
    rw [← hX]
    have x1 := set_grown (w1.drewN nq) b 8 (.int .i64 ((s.rw : Int) + 1))
    have x2 := set_grown ((w1.drewN nq).setCell ⟨b, 8, none⟩ (.int .i64 ((s.rw : Int) + 1))) b 9 (.int .i64 (s.cs.length : Int))
    have xz : X.heap.size = w1.heap.size := by rw [hX]; simp [World.setCell, drewN_heap]
    have xb : ∀ k, k < w1.heap.size → k ≠ b → X.heap[k]? = w1.heap[k]? := fun k hk hkb => by
      have hne : some k ≠ some b := fun e => hkb (by cases e; rfl)
      rw [hX, x2.block k (by have := x1.size; rw [drewN_heap] at this; omega) hne, x1.block k (by rw [drewN_heap]; exact hk) hne, drewN_heap]
    have hXk : Kg (But w1 b) w1 X := hX ▸ ((Kg.drewN (Kg.refl (But w1 b) w1) nq).set (But.not w1 b) _).set (But.not w1 b) _
    have hXt : RB X b (nxV b s.md) s.sz s.hp s.op s.ep (s.rw + 1) s.cs.length bp bv (.slice ao s.cs.length cp) (.slice to V.length tp) s.fp (erV A s.er) false := by
      rw [hX]
      exact ((show R18 (w1.drewN nq) b _ _ _ _ _ _ _ _ _ _ _ _ _ _ _ _ _ _ from (by unfold R18; rw [drewN_heap]; exact HX.out.top)).put8 _).put9 _
    obtain ⟨v', w3, hrun, ⟨a1, a2, a3, rfl⟩, h3, hrx, hkz⟩ := endRow_rest HX.out X hXk xb xz hXt htd
    have c13 := hXt.c13
    have c12 := hXt.c12
    have d0 := h3.fr 0
    have d10 := h3.fr 10
    have d11 := h3.fr 11
    have d12 := h3.fr 12
    have d13 := h3.fr 13
    have e0 := h3.c0
    have e10 := h3.c10
    have e11 := h3.c11
    have e12 := h3.c12
    have e13 := h3.c13
    rw [nx1] at hrx hkz
    have HZ := hid (And.intro hrx hkz)
    have c12b : (X.drew.alloc (.cells #[.slice ao s.cs.length cp] 28)).cell? ⟨b, 13, none⟩ = some (.slice to V.length tp) := (World.cell?_of_block (a := ⟨b, 13, none⟩) (Lib.alloc_old X.drew _ b (by show b < X.heap.size; have := hXt.lt; omega))).trans hXt.c13
    have hrun2 : (Builtin.append_ #[30, 30] 30 #[.slice to V.length tp, .slice (some ⟨X.heap.size, 0, none⟩) 1 1]).run Tryz.prog ((X.alloc (.cells #[.slice ao s.cs.length cp] 28)).drew) = .ok (.slice a1 a2 a3) w3 := hrun
    have c12c : ((X.alloc (.cells #[.slice ao s.cs.length cp] 28)).drew).cell? ⟨b, 13, none⟩ = some (.slice to V.length tp) := c12b
    clear hrx hkz hXt hXk xb x1 x2 h3 hX hrun xz
    go_region_law (refine step_app (v := .slice to V.length tp) (xv := .slice (some ⟨X.heap.size, 0, none⟩) 1 1) rfl (.tmp 46) (.tmp 52) rfl (by rfl) (by rfl) hrun2 ?_)
    all_goals (go_wp2; go_end0; exact ⟨rfl, HZ.out.1, HK.out.trans HZ.out.2⟩)
end Go.Proofs.YtpgpeafmlijfkaaGreatDoor
