/-
  Cspan: Spans that may be: isSpan, isInstant.
  SBoxes: A span in memory.
  Spn: A span's text read: lists alone.
  Rsp: A span's text read: digitsAhead, Atoi of some digits or of none.
  Rsp2: A span's text read: readSpan.
  Psp: A span's text read: ParseSpan.
  Psp2: ParseSpan, out of readSpan.
  ES: From the row's own list to the variable strconv.ErrSyntax.
-/
import Derived.Test.YtjpglgemnaknhaaGreatDoorCof
import Derived.Test.YtjpglgemnaknhaaGreatDoorDgs
import Derived.Lib.Bytealg
import Derived.Test.YtjpglgemnaknhaaGreatDoorRefused
import Derived.Test.YtjpglgemnaknhaaGreatDoorShelf
import Derived.Stop.LaidErr
import Derived.Deep.RegionHeld
import Derived.Test.YtjpglgemnaknhaaGreatDoorRows
import Derived.LaidLaws
namespace Go.Proofs.YtjpglgemnaknhaaGreatDoor
open Go.RowKit
set_option maxRecDepth 100000

/-- a span as a value -/
def sV (y m v d h i s : Int) : Value := .agg #[.int .i64 y, .int .i64 m, .int .i64 v, .int .i64 d, .int .i64 h, .int .i64 i, .int .i64 s]
abbrev okN (n : Int) : Prop := 0 ≤ n ∧ n ≤ 999999999
/-- a span that may be -/
abbrev FSx (y m v d h i s : Int) : Prop := (okN y ∧ okN m ∧ okN v ∧ okN d ∧ okN h ∧ okN i ∧ okN s) ∧ (v = 0 ∨ y = 0 ∧ m = 0 ∧ d = 0 ∧ h = 0 ∧ i = 0 ∧ s = 0)

theorem isInstant_any (t : Int) (w : World) :
    Calls Tryz.prog 19 #[.int .i64 t] w fun e w' => e = .returned (.bool (decide (0 ≤ t ∧ t ≤ 315569519999))) ∧ w' = w := by
  by_cases h0 : 0 ≤ t <;> by_cases h1 : t ≤ 315569519999
  all_goals
    go_enter Tryz.func19, Tryz.ntmps19
    go_wp2
    all_goals go_ret
    all_goals exact ⟨ret_bool (by simp [h0, h1]), rfl⟩

/-- an element of an array of seven ints -/
theorem span_index (y m v d h i s : Int) (w : World) :
    (Instr.index 79 (.agg #[.int .i64 y, .int .i64 m, .int .i64 v, .int .i64 d, .int .i64 h, .int .i64 i, .int .i64 s]) (.int .i64 0)).run Tryz.prog w = .ok (.int .i64 y) w ∧
    (Instr.index 79 (.agg #[.int .i64 y, .int .i64 m, .int .i64 v, .int .i64 d, .int .i64 h, .int .i64 i, .int .i64 s]) (.int .i64 1)).run Tryz.prog w = .ok (.int .i64 m) w ∧
    (Instr.index 79 (.agg #[.int .i64 y, .int .i64 m, .int .i64 v, .int .i64 d, .int .i64 h, .int .i64 i, .int .i64 s]) (.int .i64 2)).run Tryz.prog w = .ok (.int .i64 v) w ∧
    (Instr.index 79 (.agg #[.int .i64 y, .int .i64 m, .int .i64 v, .int .i64 d, .int .i64 h, .int .i64 i, .int .i64 s]) (.int .i64 3)).run Tryz.prog w = .ok (.int .i64 d) w ∧
    (Instr.index 79 (.agg #[.int .i64 y, .int .i64 m, .int .i64 v, .int .i64 d, .int .i64 h, .int .i64 i, .int .i64 s]) (.int .i64 4)).run Tryz.prog w = .ok (.int .i64 h) w ∧
    (Instr.index 79 (.agg #[.int .i64 y, .int .i64 m, .int .i64 v, .int .i64 d, .int .i64 h, .int .i64 i, .int .i64 s]) (.int .i64 5)).run Tryz.prog w = .ok (.int .i64 i) w ∧
    (Instr.index 79 (.agg #[.int .i64 y, .int .i64 m, .int .i64 v, .int .i64 d, .int .i64 h, .int .i64 i, .int .i64 s]) (.int .i64 6)).run Tryz.prog w = .ok (.int .i64 s) w := by
  refine ⟨?_, ?_, ?_, ?_, ?_, ?_, ?_⟩
  all_goals
    simp only [Instr.index, asIntOf, Sem.run_bind, Sem.run_pure, Result.andThen_ok, run_underlying Tryz.underlying79]
    rw [if_pos (by omega)]
    simp only [Sem.run_bind, Result.andThen_ok, Tryz.sizeOf3, part, Tryz.isAgg3]
    rfl

set_option maxHeartbeats 4000000 in
theorem isSpan_any (y m v d h i s : Int) (w : World) :
    Calls Tryz.prog 29 #[sV y m v d h i s] w fun e w' => e = .returned (.bool (decide (FSx y m v d h i s))) ∧ Below w.heap.size w w' := by
  obtain ⟨r, hr⟩ : ∃ r, r = decide (FSx y m v d h i s) := ⟨_, rfl⟩
  rw [← hr]
  have HR : Hid (_) := hr
  have HI : Hid (_) := fun w => span_index y m v d h i s w
  clear hr
  unfold sV
  have hb : Below w.heap.size w (w.alloc (.cells #[.int .i64 y, .int .i64 m, .int .i64 v, .int .i64 d, .int .i64 h, .int .i64 i, .int .i64 s] 23)) := (Below.refl _ _).alloc (Nat.le_refl _) _
  go_enter Tryz.func29, Tryz.ntmps29
  go_wp2_with fail
  go_loop [4, 20] (fun _ j => ∃ k : Nat, k ≤ 7 ∧ j = .int .i64 (k : Int) ∧ (1 ≤ k → okN y) ∧ (2 ≤ k → okN m) ∧ (3 ≤ k → okN v) ∧ (4 ≤ k → okN d) ∧ (5 ≤ k → okN h) ∧ (6 ≤ k → okN i) ∧ (7 ≤ k → okN s)) (fun _ j => 7 - (intOf j).toNat)
  case atStart => exact ⟨0, by omega, rfl, by omega, by omega, by omega, by omega, by omega, by omega, by omega⟩
  case round =>
    obtain ⟨k, hk, rfl, o1, o2, o3, o4, o5, o6, o7⟩ := hrel
    have HO := hid (And.intro o1 (And.intro o2 (And.intro o3 (And.intro o4 (And.intro o5 (And.intro o6 o7))))))
    clear o1 o2 o3 o4 o5 o6 o7
    by_cases h7 : k = 7
    · subst h7
      obtain ⟨o1, o2, o3, o4, o5, o6, o7⟩ := HO.out
      have hall := And.intro (o1 (by omega)) (And.intro (o2 (by omega)) (And.intro (o3 (by omega)) (And.intro (o4 (by omega)) (And.intro (o5 (by omega)) (And.intro (o6 (by omega)) (o7 (by omega)))))))
      have HALL := hid hall
      clear o1 o2 o3 o4 o5 o6 o7 hall HO hb
      by_cases hv : v = 0
      · have hrt : r = true := by rw [HR.out]; exact decide_eq_true ⟨HALL.out, .inl hv⟩
        subst hrt
        go_wp2
        go_ret
        exact ⟨rfl, (Below.refl _ _).alloc (Nat.le_refl _) _⟩
      · have hfs : FSx y m v d h i s ↔ (y = 0 ∧ m = 0 ∧ d = 0 ∧ h = 0 ∧ i = 0 ∧ s = 0) := ⟨fun x => x.2.resolve_left hv, fun x => ⟨HALL.out, .inr x⟩⟩
        have hrv : r = decide (y = 0 ∧ m = 0 ∧ d = 0 ∧ h = 0 ∧ i = 0 ∧ s = 0) := by rw [HR.out]; exact decide_eq_decide.2 hfs
        have HRV := hid hrv
        have hv' : (v == 0) = false := by simp [hv]
        clear hfs hrv HR HALL
        go_wp2
        all_goals go_ret
        all_goals refine ⟨ret_bool ?_, (Below.refl _ _).alloc (Nat.le_refl _) _⟩
        all_goals rw [HRV.out]
        all_goals simp_all
    · have hcases : k = 0 ∨ k = 1 ∨ k = 2 ∨ k = 3 ∨ k = 4 ∨ k = 5 ∨ k = 6 := by omega
      rcases hcases with rfl | rfl | rfl | rfl | rfl | rfl | rfl
      · have hi := (fun w => (HI.out w).1)
        by_cases ho : okN y
        · have HK := hid ho
          have h1 := ho.1
          have h2 := ho.2
          clear ho
          go_wp2
          go_round
          case rel => exact ⟨1, by omega, rfl, (fun _ => HK.out), (by omega), (by omega), (by omega), (by omega), (by omega), (by omega)⟩
          case measure => simp [intOf]
        · have hrf : r = false := by rw [HR.out]; exact decide_eq_false (fun x => ho x.1.1)
          subst hrf
          by_cases h1 : y < 0
          · go_wp2
            go_ret
            exact ⟨rfl, hb⟩
          · have h2 : 999999999 < y := by unfold okN at ho; omega
            clear ho
            go_wp2
            go_ret
            exact ⟨rfl, hb⟩
      · have hi := (fun w => (HI.out w).2.1)
        by_cases ho : okN m
        · have HK := hid ho
          have h1 := ho.1
          have h2 := ho.2
          clear ho
          go_wp2
          go_round
          case rel => exact ⟨2, by omega, rfl, (fun _ => HO.out.1 (by omega)), (fun _ => HK.out), (by omega), (by omega), (by omega), (by omega), (by omega)⟩
          case measure => simp [intOf]
        · have hrf : r = false := by rw [HR.out]; exact decide_eq_false (fun x => ho x.1.2.1)
          subst hrf
          by_cases h1 : m < 0
          · go_wp2
            go_ret
            exact ⟨rfl, hb⟩
          · have h2 : 999999999 < m := by unfold okN at ho; omega
            clear ho
            go_wp2
            go_ret
            exact ⟨rfl, hb⟩
      · have hi := (fun w => (HI.out w).2.2.1)
        by_cases ho : okN v
        · have HK := hid ho
          have h1 := ho.1
          have h2 := ho.2
          clear ho
          go_wp2
          go_round
          case rel => exact ⟨3, by omega, rfl, (fun _ => HO.out.1 (by omega)), (fun _ => HO.out.2.1 (by omega)), (fun _ => HK.out), (by omega), (by omega), (by omega), (by omega)⟩
          case measure => simp [intOf]
        · have hrf : r = false := by rw [HR.out]; exact decide_eq_false (fun x => ho x.1.2.2.1)
          subst hrf
          by_cases h1 : v < 0
          · go_wp2
            go_ret
            exact ⟨rfl, hb⟩
          · have h2 : 999999999 < v := by unfold okN at ho; omega
            clear ho
            go_wp2
            go_ret
            exact ⟨rfl, hb⟩
      · have hi := (fun w => (HI.out w).2.2.2.1)
        by_cases ho : okN d
        · have HK := hid ho
          have h1 := ho.1
          have h2 := ho.2
          clear ho
          go_wp2
          go_round
          case rel => exact ⟨4, by omega, rfl, (fun _ => HO.out.1 (by omega)), (fun _ => HO.out.2.1 (by omega)), (fun _ => HO.out.2.2.1 (by omega)), (fun _ => HK.out), (by omega), (by omega), (by omega)⟩
          case measure => simp [intOf]
        · have hrf : r = false := by rw [HR.out]; exact decide_eq_false (fun x => ho x.1.2.2.2.1)
          subst hrf
          by_cases h1 : d < 0
          · go_wp2
            go_ret
            exact ⟨rfl, hb⟩
          · have h2 : 999999999 < d := by unfold okN at ho; omega
            clear ho
            go_wp2
            go_ret
            exact ⟨rfl, hb⟩
      · have hi := (fun w => (HI.out w).2.2.2.2.1)
        by_cases ho : okN h
        · have HK := hid ho
          have h1 := ho.1
          have h2 := ho.2
          clear ho
          go_wp2
          go_round
          case rel => exact ⟨5, by omega, rfl, (fun _ => HO.out.1 (by omega)), (fun _ => HO.out.2.1 (by omega)), (fun _ => HO.out.2.2.1 (by omega)), (fun _ => HO.out.2.2.2.1 (by omega)), (fun _ => HK.out), (by omega), (by omega)⟩
          case measure => simp [intOf]
        · have hrf : r = false := by rw [HR.out]; exact decide_eq_false (fun x => ho x.1.2.2.2.2.1)
          subst hrf
          by_cases h1 : h < 0
          · go_wp2
            go_ret
            exact ⟨rfl, hb⟩
          · have h2 : 999999999 < h := by unfold okN at ho; omega
            clear ho
            go_wp2
            go_ret
            exact ⟨rfl, hb⟩
      · have hi := (fun w => (HI.out w).2.2.2.2.2.1)
        by_cases ho : okN i
        · have HK := hid ho
          have h1 := ho.1
          have h2 := ho.2
          clear ho
          go_wp2
          go_round
          case rel => exact ⟨6, by omega, rfl, (fun _ => HO.out.1 (by omega)), (fun _ => HO.out.2.1 (by omega)), (fun _ => HO.out.2.2.1 (by omega)), (fun _ => HO.out.2.2.2.1 (by omega)), (fun _ => HO.out.2.2.2.2.1 (by omega)), (fun _ => HK.out), (by omega)⟩
          case measure => simp [intOf]
        · have hrf : r = false := by rw [HR.out]; exact decide_eq_false (fun x => ho x.1.2.2.2.2.2.1)
          subst hrf
          by_cases h1 : i < 0
          · go_wp2
            go_ret
            exact ⟨rfl, hb⟩
          · have h2 : 999999999 < i := by unfold okN at ho; omega
            clear ho
            go_wp2
            go_ret
            exact ⟨rfl, hb⟩
      · have hi := (fun w => (HI.out w).2.2.2.2.2.2)
        by_cases ho : okN s
        · have HK := hid ho
          have h1 := ho.1
          have h2 := ho.2
          clear ho
          go_wp2
          go_round
          case rel => exact ⟨7, by omega, rfl, (fun _ => HO.out.1 (by omega)), (fun _ => HO.out.2.1 (by omega)), (fun _ => HO.out.2.2.1 (by omega)), (fun _ => HO.out.2.2.2.1 (by omega)), (fun _ => HO.out.2.2.2.2.1 (by omega)), (fun _ => HO.out.2.2.2.2.2.1 (by omega)), (fun _ => HK.out)⟩
          case measure => simp [intOf]
        · have hrf : r = false := by rw [HR.out]; exact decide_eq_false (fun x => ho x.1.2.2.2.2.2.2)
          subst hrf
          by_cases h1 : s < 0
          · go_wp2
            go_ret
            exact ⟨rfl, hb⟩
          · have h2 : 999999999 < s := by unfold okN at ho; omega
            clear ho
            go_wp2
            go_ret
            exact ⟨rfl, hb⟩
end Go.Proofs.YtjpglgemnaknhaaGreatDoor

namespace Go.Proofs.YtjpglgemnaknhaaGreatDoor
open Go.RowKit
set_option maxRecDepth 100000

/-- a span lies in block b -/
def SBox (w : World) (b : Nat) (y m v d h i s : Int) : Prop := w.heap[b]? = some (.cells #[.int .i64 y, .int .i64 m, .int .i64 v, .int .i64 d, .int .i64 h, .int .i64 i, .int .i64 s] 23 (0, 0))

theorem SBox.facts {w : World} {b : Nat} {y m v d h i s : Int} (x : SBox w b y m v d h i s) :
    w.cell? ⟨b, 0, none⟩ = some (.int .i64 y) ∧ w.cell? ⟨b, 1, none⟩ = some (.int .i64 m) ∧ w.cell? ⟨b, 2, none⟩ = some (.int .i64 v) ∧ w.cell? ⟨b, 3, none⟩ = some (.int .i64 d) ∧
    w.cell? ⟨b, 4, none⟩ = some (.int .i64 h) ∧ w.cell? ⟨b, 5, none⟩ = some (.int .i64 i) ∧ w.cell? ⟨b, 6, none⟩ = some (.int .i64 s) ∧ b < w.heap.size :=
  ⟨by rw [Lib.cell_of_heap x]; rfl, by rw [Lib.cell_of_heap x]; rfl, by rw [Lib.cell_of_heap x]; rfl, by rw [Lib.cell_of_heap x]; rfl, by rw [Lib.cell_of_heap x]; rfl, by rw [Lib.cell_of_heap x]; rfl, by rw [Lib.cell_of_heap x]; rfl, (Array.getElem?_eq_some_iff.1 x).1⟩
theorem SBox.later {w w' : World} {b : Nat} {y m v d h i s : Int} (x : SBox w b y m v d h i s) (hb : Below w.heap.size w w') : SBox w' b y m v d h i s := (hb.block b (Array.getElem?_eq_some_iff.1 x).1).trans x
theorem SBox.new (w : World) (y m v d h i s : Int) : SBox (w.alloc (.cells #[.int .i64 y, .int .i64 m, .int .i64 v, .int .i64 d, .int .i64 h, .int .i64 i, .int .i64 s] 23)) w.heap.size y m v d h i s := heap_alloc_new _ _

end Go.Proofs.YtjpglgemnaknhaaGreatDoor

namespace Go.Proofs.YtjpglgemnaknhaaGreatDoor

/-- how many digits stand ahead, counting no more than k -/
def dga : List UInt8 → Nat → Nat
  | c :: r, k + 1 => if isDB c then dga r k + 1 else 0
  | _, _ => 0
theorem dga_le : ∀ (l : List UInt8) (k : Nat), dga l k ≤ k ∧ dga l k ≤ l.length
  | [], k => by unfold dga; simp
  | c :: r, 0 => by unfold dga; simp
  | c :: r, k + 1 => by
    have := dga_le r k
    show (if isDB c then dga r k + 1 else 0) ≤ k + 1 ∧ (if isDB c then dga r k + 1 else 0) ≤ r.length + 1
    split <;> omega
theorem dga_at : ∀ (l : List UInt8) (m n : Nat), n ≤ m → n ≤ l.length → (∀ j (_ : j < n) (h : j < l.length), isDB l[j] = true) → (n = m ∨ n = l.length ∨ ∃ h : n < l.length, isDB l[n] = false) → dga l m = n
  | [], m, n, _, h2, _, _ => by have : n = 0 := by simpa using h2
                                subst this; unfold dga; rfl
  | c :: r, 0, n, h1, _, _, _ => by have : n = 0 := by omega
                                    subst this; unfold dga; rfl
  | c :: r, m + 1, 0, _, _, _, h4 => by
    rcases h4 with h | h | ⟨h, hd⟩
    · omega
    · simp at h
    · show (if isDB c then dga r m + 1 else 0) = 0
      have hc : isDB c = false := hd
      rw [hc]; rfl
  | c :: r, m + 1, n + 1, h1, h2, h3, h4 => by
    show (if isDB c then dga r m + 1 else 0) = n + 1
    have hc : isDB c = true := h3 0 (by omega) (by simp)
    rw [hc, if_pos rfl, dga_at r m n (by omega) (by simpa using h2) (fun j hj h => by have := h3 (j + 1) (by omega) (by simpa using h); simpa using this) ?_]
    rcases h4 with h | h | ⟨h, hd⟩
    · exact .inl (by omega)
    · exact .inr (.inl (by simpa using h))
    · exact .inr (.inr ⟨by simpa using h, by simpa using hd⟩)
theorem dga_dig : ∀ (l : List UInt8) (k : Nat), ∀ c ∈ l.take (dga l k), isDB c = true
  | [], k, c, h => by simp at h
  | x :: r, 0, c, h => by
    have e : dga (x :: r) 0 = 0 := by unfold dga; rfl
    rw [e] at h; simp at h
  | x :: r, k + 1, c, h => by
    have e : dga (x :: r) (k + 1) = (if isDB x then dga r k + 1 else 0) := rfl
    rw [e] at h
    by_cases hx : isDB x = true
    · rw [if_pos hx, List.take_succ_cons] at h
      rcases List.mem_cons.1 h with rfl | h
      · exact hx
      · exact dga_dig r k c h
    · rw [if_neg hx] at h; simp at h

/-- the letters behind a span's numbers, and the place of each one's number in a span -/
def mrk : List UInt8 := [87, 89, 77, 68, 72, 77, 83]
def fld (j : Nat) : Nat := [2, 0, 1, 3, 4, 5, 6].getD j 0
def zs7 : List Int := [0, 0, 0, 0, 0, 0, 0]
def bt (t : List UInt8) (a : Nat) : UInt8 := t.getD a 0
/-- the place of a letter among those that may stand -/
def slt (nx en : Nat) (c : UInt8) : Int := Lib.indexByte ((mrk.drop nx).take (en - nx)) c

def spF (t : List UInt8) : Nat → Nat → Nat → Nat → List Int → List Int × Nat
  | 0, a, _, _, s => (s, a)
  | f + 1, a, nx, en, s =>
    if a < t.length then
      if bt t a = 84 ∧ en = 4 then spF t f (a + 1) 4 7 s
      else if nx = en then (s, a)
      else if dga (t.drop a) 9 = 0 ∨ a + dga (t.drop a) 9 = t.length then (s, a + dga (t.drop a) 9)
      else if slt nx en (bt t (a + dga (t.drop a) 9)) < 0 then (s, a + dga (t.drop a) 9)
      else spF t f (a + dga (t.drop a) 9 + 1) (if bt t (a + dga (t.drop a) 9) = 87 then 7 else nx + (slt nx en (bt t (a + dga (t.drop a) 9))).toNat + 1) (if bt t (a + dga (t.drop a) 9) = 87 then 7 else en)
        (s.set (fld (nx + (slt nx en (bt t (a + dga (t.drop a) 9))).toNat)) (nm (sub t a (dga (t.drop a) 9)) : Int))
    else (s, a)

section
variable {t : List UInt8} {f a nx en : Nat} {s : List Int}
theorem spF_end (h : ¬ a < t.length) : spF t f a nx en s = (s, a) := by
  cases f
  · rfl
  · show (if a < t.length then _ else _) = _; rw [if_neg h]
theorem spF_T (h : a < t.length) (h1 : bt t a = 84 ∧ en = 4) : spF t (f + 1) a nx en s = spF t f (a + 1) 4 7 s := by
  show (if a < t.length then (if bt t a = 84 ∧ en = 4 then _ else _) else _) = _; rw [if_pos h, if_pos h1]
theorem spF_full (h : a < t.length) (h1 : ¬ (bt t a = 84 ∧ en = 4)) (h2 : nx = en) : spF t (f + 1) a nx en s = (s, a) := by
  show (if a < t.length then (if bt t a = 84 ∧ en = 4 then _ else if nx = en then _ else _) else _) = _; rw [if_pos h, if_neg h1, if_pos h2]
theorem spF_num (h : a < t.length) (h1 : ¬ (bt t a = 84 ∧ en = 4)) (h2 : nx ≠ en) (h3 : dga (t.drop a) 9 = 0 ∨ a + dga (t.drop a) 9 = t.length) : spF t (f + 1) a nx en s = (s, a + dga (t.drop a) 9) := by
  show (if a < t.length then (if bt t a = 84 ∧ en = 4 then _ else if nx = en then _ else if _ then _ else _) else _) = _; rw [if_pos h, if_neg h1, if_neg h2, if_pos h3]
theorem spF_bad (h : a < t.length) (h1 : ¬ (bt t a = 84 ∧ en = 4)) (h2 : nx ≠ en) (h3 : ¬ (dga (t.drop a) 9 = 0 ∨ a + dga (t.drop a) 9 = t.length)) (h4 : slt nx en (bt t (a + dga (t.drop a) 9)) < 0) : spF t (f + 1) a nx en s = (s, a + dga (t.drop a) 9) := by
  show (if a < t.length then (if bt t a = 84 ∧ en = 4 then _ else if nx = en then _ else if _ then _ else if _ then _ else _) else _) = _; rw [if_pos h, if_neg h1, if_neg h2, if_neg h3, if_pos h4]
theorem spF_go (h : a < t.length) (h1 : ¬ (bt t a = 84 ∧ en = 4)) (h2 : nx ≠ en) (h3 : ¬ (dga (t.drop a) 9 = 0 ∨ a + dga (t.drop a) 9 = t.length)) (h4 : ¬ slt nx en (bt t (a + dga (t.drop a) 9)) < 0) :
    spF t (f + 1) a nx en s = spF t f (a + dga (t.drop a) 9 + 1) (if bt t (a + dga (t.drop a) 9) = 87 then 7 else nx + (slt nx en (bt t (a + dga (t.drop a) 9))).toNat + 1) (if bt t (a + dga (t.drop a) 9) = 87 then 7 else en)
        (s.set (fld (nx + (slt nx en (bt t (a + dga (t.drop a) 9))).toNat)) (nm (sub t a (dga (t.drop a) 9)) : Int)) := by
  show (if a < t.length then (if bt t a = 84 ∧ en = 4 then _ else if nx = en then _ else if _ then _ else if _ then _ else _) else _) = _; rw [if_pos h, if_neg h1, if_neg h2, if_neg h3, if_neg h4]
end

/-- the whole text -/
def spR (t : List UInt8) : List Int × Nat := if bt t 0 = 80 ∧ 0 < t.length then spF t 64 1 0 4 zs7 else (zs7, 0)
/-- is it a span's text? -/
def spOk (t : List UInt8) : Bool := decide ((spR t).2 = t.length ∧ 0 < t.length) && decide (bt t (t.length - 1) ∈ mrk)

theorem slt_lt (nx en : Nat) (c : UInt8) : slt nx en c < (en - nx : Nat) := by
  unfold slt
  have h : ∀ l : List UInt8, Lib.indexByte l c < l.length ∨ l = [] := by
    intro l
    induction l with
    | nil => exact .inr rfl
    | cons b l ih =>
      refine .inl ?_
      show (if b == c then (0 : Int) else if Lib.indexByte l c == -1 then -1 else Lib.indexByte l c + 1) < _
      have hl : ((b :: l).length : Int) = (l.length : Int) + 1 := by simp
      rw [hl]
      split
      · omega
      · split
        · omega
        · rcases ih with h | h
          · omega
          · subst h; simp [Lib.indexByte] at *
  rcases h ((mrk.drop nx).take (en - nx)) with h | h
  · have : ((mrk.drop nx).take (en - nx)).length ≤ en - nx := by rw [List.length_take]; omega
    omega
  · rw [h]; simp [Lib.indexByte]; omega
end Go.Proofs.YtjpglgemnaknhaaGreatDoor

namespace Go.Proofs.YtjpglgemnaknhaaGreatDoor
open Go.RowKit
set_option maxRecDepth 100000

/-- strconv.ErrSyntax holds some error -/
def HasES (w : World) : Prop := ∃ ev, w.cell? ⟨2, 0, none⟩ = some ev ∧ (ev = .nilIface ∨ ∃ te pe, ev = .iface te pe)
theorem HasES.below {w w' : World} (h : HasES w) (hb : Below w.heap.size w w') : HasES w' := by
  obtain ⟨ev, h1, h2⟩ := h
  exact ⟨ev, cell_old h1 hb, h2⟩
theorem HasES.lt {w : World} (h : HasES w) : 2 < w.heap.size := by
  obtain ⟨ev, h1, h2⟩ := h
  exact World.block_lt_of_cell? _ _ h1
theorem HasES.belowAt {B : Nat} {w w' : World} (h : HasES w) (hb : Below B w w') (hB : 2 < B) : HasES w' := by
  obtain ⟨ev, h1, h2⟩ := h
  exact ⟨ev, (hb.cell (p := ⟨2, 0, none⟩) hB).trans h1, h2⟩

theorem run_from (t : ByteArray) (i : Nat) (hi : i ≤ t.size) (w : World) :
    (Instr.slice 9 (.string t) (some (.int .i64 (i : Int))) none none).run Tryz.prog w = .ok (.string (t.extract i t.size)) w := by
  simp [Instr.slice, Instr.sliceBounds, Instr.sliceBound, asIntOf, run_underlying Tryz.underlying9, go_sem, hi]

theorem atoi_any (t : ByteArray) (a k : Nat) (hk : k ≤ 9) (h : a + k ≤ t.size) (hd : ∀ c ∈ sub t.data.toList a k, isDB c = true) (w : World) (hE : HasES w) :
    Calls Tryz.prog 66 #[.string (t.extract a (a + k))] w fun e w' => (∃ er, e = .returned (.tuple #[.int .i64 (nm (sub t.data.toList a k) : Nat), er])) ∧ Below w.heap.size w w' := by
  have hx : (t.extract a (a + k)).data.toList = sub t.data.toList a k := sub_extract t a k
  have lt : t.data.toList.length = t.size := Array.length_toList
  have hs : (t.extract a (a + k)).size ≤ 18 := by rw [ByteArray.size_extract]; omega
  by_cases h0 : k = 0
  · subst h0
    obtain ⟨ev, hv, hev⟩ := hE
    have e0 : sub t.data.toList a 0 = [] := by unfold sub; simp
    refine (Tryz.strconv_Atoi_err _ hs (by rw [hx, e0]; rfl) ev w hv hev).mono ?_
    rintro e w' ⟨N, rfl, _, _, hb⟩
    rw [e0]
    exact ⟨⟨_, rfl⟩, hb⟩
  · have hl := sub_len t.data.toList a k (by rw [lt]; exact h)
    refine (Tryz.strconv_Atoi _ _ hs (by rw [hx]; exact atoi_digits _ (fun e => by rw [e] at hl; simp at hl; omega) hd) w).mono ?_
    rintro e w' ⟨rfl, ta, rfl⟩
    exact ⟨⟨_, rfl⟩, Go.Joins.below_bytesWorld _ _ _ _ (Nat.le_refl _)⟩

set_option maxHeartbeats 1000000 in
theorem digits_any (t : ByteArray) (ht : t.size ≤ 1000) (w : World) :
    Calls Tryz.prog 65 #[.string t] w fun e w' => e = .returned (.int .i64 (dga t.data.toList 9 : Nat)) ∧ ∃ n, w' = w.drewN n := by
  have lt : t.data.toList.length = t.size := Array.length_toList
  have HD := hid (fun c w => isDigit_any c w)
  have LT := hid lt
  clear lt
  go_enter Tryz.func65, Tryz.ntmps65
  go_wp2_with fail
  go_loopw [3] (fun n wr => ∃ k : Nat, n = .int .i64 (k : Int) ∧ k ≤ t.size ∧ k ≤ 9 ∧ (∀ j (_ : j < k) (h : j < t.data.toList.length), isDB (t.data.toList[j]) = true) ∧ ∃ q, wr = w.drewN q) (fun n _ => 9 - (intOf n).toNat)
  case atStart => exact ⟨0, rfl, by omega, by omega, fun j hj => by omega, 0, rfl⟩
  case round =>
    obtain ⟨k, rfl, hkt, hk9, hall, hdr⟩ := hrel
    have HA := hid hall
    have HDR := hid hdr
    have HDN : Hid (∀ m, ∃ n, wr.drewN m = w.drewN n) := fun m => by obtain ⟨q, hq⟩ := HDR.out; exact ⟨q + m, by rw [hq, World.drewN_drewN]⟩
    clear hall hdr
    by_cases h1 : k < t.size
    · by_cases h9 : k < 9
      · have i1 : (k : Int) < (t.size : Int) := by omega
        have bt := byte_at t k h1
        have HG := hid (HD.out t[k])
        by_cases hg : isDB t[k] = true
        · rw [hg] at HG
          have HOK := hid (show isDB (t.data.toList[k]'(by rw [LT.out]; exact h1)) = true by rw [bt]; exact hg)
          clear hg bt
          go_wp2_with fail
          refine (HG.out _).mono ?_
          rintro e w' ⟨rfl, rfl⟩
          go_wp2
          go_roundw
          case rel =>
            refine ⟨k + 1, by go_num, by omega, by omega, fun j hj h => ?_, HDR.out⟩
            by_cases e : j = k
            · subst e; exact HOK.out
            · exact HA.out j (by omega) h
          case measure => simp [intOf]; omega
        · have hg' : isDB t[k] = false := by simpa using hg
          rw [hg'] at HG
          have HV := hid (show dga t.data.toList 9 = k from dga_at _ _ _ (by omega) (by rw [LT.out]; omega) HA.out (.inr (.inr ⟨by rw [LT.out]; exact h1, by rw [bt]; exact hg'⟩)))
          clear hg hg' bt
          go_wp2_with fail
          refine (HG.out _).mono ?_
          rintro e w' ⟨rfl, rfl⟩
          go_wp2
          go_ret
          rw [HV.out]
          exact ⟨rfl, HDR.out⟩
      · have HV := hid (show dga t.data.toList 9 = k from dga_at _ _ _ (by omega) (by rw [LT.out]; omega) HA.out (.inl (by omega)))
        go_wp2
        go_ret
        rw [HV.out]
        exact ⟨rfl, HDR.out⟩
    · have HV := hid (show dga t.data.toList 9 = k from dga_at _ _ _ (by omega) (by rw [LT.out]; omega) HA.out (.inr (.inl (by rw [LT.out]; omega))))
      go_wp2
      go_ret
      rw [HV.out]
      exact ⟨rfl, HDR.out⟩
end Go.Proofs.YtjpglgemnaknhaaGreatDoor

namespace Go.Proofs.YtjpglgemnaknhaaGreatDoor
open Go.RowKit
set_option maxRecDepth 100000

theorem alloc_belowS (w : World) (o : Obj) : Below w.heap.size w (w.alloc o) := (Below.refl _ _).alloc (Nat.le_refl _) _
theorem list7 {l : List Int} (h : l.length = 7) : ∃ a b c d e f g, l = [a, b, c, d, e, f, g] := by
  match l, h with
  | [a, b, c, d, e, f, g], _ => exact ⟨a, b, c, d, e, f, g, rfl⟩

/-- a span lies in block b -/
def LBox (w : World) (b : Nat) (s : List Int) : Prop := w.heap[b]? = some (.cells (s.map (Value.int .i64)).toArray 23 (0, 0))
theorem LBox.lt {w : World} {b : Nat} {s : List Int} (h : LBox w b s) : b < w.heap.size := (Array.getElem?_eq_some_iff.1 h).1
theorem LBox.cell {w : World} {b : Nat} {s : List Int} (h : LBox w b s) (i : Nat) (hi : i < s.length) : w.cell? ⟨b, i, none⟩ = some (.int .i64 s[i]) := by
  rw [Lib.cell_of_heap h, List.getElem?_toArray, List.getElem?_map, List.getElem?_eq_getElem hi]; rfl
theorem LBox.soft {w : World} {b : Nat} {s : List Int} (h : LBox w b s) (i : Nat) : w.frozen? ⟨b, i, none⟩ = false := Lib.frozen_of_heap h i
theorem LBox.later {w w' : World} {b : Nat} {s : List Int} (h : LBox w b s) (hb : Below w.heap.size w w') : LBox w' b s := (hb.block b h.lt).trans h
theorem LBox.put {w : World} {b : Nat} {s : List Int} (h : LBox w b s) (i : Nat) (v : Int) : LBox (w.setCell ⟨b, i, none⟩ (.int .i64 v)) b (s.set i v) := by
  have e := Lib.heap_setCell_same (i := i) h (.int .i64 v)
  unfold LBox
  rw [e]
  congr 2
  rw [List.map_set]
  simp

/-- where each letter's number goes -/
def ptS (b : Nat) : Obj := .cells #[.pointer (some ⟨b, 2, none⟩), .pointer (some ⟨b, 0, none⟩), .pointer (some ⟨b, 1, none⟩), .pointer (some ⟨b, 3, none⟩), .pointer (some ⟨b, 4, none⟩), .pointer (some ⟨b, 5, none⟩), .pointer (some ⟨b, 6, none⟩)] 81
theorem ptS_at {w : World} {b c : Nat} (h : w.heap[c]? = some (ptS b)) (j : Nat) (hj : j < 7) : w.cell? ⟨c, j, none⟩ = some (.pointer (some ⟨b, fld j, none⟩)) := by
  have e := h
  unfold ptS at e
  rw [Lib.cell_of_heap e]
  match j, hj with
  | 0, _ => rfl
  | 1, _ => rfl
  | 2, _ => rfl
  | 3, _ => rfl
  | 4, _ => rfl
  | 5, _ => rfl
  | 6, _ => rfl
theorem fld_lt (j : Nat) : fld j < 7 := by
  unfold fld
  by_cases h : j < 7
  · match j, h with
    | 0, _ => decide
    | 1, _ => decide
    | 2, _ => decide
    | 3, _ => decide
    | 4, _ => decide
    | 5, _ => decide
    | 6, _ => decide
  · rw [List.getD_eq_getElem?_getD, List.getElem?_eq_none (by simp; omega)]; decide

/-- the state of readSpan's memory -/
def SP (w0 : World) (s : List Int) (w : World) : Prop := s.length = 7 ∧ HasES w ∧ Below w0.heap.size w0 w ∧ LBox w w0.heap.size s ∧ w.heap[w0.heap.size + 1]? = some (ptS w0.heap.size)
theorem SP.stable {w0 w w' : World} {s : List Int} (h : SP w0 s w) (hb : Below w.heap.size w w') : SP w0 s w' :=
  ⟨h.1, h.2.1.below hb, h.2.2.1.trans (hb.mono h.2.2.1.size), h.2.2.2.1.later hb, (hb.block _ (Array.getElem?_eq_some_iff.1 h.2.2.2.2).1).trans h.2.2.2.2⟩
theorem SP.put {w0 w : World} {s : List Int} (h : SP w0 s w) (hG : HasES w0) (i : Nat) (v : Int) : SP w0 (s.set i v) (w.setCell ⟨w0.heap.size, i, none⟩ (.int .i64 v)) := by
  refine ⟨by rw [List.length_set]; exact h.1, h.2.1.belowAt ((Below.refl w0.heap.size w).setCell (Nat.le_refl _) _) hG.lt, h.2.2.1.setCell (Nat.le_refl _) _, h.2.2.2.1.put i v, ?_⟩
  rw [Below.heap_setCell _ _ _ _ (by show w0.heap.size + 1 ≠ w0.heap.size; omega)]
  exact h.2.2.2.2

theorem bt_at (t : ByteArray) (a : Nat) (h : a < t.size) : bt t.data.toList a = t[a] := by
  unfold bt
  have lt : t.data.toList.length = t.size := Array.length_toList
  rw [List.getD_eq_getElem?_getD, List.getElem?_eq_getElem (by rw [lt]; exact h)]
  exact byte_at t a h

/-- the marks as a text -/
abbrev mkB : ByteArray := ⟨#[87, 89, 77, 68, 72, 77, 83]⟩
theorem mk_sub (nx en : Nat) (h : nx ≤ en) : (mkB.extract nx en).data.toList = (mrk.drop nx).take (en - nx) := by
  have h2 := sub_extract mkB nx (en - nx)
  rw [show nx + (en - nx) = en by omega] at h2
  exact h2

theorem drop_extract (t : ByteArray) (a : Nat) : (t.extract a t.size).data.toList = t.data.toList.drop a := by
  by_cases h : a ≤ t.size
  · have e := sub_extract t a (t.size - a)
    rw [show a + (t.size - a) = t.size by omega] at e
    rw [e]
    unfold sub
    rw [List.take_of_length_le (by rw [List.length_drop, Array.length_toList]; exact Nat.le_refl _)]
  · rw [List.drop_eq_nil_of_le (by rw [Array.length_toList]; show t.size ≤ a; omega)]
    rw [ByteArray.data_extract, Array.toList_extract, List.extract_eq_take_drop, show t.size - a = 0 by omega]
    rfl

set_option maxHeartbeats 6000000 in
theorem readSpan_P (t : ByteArray) (ht : t.size ≤ 64) (h0 : 0 < t.size) (hP : t[0] = 80) (w : World) (hE : HasES w) :
    Calls Tryz.prog 31 #[.string t] w fun e w' => (∃ s : List Int, s.length = 7 ∧ e = .returned (.tuple #[.agg (s.map (Value.int .i64)).toArray, .int .i64 ((spF t.data.toList 64 1 0 4 zs7).2 : Nat)]) ∧ s = (spF t.data.toList 64 1 0 4 zs7).1) ∧ Below w.heap.size w w' := by
  have HP : Hid (∀ w, Calls Tryz.prog 64 #[.string t, .string ⟨#[80]⟩] w fun e w' => e = .returned (.bool true) ∧ w' = w) := fun w => by
    refine (Tryz.strings_HasPrefix t ⟨#[80]⟩ w).mono ?_
    rintro e w' ⟨rfl, rfl⟩
    refine ⟨?_, rfl⟩
    have lt : t.data.toList.length = t.size := Array.length_toList
    obtain ⟨c, r, hq⟩ := List.exists_cons_of_length_pos (show 0 < t.data.toList.length by rw [lt]; exact h0)
    have h1 := byte_at t 0 h0
    have hc : c = t[0] := by rw [← h1]; simp [hq]
    rw [hq, hc, hP]
    rfl
  have HE := hid hE
  clear hE
  obtain ⟨R, hR⟩ : ∃ R, spF t.data.toList 64 1 0 4 zs7 = R := ⟨_, rfl⟩
  have HR := hid hR
  rw [hR]
  clear hR
  go_enter Tryz.func31, Tryz.ntmps31
  go_wp2_with fail
  refine (HP.out _).mono ?_
  rintro e w1 ⟨rfl, rfl⟩
  go_wp2_with fail
  have HB0 := hid (show SP w zs7 _ from ⟨rfl, (HE.out.below (alloc_belowS _ _)).below (alloc_belowS _ _), ((Below.refl _ _).alloc (Nat.le_refl _) (.cells #[.int .i64 0, .int .i64 0, .int .i64 0, .int .i64 0, .int .i64 0, .int .i64 0, .int .i64 0] 23)).alloc (by simp) (ptS w.heap.size), (show LBox _ w.heap.size zs7 from heap_alloc_new w (.cells #[.int .i64 0, .int .i64 0, .int .i64 0, .int .i64 0, .int .i64 0, .int .i64 0, .int .i64 0] 23)).later (alloc_belowS _ _), by
    have h := heap_alloc_new (w.alloc (.cells #[.int .i64 0, .int .i64 0, .int .i64 0, .int .i64 0, .int .i64 0, .int .i64 0, .int .i64 0] 23)) (ptS w.heap.size)
    rw [show (w.alloc (.cells #[.int .i64 0, .int .i64 0, .int .i64 0, .int .i64 0, .int .i64 0, .int .i64 0, .int .i64 0] 23)).heap.size = w.heap.size + 1 by simp] at h
    exact h⟩)
  have lt : t.data.toList.length = t.size := Array.length_toList
  have LT := hid lt
  clear lt
  clear HP
  go_loopw [3, 5, 6] (fun a nx en wr => ∃ (x n m f : Nat) (s : List Int), a = .int .i64 (x : Int) ∧ nx = .int .i64 (n : Int) ∧ en = .int .i64 (m : Int) ∧ x ≤ t.size ∧ n ≤ m ∧ m ≤ 7 ∧ spF t.data.toList f x n m s = R ∧ t.size ≤ x + f ∧ SP w s wr) (fun a _ _ _ => t.size - (intOf a).toNat)
  case atStart => exact ⟨1, 0, 4, 64, zs7, rfl, rfl, rfl, by omega, by omega, by omega, HR.out, by omega, HB0.out⟩
  case round =>
    clear HB0 HR
    obtain ⟨x, n, m, f, s, rfl, rfl, rfl, hx, hnm, hm7, hsp, hfu, hS⟩ := hrel
    have HSP := hid hsp
    have HS := hid hS
    clear hsp hS
    by_cases h1 : x < t.size
    · obtain ⟨f', rfl⟩ : ∃ f', f = f' + 1 := ⟨f - 1, by omega⟩
      have bx := bt_at t x h1
      have i1 : (x : Int) < (t.size : Int) := by omega
      by_cases hT : t[x] = 84 ∧ m = 4
      · obtain ⟨hT1, rfl⟩ := hT
        have HN := hid (show spF t.data.toList f' (x + 1) 4 7 s = R by rw [← HSP.out, spF_T (by rw [LT.out]; exact h1) ⟨by rw [bx]; exact hT1, rfl⟩])
        have hx84 : (t[x]'h1).toNat = 84 := by rw [hT1]; rfl
        clear hT1 bx
        go_wp2
        go_roundw
        case rel => exact ⟨x + 1, 4, 7, f', s, by go_num, rfl, rfl, by omega, by omega, by omega, HN.out, by omega, HS.out⟩
        case measure => simp [intOf]; omega
      · have HT := hid (show ¬ (bt t.data.toList x = 84 ∧ m = 4) by rw [bx]; exact hT)
        have hTi : ((t[x]'h1).toNat = 84 ∧ ((m : Int) == 4) = false) ∨ ((((t[x]'h1).toNat : Int) == 84) = false) := by
          by_cases e : t[x] = 84
          · left; exact ⟨by rw [e]; rfl, by rw [beq_eq_false_iff_ne]; intro q; exact hT ⟨e, by omega⟩⟩
          · right; rw [beq_eq_false_iff_ne]; intro q; exact e (UInt8.toNat_inj.mp (by show (t[x]'h1).toNat = 84; omega))
        clear hT bx
        by_cases h2 : n = m
        · subst h2
          have HV := hid (show R = (s, x) by rw [← HSP.out, spF_full (by rw [LT.out]; exact h1) HT.out rfl])
          rcases hTi with ⟨q1, q2⟩ | q1
          all_goals
            obtain ⟨hl7, _, hB7, hbx, _⟩ := HS.out
            obtain ⟨a0, a1, a2, a3, a4, a5, a6, rfl⟩ := list7 hl7
            have c0 := hbx.cell 0 (show 0 < 7 by omega)
            have z0 := hbx.soft 0
            have c1 := hbx.cell 1 (show 1 < 7 by omega)
            have z1 := hbx.soft 1
            have c2 := hbx.cell 2 (show 2 < 7 by omega)
            have z2 := hbx.soft 2
            have c3 := hbx.cell 3 (show 3 < 7 by omega)
            have z3 := hbx.soft 3
            have c4 := hbx.cell 4 (show 4 < 7 by omega)
            have z4 := hbx.soft 4
            have c5 := hbx.cell 5 (show 5 < 7 by omega)
            have z5 := hbx.soft 5
            have c6 := hbx.cell 6 (show 6 < 7 by omega)
            have z6 := hbx.soft 6
            have q7 := ((((((hbx.put 0 a0).put 1 a1).put 2 a2).put 3 a3).put 4 a4).put 5 a5).put 6 a6
            have d0 := q7.cell 0 (show 0 < 7 by omega)
            have d1 := q7.cell 1 (show 1 < 7 by omega)
            have d2 := q7.cell 2 (show 2 < 7 by omega)
            have d3 := q7.cell 3 (show 3 < 7 by omega)
            have d4 := q7.cell 4 (show 4 < 7 by omega)
            have d5 := q7.cell 5 (show 5 < 7 by omega)
            have d6 := q7.cell 6 (show 6 < 7 by omega)
            simp at c0 c1 c2 c3 c4 c5 c6 d0 d1 d2 d3 d4 d5 d6
            have HB7 := hid hB7
            clear hbx q7 hB7 hl7
            go_wp2
            refine bodyPost_ret (by simp [results, Tryz.results31, go_sem, d0, d1, d2, d3, d4, d5, d6]; try rfl) rfl ?_
            exact ⟨⟨[a0, a1, a2, a3, a4, a5, a6], rfl, by rw [HV.out]; first | rfl | go_num, by rw [HV.out]⟩, ((((((HB7.out.setCell (Nat.le_refl _) _).setCell (Nat.le_refl _) _).setCell (Nat.le_refl _) _).setCell (Nat.le_refl _) _).setCell (Nat.le_refl _) _).setCell (Nat.le_refl _) _).setCell (Nat.le_refl _) _⟩
        · have hnmi : ((n : Int) == (m : Int)) = false := by rw [beq_eq_false_iff_ne]; omega
          obtain ⟨k, hk⟩ : ∃ k, k = dga (t.data.toList.drop x) 9 := ⟨_, rfl⟩
          have hk9 := dga_le (t.data.toList.drop x) 9
          rw [List.length_drop, LT.out, ← hk] at hk9
          have HDIG := hid (show ∀ c ∈ sub t.data.toList x k, isDB c = true by rw [hk]; exact dga_dig _ _)
          have HDA := hid (fun w => digits_any (t.extract x t.size) (by rw [ByteArray.size_extract]; omega) w)
          rw [drop_extract, ← hk] at HDA
          have HAT := hid (fun w hE => atoi_any t x k (by omega) (by omega) HDIG.out w hE)
          obtain ⟨y, hy⟩ : ∃ y, y = x + k := ⟨_, rfl⟩
          have hyi : (x : Int) + (k : Int) = (y : Int) := by omega
          have qs1 := fun w => run_from t x hx w
          have qs2 := fun w => run_sub t x y (y : Int) rfl (by omega) (by omega) w
          rw [show x + k = y from hy.symm] at HAT
          have HY := hid hy
          obtain ⟨v, hv⟩ : ∃ v : Int, v = (nm (sub t.data.toList x k) : Int) := ⟨_, rfl⟩
          rw [← hv] at HAT
          have HVV := hid hv
          clear hv
          have HK := hid hk
          clear hk
          by_cases h3 : k = 0 ∨ y = t.size
          · have HV := hid (show R = (s, y) by rw [← HSP.out, spF_num (by rw [LT.out]; exact h1) HT.out h2 (by rw [← HK.out, LT.out]; omega), ← HK.out, hy])
            have h3i : (((k : Int) == 0) = true) ∨ ((((k : Int) == 0) = false) ∧ (((y : Int) == (t.size : Int)) = true)) := by
              by_cases e : k = 0
              · left; rw [beq_iff_eq]; omega
              · right; exact ⟨by rw [beq_eq_false_iff_ne]; omega, by rw [beq_iff_eq]; omega⟩
            clear h3 hy
            rcases hTi with ⟨q1, q2⟩ | q1 <;> rcases h3i with h3 | ⟨h3, h3'⟩
            all_goals
              go_wp2_with fail
              refine (HDA.out _).mono ?_
              rintro e w1 ⟨rfl, nd, rfl⟩
              have HS1 := hid (HS.out.stable (below_drewN (Below.refl _ _) nd))
              go_wp2_with fail
              refine (HAT.out _ HS1.out.2.1).mono ?_
              rintro e w2 ⟨⟨er, rfl⟩, hb2⟩
              have HS2 := hid (HS1.out.stable hb2)
              clear hb2 HS1 qs1 qs2
              obtain ⟨hl7, _, hB7, hbx, _⟩ := HS2.out
              obtain ⟨a0, a1, a2, a3, a4, a5, a6, rfl⟩ := list7 hl7
              have c0 := hbx.cell 0 (show 0 < 7 by omega)
              have z0 := hbx.soft 0
              have c1 := hbx.cell 1 (show 1 < 7 by omega)
              have z1 := hbx.soft 1
              have c2 := hbx.cell 2 (show 2 < 7 by omega)
              have z2 := hbx.soft 2
              have c3 := hbx.cell 3 (show 3 < 7 by omega)
              have z3 := hbx.soft 3
              have c4 := hbx.cell 4 (show 4 < 7 by omega)
              have z4 := hbx.soft 4
              have c5 := hbx.cell 5 (show 5 < 7 by omega)
              have z5 := hbx.soft 5
              have c6 := hbx.cell 6 (show 6 < 7 by omega)
              have z6 := hbx.soft 6
              have q7 := ((((((hbx.put 0 a0).put 1 a1).put 2 a2).put 3 a3).put 4 a4).put 5 a5).put 6 a6
              have d0 := q7.cell 0 (show 0 < 7 by omega)
              have d1 := q7.cell 1 (show 1 < 7 by omega)
              have d2 := q7.cell 2 (show 2 < 7 by omega)
              have d3 := q7.cell 3 (show 3 < 7 by omega)
              have d4 := q7.cell 4 (show 4 < 7 by omega)
              have d5 := q7.cell 5 (show 5 < 7 by omega)
              have d6 := q7.cell 6 (show 6 < 7 by omega)
              simp at c0 c1 c2 c3 c4 c5 c6 d0 d1 d2 d3 d4 d5 d6
              have HB7 := hid hB7
              clear hbx q7 hB7 hl7
              go_wp2
              refine bodyPost_ret (by simp [results, Tryz.results31, go_sem, d0, d1, d2, d3, d4, d5, d6]; try rfl) rfl ?_
              exact ⟨⟨[a0, a1, a2, a3, a4, a5, a6], rfl, by rw [HV.out]; first | rfl | go_num, by rw [HV.out]⟩, ((((((HB7.out.setCell (Nat.le_refl _) _).setCell (Nat.le_refl _) _).setCell (Nat.le_refl _) _).setCell (Nat.le_refl _) _).setCell (Nat.le_refl _) _).setCell (Nat.le_refl _) _).setCell (Nat.le_refl _) _⟩
          · have hk0 : ((k : Int) == 0) = false := by rw [beq_eq_false_iff_ne]; omega
            have hys : ((y : Int) == (t.size : Int)) = false := by rw [beq_eq_false_iff_ne]; omega
            have hyl : y < t.size := by omega
            have by' := bt_at t y hyl
            have hyx : x < y := by omega
            obtain ⟨z, hz⟩ : ∃ z, z = slt n m t[y] := ⟨_, rfl⟩
            have HIX : Hid (∀ w, Calls Tryz.prog 67 #[.string (mkB.extract n m), .int .u8 ((t[y]'hyl).toNat : Int)] w fun e w' => e = .returned (.int .i64 z) ∧ w' = w) := fun w => by
              have h := Tryz.strings_IndexByte (mkB.extract n m) ((t[y]'hyl).toNat : Int) w
              rw [mk_sub n m hnm, show (((t[y]'hyl).toNat : Int)).toNat.toUInt8 = t[y]'hyl by simp] at h
              rw [hz]
              exact h
            have qs3 := fun w => run_sub mkB n m (m : Int) rfl hnm (by show m ≤ 7; exact hm7) w
            have iy : (y : Int) < (t.size : Int) := by omega
            have hzl := slt_lt n m t[y]
            rw [← hz] at hzl
            have h3' : ¬ (dga (t.data.toList.drop x) 9 = 0 ∨ x + dga (t.data.toList.drop x) 9 = t.data.toList.length) := by rw [← HK.out, LT.out]; omega
            by_cases h4 : z < 0
            · have HV := hid (show R = (s, y) by rw [← HSP.out, spF_bad (by rw [LT.out]; exact h1) HT.out h2 h3' (by rw [← HK.out, ← HY.out, by', ← hz]; exact h4), ← HK.out, hy])
              clear hz by' h3' hy h3
              rcases hTi with ⟨q1, q2⟩ | q1
              all_goals
                go_wp2_with fail
                refine (HDA.out _).mono ?_
                rintro e w1 ⟨rfl, nd, rfl⟩
                have HS1 := hid (HS.out.stable (below_drewN (Below.refl _ _) nd))
                go_wp2_with fail
                refine (HAT.out _ HS1.out.2.1).mono ?_
                rintro e w2 ⟨⟨er, rfl⟩, hb2⟩
                have HS2 := hid (HS1.out.stable hb2)
                clear hb2 HS1 qs1 qs2
                go_wp2_with fail
                go_quiet (first
                  | (go_at_call 67; exact Calls.quiet_of_same (HIX.out _)))
                have HS3 := hid (HS2.out.stable (below_drewN (Below.refl _ _) nq))
                clear HS2 qs3 HIX
                obtain ⟨hl7, _, hB7, hbx, _⟩ := HS3.out
                obtain ⟨a0, a1, a2, a3, a4, a5, a6, rfl⟩ := list7 hl7
                have c0 := hbx.cell 0 (show 0 < 7 by omega)
                have z0 := hbx.soft 0
                have c1 := hbx.cell 1 (show 1 < 7 by omega)
                have z1 := hbx.soft 1
                have c2 := hbx.cell 2 (show 2 < 7 by omega)
                have z2 := hbx.soft 2
                have c3 := hbx.cell 3 (show 3 < 7 by omega)
                have z3 := hbx.soft 3
                have c4 := hbx.cell 4 (show 4 < 7 by omega)
                have z4 := hbx.soft 4
                have c5 := hbx.cell 5 (show 5 < 7 by omega)
                have z5 := hbx.soft 5
                have c6 := hbx.cell 6 (show 6 < 7 by omega)
                have z6 := hbx.soft 6
                have q7 := ((((((hbx.put 0 a0).put 1 a1).put 2 a2).put 3 a3).put 4 a4).put 5 a5).put 6 a6
                have d0 := q7.cell 0 (show 0 < 7 by omega)
                have d1 := q7.cell 1 (show 1 < 7 by omega)
                have d2 := q7.cell 2 (show 2 < 7 by omega)
                have d3 := q7.cell 3 (show 3 < 7 by omega)
                have d4 := q7.cell 4 (show 4 < 7 by omega)
                have d5 := q7.cell 5 (show 5 < 7 by omega)
                have d6 := q7.cell 6 (show 6 < 7 by omega)
                simp at c0 c1 c2 c3 c4 c5 c6 d0 d1 d2 d3 d4 d5 d6
                have HB7 := hid hB7
                clear hbx q7 hB7 hl7
                go_wp2
                refine bodyPost_ret (by simp [results, Tryz.results31, go_sem, d0, d1, d2, d3, d4, d5, d6]; try rfl) rfl ?_
                exact ⟨⟨[a0, a1, a2, a3, a4, a5, a6], rfl, by rw [HV.out]; first | rfl | go_num, by rw [HV.out]⟩, ((((((HB7.out.setCell (Nat.le_refl _) _).setCell (Nat.le_refl _) _).setCell (Nat.le_refl _) _).setCell (Nat.le_refl _) _).setCell (Nat.le_refl _) _).setCell (Nat.le_refl _) _).setCell (Nat.le_refl _) _⟩
            · obtain ⟨jz, hjz⟩ : ∃ jz : Nat, z = (jz : Int) := ⟨z.toNat, by omega⟩
              subst hjz
              obtain ⟨j, hj⟩ : ∃ j, j = n + jz := ⟨_, rfl⟩
              have hji : (n : Int) + (jz : Int) = (j : Int) := by omega
              have hj7 : j < 7 := by omega
              have hjm : j < m := by omega
              have HN := hid (show spF t.data.toList f' (y + 1) (if t[y] = 87 then 7 else j + 1) (if t[y] = 87 then 7 else m) (s.set (fld j) v) = R by
                rw [← HSP.out, spF_go (by rw [LT.out]; exact h1) HT.out h2 h3' (by rw [← HK.out, ← HY.out, by', ← hz]; exact h4), ← HK.out, ← HY.out, by', ← hz, HVV.out, hj]
                rfl)
              have hf7 := fld_lt j
              have wj0 : IntKind.i64.wrap ((n : Int) + (jz : Int)) = (j : Int) := by rw [IntKind.wrap_i64]; omega
              have wj1 : IntKind.i64.wrap ((jz : Int) + 1) = (jz : Int) + 1 := by rw [IntKind.wrap_i64]; omega
              have wj2 : IntKind.i64.wrap ((n : Int) + ((jz : Int) + 1)) = (j : Int) + 1 := by rw [IntKind.wrap_i64]; omega
              clear hji
              subst hj
              clear hz by' h3' hy h3 h4
              by_cases hW : t[y] = 87
              · rw [if_pos hW, if_pos hW] at HN
                have hWi : (((t[y]'hyl).toNat : Int) == 87) = true := by rw [hW]; rfl
                clear hW
                rcases hTi with ⟨q1, q2⟩ | q1
                all_goals
                  go_wp2_with fail
                  refine (HDA.out _).mono ?_
                  rintro e w1 ⟨rfl, nd, rfl⟩
                  have HS1 := hid (HS.out.stable (below_drewN (Below.refl _ _) nd))
                  go_wp2_with fail
                  refine (HAT.out _ HS1.out.2.1).mono ?_
                  rintro e w2 ⟨⟨er, rfl⟩, hb2⟩
                  have HS2 := hid (HS1.out.stable hb2)
                  clear hb2 HS1 qs1 qs2
                  go_wp2_with fail
                  go_quiet (first
                    | (go_at_call 67; exact Calls.quiet_of_same (HIX.out _)))
                  have HS3 := hid (HS2.out.stable (below_drewN (Below.refl _ _) nq))
                  clear HS2 qs3 HIX
                  have p1 := ptS_at HS3.out.2.2.2.2 (n + jz) hj7
                  have p2 := HS3.out.2.2.2.1.cell (fld (n + jz)) (by rw [HS3.out.1]; exact hf7)
                  have p3 := HS3.out.2.2.2.1.soft (fld (n + jz))
                  simp only [World.cell?_drewN, World.frozen?_drewN] at p1 p2 p3
                  have HS4 := hid (HS3.out.put HE.out (fld (n + jz)) v)
                  go_wp2
                  go_roundw
                  case rel => exact ⟨y + 1, 7, 7, f', s.set (fld (n + jz)) v, by go_num, by go_num, by go_num, by omega, by omega, by omega, HN.out, by have := HY.out; omega, HS4.out⟩
                  case measure => simp [intOf]; have := HY.out; omega
              · rw [if_neg hW, if_neg hW] at HN
                have hWi : (((t[y]'hyl).toNat : Int) == 87) = false := by rw [beq_eq_false_iff_ne]; intro q; exact hW (UInt8.toNat_inj.mp (by show (t[y]'hyl).toNat = 87; omega))
                clear hW
                rcases hTi with ⟨q1, q2⟩ | q1
                all_goals
                  go_wp2_with fail
                  refine (HDA.out _).mono ?_
                  rintro e w1 ⟨rfl, nd, rfl⟩
                  have HS1 := hid (HS.out.stable (below_drewN (Below.refl _ _) nd))
                  go_wp2_with fail
                  refine (HAT.out _ HS1.out.2.1).mono ?_
                  rintro e w2 ⟨⟨er, rfl⟩, hb2⟩
                  have HS2 := hid (HS1.out.stable hb2)
                  clear hb2 HS1 qs1 qs2
                  go_wp2_with fail
                  go_quiet (first
                    | (go_at_call 67; exact Calls.quiet_of_same (HIX.out _)))
                  have HS3 := hid (HS2.out.stable (below_drewN (Below.refl _ _) nq))
                  clear HS2 qs3 HIX
                  have p1 := ptS_at HS3.out.2.2.2.2 (n + jz) hj7
                  have p2 := HS3.out.2.2.2.1.cell (fld (n + jz)) (by rw [HS3.out.1]; exact hf7)
                  have p3 := HS3.out.2.2.2.1.soft (fld (n + jz))
                  simp only [World.cell?_drewN, World.frozen?_drewN] at p1 p2 p3
                  have HS4 := hid (HS3.out.put HE.out (fld (n + jz)) v)
                  go_wp2
                  go_roundw
                  case rel => exact ⟨y + 1, n + jz + 1, m, f', s.set (fld (n + jz)) v, by go_num, by go_num, by go_num, by omega, by omega, by omega, HN.out, by have := HY.out; omega, HS4.out⟩
                  case measure => simp [intOf]; have := HY.out; omega
    · have HV := hid (show R = (s, x) by rw [← HSP.out, spF_end (by rw [LT.out]; exact h1)])
      obtain ⟨hl7, _, hB7, hbx, _⟩ := HS.out
      obtain ⟨a0, a1, a2, a3, a4, a5, a6, rfl⟩ := list7 hl7
      have c0 := hbx.cell 0 (show 0 < 7 by omega)
      have z0 := hbx.soft 0
      have c1 := hbx.cell 1 (show 1 < 7 by omega)
      have z1 := hbx.soft 1
      have c2 := hbx.cell 2 (show 2 < 7 by omega)
      have z2 := hbx.soft 2
      have c3 := hbx.cell 3 (show 3 < 7 by omega)
      have z3 := hbx.soft 3
      have c4 := hbx.cell 4 (show 4 < 7 by omega)
      have z4 := hbx.soft 4
      have c5 := hbx.cell 5 (show 5 < 7 by omega)
      have z5 := hbx.soft 5
      have c6 := hbx.cell 6 (show 6 < 7 by omega)
      have z6 := hbx.soft 6
      have q7 := ((((((hbx.put 0 a0).put 1 a1).put 2 a2).put 3 a3).put 4 a4).put 5 a5).put 6 a6
      have d0 := q7.cell 0 (show 0 < 7 by omega)
      have d1 := q7.cell 1 (show 1 < 7 by omega)
      have d2 := q7.cell 2 (show 2 < 7 by omega)
      have d3 := q7.cell 3 (show 3 < 7 by omega)
      have d4 := q7.cell 4 (show 4 < 7 by omega)
      have d5 := q7.cell 5 (show 5 < 7 by omega)
      have d6 := q7.cell 6 (show 6 < 7 by omega)
      simp at c0 c1 c2 c3 c4 c5 c6 d0 d1 d2 d3 d4 d5 d6
      have HB7 := hid hB7
      clear hbx q7 hB7 hl7
      go_wp2
      refine bodyPost_ret (by simp [results, Tryz.results31, go_sem, d0, d1, d2, d3, d4, d5, d6]; try rfl) rfl ?_
      exact ⟨⟨[a0, a1, a2, a3, a4, a5, a6], rfl, by rw [HV.out]; first | rfl | go_num, by rw [HV.out]⟩, ((((((HB7.out.setCell (Nat.le_refl _) _).setCell (Nat.le_refl _) _).setCell (Nat.le_refl _) _).setCell (Nat.le_refl _) _).setCell (Nat.le_refl _) _).setCell (Nat.le_refl _) _).setCell (Nat.le_refl _) _⟩
end Go.Proofs.YtjpglgemnaknhaaGreatDoor

namespace Go.Proofs.YtjpglgemnaknhaaGreatDoor
open Go.RowKit
set_option maxRecDepth 100000

/-- a span as a value -/
def lV (s : List Int) : Value := .agg (s.map (Value.int .i64)).toArray

theorem spF_len (t : List UInt8) : ∀ (f a nx en : Nat) (s : List Int), a ≤ t.length → (spF t f a nx en s).2 ≤ t.length ∧ a ≤ (spF t f a nx en s).2 ∧ (spF t f a nx en s).1.length = s.length
  | 0, a, nx, en, s, h => ⟨h, Nat.le_refl _, rfl⟩
  | f + 1, a, nx, en, s, h => by
    have hd := dga_le (t.drop a) 9
    rw [List.length_drop] at hd
    by_cases h1 : a < t.length
    · by_cases h2 : bt t a = 84 ∧ en = 4
      · rw [spF_T h1 h2]
        have := spF_len t f (a + 1) 4 7 s (by omega)
        exact ⟨this.1, by omega, this.2.2⟩
      · by_cases h3 : nx = en
        · rw [spF_full h1 h2 h3]; exact ⟨h, Nat.le_refl _, rfl⟩
        · by_cases h4 : dga (t.drop a) 9 = 0 ∨ a + dga (t.drop a) 9 = t.length
          · rw [spF_num h1 h2 h3 h4]
            refine ⟨?_, ?_, rfl⟩
            · show a + dga (t.drop a) 9 ≤ t.length; omega
            · show a ≤ a + dga (t.drop a) 9; omega
          · by_cases h5 : slt nx en (bt t (a + dga (t.drop a) 9)) < 0
            · rw [spF_bad h1 h2 h3 h4 h5]
              refine ⟨?_, ?_, rfl⟩
              · show a + dga (t.drop a) 9 ≤ t.length; omega
              · show a ≤ a + dga (t.drop a) 9; omega
            · rw [spF_go h1 h2 h3 h4 h5]
              have := spF_len t f (a + dga (t.drop a) 9 + 1) (if bt t (a + dga (t.drop a) 9) = 87 then 7 else nx + (slt nx en (bt t (a + dga (t.drop a) 9))).toNat + 1) (if bt t (a + dga (t.drop a) 9) = 87 then 7 else en)
                (s.set (fld (nx + (slt nx en (bt t (a + dga (t.drop a) 9))).toNat)) (nm (sub t a (dga (t.drop a) 9)) : Int)) (by omega)
              refine ⟨this.1, by omega, ?_⟩
              rw [this.2.2, List.length_set]
    · rw [spF_end h1]; exact ⟨h, Nat.le_refl _, rfl⟩

theorem spR_len (t : List UInt8) : (spR t).2 ≤ t.length ∧ (spR t).1.length = 7 := by
  unfold spR
  split
  · have := spF_len t 64 1 0 4 zs7 (by omega)
    exact ⟨this.1, this.2.2⟩
  · exact ⟨by simp, rfl⟩

set_option maxHeartbeats 1000000 in
theorem readSpan_no (t : ByteArray) (h : ¬ (0 < t.size ∧ bt t.data.toList 0 = 80)) (w : World) :
    Calls Tryz.prog 31 #[.string t] w fun e w' => e = .returned (.tuple #[lV zs7, .int .i64 0]) ∧ Below w.heap.size w w' := by
  have HP : Hid (∀ w, Calls Tryz.prog 64 #[.string t, .string ⟨#[80]⟩] w fun e w' => e = .returned (.bool false) ∧ w' = w) := fun w => by
    refine (Tryz.strings_HasPrefix t ⟨#[80]⟩ w).mono ?_
    rintro e w' ⟨rfl, rfl⟩
    refine ⟨?_, rfl⟩
    have lt : t.data.toList.length = t.size := Array.length_toList
    match hq : t.data.toList with
    | [] => rfl
    | c :: r =>
      have hc : c ≠ 80 := fun e => h ⟨by rw [← lt, hq]; simp, by rw [hq]; exact e⟩
      have hb : (80 == c) = false := by rw [beq_eq_false_iff_ne]; exact fun e => hc e.symm
      show Ending.returned (.bool ((80 == c) && List.isPrefixOf [] r)) = _
      rw [hb]
      rfl
  have hB := alloc_belowS w (.cells #[.int .i64 0, .int .i64 0, .int .i64 0, .int .i64 0, .int .i64 0, .int .i64 0, .int .i64 0] 23)
  clear h
  go_enter Tryz.func31, Tryz.ntmps31
  go_wp2_with fail
  refine (HP.out _).mono ?_
  rintro e w1 ⟨rfl, rfl⟩
  go_wp2
  refine bodyPost_ret (by simp [results, Tryz.results31, go_sem]; try rfl) rfl ?_
  exact ⟨rfl, hB⟩

theorem readSpan_any (t : ByteArray) (ht : t.size ≤ 64) (w : World) (hE : HasES w) :
    Calls Tryz.prog 31 #[.string t] w fun e w' => e = .returned (.tuple #[lV (spR t.data.toList).1, .int .i64 ((spR t.data.toList).2 : Nat)]) ∧ Below w.heap.size w w' := by
  have lt : t.data.toList.length = t.size := Array.length_toList
  by_cases h : 0 < t.size ∧ bt t.data.toList 0 = 80
  · have e : spR t.data.toList = spF t.data.toList 64 1 0 4 zs7 := by unfold spR; rw [if_pos ⟨h.2, by rw [lt]; exact h.1⟩]
    rw [e]
    refine (readSpan_P t ht h.1 (by rw [← bt_at t 0 h.1]; exact h.2) w hE).mono ?_
    rintro x w' ⟨⟨s, _, rfl, rfl⟩, hb⟩
    exact ⟨rfl, hb⟩
  · have e : spR t.data.toList = (zs7, 0) := by unfold spR; rw [if_neg (fun q => h ⟨by rw [← lt]; exact q.2, q.1⟩)]
    rw [e]
    exact readSpan_no t h w

/-- an answer of three -/
def sT (s : List Int) (e p : Int) : Value := .tuple #[lV s, .int .i64 e, .int .i64 p]
/-- the whole answer -/
def spV (t : ByteArray) : Value := if 64 < t.size then sT zs7 1 0 else if spOk t.data.toList = true then sT (spR t.data.toList).1 0 0 else sT zs7 34 ((spR t.data.toList).2 : Nat)

theorem ix_mem (l : List UInt8) (c : UInt8) : (0 ≤ Lib.indexByte l c) ↔ c ∈ l := by
  induction l with
  | nil => simp [Lib.indexByte]
  | cons b l ih =>
    show (0 ≤ (if b == c then (0 : Int) else if Lib.indexByte l c == -1 then -1 else Lib.indexByte l c + 1)) ↔ _
    have hge := Lib.indexByte_ge l c
    by_cases h : b = c
    · subst h; simp
    · have hb : (b == c) = false := by rw [beq_eq_false_iff_ne]; exact h
      rw [hb, if_neg (by simp), List.mem_cons, ← ih]
      by_cases h2 : Lib.indexByte l c = -1
      · rw [h2]; simp; exact fun e => h e.symm
      · have h3 : (Lib.indexByte l c == -1) = false := by rw [beq_eq_false_iff_ne]; exact h2
        rw [h3, if_neg (by simp)]
        constructor
        · intro _; right; omega
        · intro _; omega

theorem last_extract (t : ByteArray) (h : 0 < t.size) : t.extract (t.size - 1) t.size = ⟨#[t[t.size - 1]'(by omega)]⟩ := by
  apply ByteArray.ext
  apply Array.toList_inj.mp
  show (t.extract (t.size - 1) t.size).data.toList = [t[t.size - 1]'(by omega)]
  rw [drop_extract]
  have lt : t.data.toList.length = t.size := Array.length_toList
  rw [List.drop_eq_getElem_cons (by rw [lt]; omega), List.drop_eq_nil_of_le (by rw [lt]; omega), byte_at t (t.size - 1) (by omega)]
end Go.Proofs.YtjpglgemnaknhaaGreatDoor

namespace Go.Proofs.YtjpglgemnaknhaaGreatDoor
open Go.RowKit
set_option maxRecDepth 100000

theorem parseSpan_long (t : ByteArray) (ht : 64 < t.size) (w : World) : Calls Tryz.prog 11 #[.string t] w fun e w' => e = .returned (sT zs7 1 0) ∧ Below w.heap.size w w' := by
  have hB := alloc_belowS w (.cells #[.int .i64 0, .int .i64 0, .int .i64 0, .int .i64 0, .int .i64 0, .int .i64 0, .int .i64 0] 23)
  go_enter Tryz.func11, Tryz.ntmps11
  go_wp2
  refine bodyPost_ret (by simp [results, Tryz.results11, go_sem]; try rfl) rfl ?_
  exact ⟨rfl, hB⟩

set_option maxHeartbeats 1000000 in
theorem parseSpan_short (t : ByteArray) (ht : t.size ≤ 64) (h : (spR t.data.toList).2 < t.size) (w : World) (hE : HasES w) : Calls Tryz.prog 11 #[.string t] w fun e w' => e = .returned (sT zs7 34 ((spR t.data.toList).2 : Nat)) ∧ Below w.heap.size w w' := by
  have hEA := hE.below (alloc_belowS w (.cells #[.int .i64 0, .int .i64 0, .int .i64 0, .int .i64 0, .int .i64 0, .int .i64 0, .int .i64 0] 23))
  have HR := hid (readSpan_any t ht (w.alloc (.cells #[.int .i64 0, .int .i64 0, .int .i64 0, .int .i64 0, .int .i64 0, .int .i64 0, .int .i64 0] 23)) hEA)
  obtain ⟨a0, a1, a2, a3, a4, a5, a6, hs⟩ := list7 (spR_len t.data.toList).2
  obtain ⟨r, hr⟩ : ∃ r, r = (spR t.data.toList).2 := ⟨_, rfl⟩
  have hrl := (spR_len t.data.toList).1
  rw [Array.length_toList] at hrl
  have hrl' : (spR t.data.toList).2 ≤ t.size := hrl
  rw [← hr] at HR hrl'
  rw [hs] at HR
  rw [← hr] at h ⊢
  clear hrl hrl' hr hs
  clear hE hEA
  unfold sT lV at *
  simp only [List.map_cons, List.map_nil] at HR ⊢
  go_enter Tryz.func11, Tryz.ntmps11
  go_wp2_with fail
  refine HR.out.mono ?_
  rintro e w1 ⟨rfl, hb⟩
  have HX := hid ((show LBox _ w.heap.size zs7 from heap_alloc_new w (.cells #[.int .i64 0, .int .i64 0, .int .i64 0, .int .i64 0, .int .i64 0, .int .i64 0, .int .i64 0] 23)).later hb)
  have HB1 := hid ((alloc_belowS w (.cells #[.int .i64 0, .int .i64 0, .int .i64 0, .int .i64 0, .int .i64 0, .int .i64 0, .int .i64 0] 23)).trans (hb.mono (by simp)))
  clear hb HR
  have hbx := HX.out.later (alloc_belowS w1 (.cells #[.int .i64 a0, .int .i64 a1, .int .i64 a2, .int .i64 a3, .int .i64 a4, .int .i64 a5, .int .i64 a6] 23))
  have HB := hid (HB1.out.alloc HB1.out.size (.cells #[.int .i64 a0, .int .i64 a1, .int .i64 a2, .int .i64 a3, .int .i64 a4, .int .i64 a5, .int .i64 a6] 23))
  have c0 : World.cell? _ ⟨w.heap.size, 0, none⟩ = some (.int .i64 0) := hbx.cell 0 (show 0 < 7 by omega)
  have z0 := hbx.soft 0
  have c1 : World.cell? _ ⟨w.heap.size, 1, none⟩ = some (.int .i64 0) := hbx.cell 1 (show 1 < 7 by omega)
  have z1 := hbx.soft 1
  have c2 : World.cell? _ ⟨w.heap.size, 2, none⟩ = some (.int .i64 0) := hbx.cell 2 (show 2 < 7 by omega)
  have z2 := hbx.soft 2
  have c3 : World.cell? _ ⟨w.heap.size, 3, none⟩ = some (.int .i64 0) := hbx.cell 3 (show 3 < 7 by omega)
  have z3 := hbx.soft 3
  have c4 : World.cell? _ ⟨w.heap.size, 4, none⟩ = some (.int .i64 0) := hbx.cell 4 (show 4 < 7 by omega)
  have z4 := hbx.soft 4
  have c5 : World.cell? _ ⟨w.heap.size, 5, none⟩ = some (.int .i64 0) := hbx.cell 5 (show 5 < 7 by omega)
  have z5 := hbx.soft 5
  have c6 : World.cell? _ ⟨w.heap.size, 6, none⟩ = some (.int .i64 0) := hbx.cell 6 (show 6 < 7 by omega)
  have z6 := hbx.soft 6
  have q7 := (((((((hbx.put 0 0).put 1 0).put 2 0).put 3 0).put 4 0).put 5 0).put 6 0)
  have d0 : World.cell? _ ⟨w.heap.size, 0, none⟩ = some (.int .i64 0) := q7.cell 0 (show 0 < 7 by omega)
  have d1 : World.cell? _ ⟨w.heap.size, 1, none⟩ = some (.int .i64 0) := q7.cell 1 (show 1 < 7 by omega)
  have d2 : World.cell? _ ⟨w.heap.size, 2, none⟩ = some (.int .i64 0) := q7.cell 2 (show 2 < 7 by omega)
  have d3 : World.cell? _ ⟨w.heap.size, 3, none⟩ = some (.int .i64 0) := q7.cell 3 (show 3 < 7 by omega)
  have d4 : World.cell? _ ⟨w.heap.size, 4, none⟩ = some (.int .i64 0) := q7.cell 4 (show 4 < 7 by omega)
  have d5 : World.cell? _ ⟨w.heap.size, 5, none⟩ = some (.int .i64 0) := q7.cell 5 (show 5 < 7 by omega)
  have d6 : World.cell? _ ⟨w.heap.size, 6, none⟩ = some (.int .i64 0) := q7.cell 6 (show 6 < 7 by omega)
  clear hbx q7
  go_wp2
  refine bodyPost_ret (by simp [results, Tryz.results11, go_sem, d0, d1, d2, d3, d4, d5, d6]; try rfl) rfl ?_
  exact ⟨rfl, ((((((HB.out.setCell (Nat.le_refl _) _).setCell (Nat.le_refl _) _).setCell (Nat.le_refl _) _).setCell (Nat.le_refl _) _).setCell (Nat.le_refl _) _).setCell (Nat.le_refl _) _).setCell (Nat.le_refl _) _⟩

set_option maxHeartbeats 1000000 in
theorem parseSpan_zero (t : ByteArray) (ht : t.size ≤ 64) (h : t.size = 0) (w : World) (hE : HasES w) : Calls Tryz.prog 11 #[.string t] w fun e w' => e = .returned (sT zs7 34 ((spR t.data.toList).2 : Nat)) ∧ Below w.heap.size w w' := by
  have hEA := hE.below (alloc_belowS w (.cells #[.int .i64 0, .int .i64 0, .int .i64 0, .int .i64 0, .int .i64 0, .int .i64 0, .int .i64 0] 23))
  have HR := hid (readSpan_any t ht (w.alloc (.cells #[.int .i64 0, .int .i64 0, .int .i64 0, .int .i64 0, .int .i64 0, .int .i64 0, .int .i64 0] 23)) hEA)
  obtain ⟨a0, a1, a2, a3, a4, a5, a6, hs⟩ := list7 (spR_len t.data.toList).2
  obtain ⟨r, hr⟩ : ∃ r, r = (spR t.data.toList).2 := ⟨_, rfl⟩
  have hrl := (spR_len t.data.toList).1
  rw [Array.length_toList] at hrl
  have hrl' : (spR t.data.toList).2 ≤ t.size := hrl
  rw [← hr] at HR hrl'
  rw [hs] at HR
  have h0 : r = 0 := by omega
  subst h0
  rw [← hr]
  clear hrl hrl' hr hs
  clear hE hEA
  unfold sT lV at *
  simp only [List.map_cons, List.map_nil] at HR ⊢
  go_enter Tryz.func11, Tryz.ntmps11
  go_wp2_with fail
  refine HR.out.mono ?_
  rintro e w1 ⟨rfl, hb⟩
  have HX := hid ((show LBox _ w.heap.size zs7 from heap_alloc_new w (.cells #[.int .i64 0, .int .i64 0, .int .i64 0, .int .i64 0, .int .i64 0, .int .i64 0, .int .i64 0] 23)).later hb)
  have HB1 := hid ((alloc_belowS w (.cells #[.int .i64 0, .int .i64 0, .int .i64 0, .int .i64 0, .int .i64 0, .int .i64 0, .int .i64 0] 23)).trans (hb.mono (by simp)))
  clear hb HR
  have hbx := HX.out.later (alloc_belowS w1 (.cells #[.int .i64 a0, .int .i64 a1, .int .i64 a2, .int .i64 a3, .int .i64 a4, .int .i64 a5, .int .i64 a6] 23))
  have HB := hid (HB1.out.alloc HB1.out.size (.cells #[.int .i64 a0, .int .i64 a1, .int .i64 a2, .int .i64 a3, .int .i64 a4, .int .i64 a5, .int .i64 a6] 23))
  have c0 : World.cell? _ ⟨w.heap.size, 0, none⟩ = some (.int .i64 0) := hbx.cell 0 (show 0 < 7 by omega)
  have z0 := hbx.soft 0
  have c1 : World.cell? _ ⟨w.heap.size, 1, none⟩ = some (.int .i64 0) := hbx.cell 1 (show 1 < 7 by omega)
  have z1 := hbx.soft 1
  have c2 : World.cell? _ ⟨w.heap.size, 2, none⟩ = some (.int .i64 0) := hbx.cell 2 (show 2 < 7 by omega)
  have z2 := hbx.soft 2
  have c3 : World.cell? _ ⟨w.heap.size, 3, none⟩ = some (.int .i64 0) := hbx.cell 3 (show 3 < 7 by omega)
  have z3 := hbx.soft 3
  have c4 : World.cell? _ ⟨w.heap.size, 4, none⟩ = some (.int .i64 0) := hbx.cell 4 (show 4 < 7 by omega)
  have z4 := hbx.soft 4
  have c5 : World.cell? _ ⟨w.heap.size, 5, none⟩ = some (.int .i64 0) := hbx.cell 5 (show 5 < 7 by omega)
  have z5 := hbx.soft 5
  have c6 : World.cell? _ ⟨w.heap.size, 6, none⟩ = some (.int .i64 0) := hbx.cell 6 (show 6 < 7 by omega)
  have z6 := hbx.soft 6
  have q7 := (((((((hbx.put 0 0).put 1 0).put 2 0).put 3 0).put 4 0).put 5 0).put 6 0)
  have d0 : World.cell? _ ⟨w.heap.size, 0, none⟩ = some (.int .i64 0) := q7.cell 0 (show 0 < 7 by omega)
  have d1 : World.cell? _ ⟨w.heap.size, 1, none⟩ = some (.int .i64 0) := q7.cell 1 (show 1 < 7 by omega)
  have d2 : World.cell? _ ⟨w.heap.size, 2, none⟩ = some (.int .i64 0) := q7.cell 2 (show 2 < 7 by omega)
  have d3 : World.cell? _ ⟨w.heap.size, 3, none⟩ = some (.int .i64 0) := q7.cell 3 (show 3 < 7 by omega)
  have d4 : World.cell? _ ⟨w.heap.size, 4, none⟩ = some (.int .i64 0) := q7.cell 4 (show 4 < 7 by omega)
  have d5 : World.cell? _ ⟨w.heap.size, 5, none⟩ = some (.int .i64 0) := q7.cell 5 (show 5 < 7 by omega)
  have d6 : World.cell? _ ⟨w.heap.size, 6, none⟩ = some (.int .i64 0) := q7.cell 6 (show 6 < 7 by omega)
  clear hbx q7
  go_wp2
  refine bodyPost_ret (by simp [results, Tryz.results11, go_sem, d0, d1, d2, d3, d4, d5, d6]; try rfl) rfl ?_
  exact ⟨rfl, ((((((HB.out.setCell (Nat.le_refl _) _).setCell (Nat.le_refl _) _).setCell (Nat.le_refl _) _).setCell (Nat.le_refl _) _).setCell (Nat.le_refl _) _).setCell (Nat.le_refl _) _).setCell (Nat.le_refl _) _⟩

set_option maxHeartbeats 1000000 in
theorem parseSpan_good (t : ByteArray) (ht : t.size ≤ 64) (h0 : 0 < t.size) (h : (spR t.data.toList).2 = t.size) (hm : bt t.data.toList (t.size - 1) ∈ mrk) (w : World) (hE : HasES w) : Calls Tryz.prog 11 #[.string t] w fun e w' => e = .returned (sT (spR t.data.toList).1 0 0) ∧ Below w.heap.size w w' := by
  have hEA := hE.below (alloc_belowS w (.cells #[.int .i64 0, .int .i64 0, .int .i64 0, .int .i64 0, .int .i64 0, .int .i64 0, .int .i64 0] 23))
  have HR := hid (readSpan_any t ht (w.alloc (.cells #[.int .i64 0, .int .i64 0, .int .i64 0, .int .i64 0, .int .i64 0, .int .i64 0, .int .i64 0] 23)) hEA)
  obtain ⟨a0, a1, a2, a3, a4, a5, a6, hs⟩ := list7 (spR_len t.data.toList).2
  obtain ⟨r, hr⟩ : ∃ r, r = (spR t.data.toList).2 := ⟨_, rfl⟩
  have hrl := (spR_len t.data.toList).1
  rw [Array.length_toList] at hrl
  have hrl' : (spR t.data.toList).2 ≤ t.size := hrl
  rw [← hr] at HR hrl'
  rw [hs] at HR
  have hrs : r = t.size := by rw [hr]; exact h
  rw [hrs] at HR
  have hl1 : t.size - 1 < t.size := by omega
  obtain ⟨c, hc⟩ : ∃ c, c = t[t.size - 1]'hl1 := ⟨_, rfl⟩
  have qs : ∀ w, (Instr.slice 9 (.string t) (some (.int .i64 ((t.size : Int) - 1))) none none).run Tryz.prog w = .ok (.string ⟨#[c]⟩) w := fun w => by
    have h1 := run_from t (t.size - 1) (by omega) w
    rw [last_extract t h0, show (((t.size - 1 : Nat)) : Int) = (t.size : Int) - 1 by omega, ← hc] at h1
    exact h1
  have HC := hid (fun w => Tryz.strings_Contains_one mkB c w)
  have hcm : (0 ≤ Lib.indexByte mkB.data.toList c) ↔ c ∈ mrk := ix_mem mrk c
  rw [bt_at t (t.size - 1) hl1, ← hc] at hm
  rw [decide_eq_true (hcm.2 hm)] at HC
  rw [hs]
  clear hrl hrl' hr hs hrs h hm hcm hc hl1
  have wz : IntKind.i64.wrap ((t.size : Int) - 1) = (t.size : Int) - 1 := by rw [IntKind.wrap_i64]; omega
  have z1 : ((t.size : Int) == 0) = false := by rw [beq_eq_false_iff_ne]; omega
  clear hE hEA
  unfold sT lV at *
  simp only [List.map_cons, List.map_nil] at HR ⊢
  go_enter Tryz.func11, Tryz.ntmps11
  go_wp2_with fail
  refine HR.out.mono ?_
  rintro e w1 ⟨rfl, hb⟩
  have HX := hid ((show LBox _ w.heap.size zs7 from heap_alloc_new w (.cells #[.int .i64 0, .int .i64 0, .int .i64 0, .int .i64 0, .int .i64 0, .int .i64 0, .int .i64 0] 23)).later hb)
  have HB1 := hid ((alloc_belowS w (.cells #[.int .i64 0, .int .i64 0, .int .i64 0, .int .i64 0, .int .i64 0, .int .i64 0, .int .i64 0] 23)).trans (hb.mono (by simp)))
  clear hb HR
  have hbx := HX.out.later (alloc_belowS w1 (.cells #[.int .i64 a0, .int .i64 a1, .int .i64 a2, .int .i64 a3, .int .i64 a4, .int .i64 a5, .int .i64 a6] 23))
  have HB := hid (HB1.out.alloc HB1.out.size (.cells #[.int .i64 a0, .int .i64 a1, .int .i64 a2, .int .i64 a3, .int .i64 a4, .int .i64 a5, .int .i64 a6] 23))
  have c0 : World.cell? _ ⟨w.heap.size, 0, none⟩ = some (.int .i64 0) := hbx.cell 0 (show 0 < 7 by omega)
  have z0 := hbx.soft 0
  have c1 : World.cell? _ ⟨w.heap.size, 1, none⟩ = some (.int .i64 0) := hbx.cell 1 (show 1 < 7 by omega)
  have z1 := hbx.soft 1
  have c2 : World.cell? _ ⟨w.heap.size, 2, none⟩ = some (.int .i64 0) := hbx.cell 2 (show 2 < 7 by omega)
  have z2 := hbx.soft 2
  have c3 : World.cell? _ ⟨w.heap.size, 3, none⟩ = some (.int .i64 0) := hbx.cell 3 (show 3 < 7 by omega)
  have z3 := hbx.soft 3
  have c4 : World.cell? _ ⟨w.heap.size, 4, none⟩ = some (.int .i64 0) := hbx.cell 4 (show 4 < 7 by omega)
  have z4 := hbx.soft 4
  have c5 : World.cell? _ ⟨w.heap.size, 5, none⟩ = some (.int .i64 0) := hbx.cell 5 (show 5 < 7 by omega)
  have z5 := hbx.soft 5
  have c6 : World.cell? _ ⟨w.heap.size, 6, none⟩ = some (.int .i64 0) := hbx.cell 6 (show 6 < 7 by omega)
  have z6 := hbx.soft 6
  have q7 := (((((((hbx.put 0 a0).put 1 a1).put 2 a2).put 3 a3).put 4 a4).put 5 a5).put 6 a6)
  have d0 : World.cell? _ ⟨w.heap.size, 0, none⟩ = some (.int .i64 a0) := q7.cell 0 (show 0 < 7 by omega)
  have d1 : World.cell? _ ⟨w.heap.size, 1, none⟩ = some (.int .i64 a1) := q7.cell 1 (show 1 < 7 by omega)
  have d2 : World.cell? _ ⟨w.heap.size, 2, none⟩ = some (.int .i64 a2) := q7.cell 2 (show 2 < 7 by omega)
  have d3 : World.cell? _ ⟨w.heap.size, 3, none⟩ = some (.int .i64 a3) := q7.cell 3 (show 3 < 7 by omega)
  have d4 : World.cell? _ ⟨w.heap.size, 4, none⟩ = some (.int .i64 a4) := q7.cell 4 (show 4 < 7 by omega)
  have d5 : World.cell? _ ⟨w.heap.size, 5, none⟩ = some (.int .i64 a5) := q7.cell 5 (show 5 < 7 by omega)
  have d6 : World.cell? _ ⟨w.heap.size, 6, none⟩ = some (.int .i64 a6) := q7.cell 6 (show 6 < 7 by omega)
  clear hbx q7
  go_wp2_with (go_at_call 24; refine (HC.out _).mono ?_; rintro e w' ⟨rfl, rfl⟩)
  refine bodyPost_ret (by simp [results, Tryz.results11, go_sem, d0, d1, d2, d3, d4, d5, d6]; try rfl) rfl ?_
  exact ⟨rfl, ((((((HB.out.setCell (Nat.le_refl _) _).setCell (Nat.le_refl _) _).setCell (Nat.le_refl _) _).setCell (Nat.le_refl _) _).setCell (Nat.le_refl _) _).setCell (Nat.le_refl _) _).setCell (Nat.le_refl _) _⟩

set_option maxHeartbeats 1000000 in
theorem parseSpan_last (t : ByteArray) (ht : t.size ≤ 64) (h0 : 0 < t.size) (h : (spR t.data.toList).2 = t.size) (hm : ¬ bt t.data.toList (t.size - 1) ∈ mrk) (w : World) (hE : HasES w) : Calls Tryz.prog 11 #[.string t] w fun e w' => e = .returned (sT zs7 34 ((spR t.data.toList).2 : Nat)) ∧ Below w.heap.size w w' := by
  have hEA := hE.below (alloc_belowS w (.cells #[.int .i64 0, .int .i64 0, .int .i64 0, .int .i64 0, .int .i64 0, .int .i64 0, .int .i64 0] 23))
  have HR := hid (readSpan_any t ht (w.alloc (.cells #[.int .i64 0, .int .i64 0, .int .i64 0, .int .i64 0, .int .i64 0, .int .i64 0, .int .i64 0] 23)) hEA)
  obtain ⟨a0, a1, a2, a3, a4, a5, a6, hs⟩ := list7 (spR_len t.data.toList).2
  obtain ⟨r, hr⟩ : ∃ r, r = (spR t.data.toList).2 := ⟨_, rfl⟩
  have hrl := (spR_len t.data.toList).1
  rw [Array.length_toList] at hrl
  have hrl' : (spR t.data.toList).2 ≤ t.size := hrl
  rw [← hr] at HR hrl'
  rw [hs] at HR
  have hrs : r = t.size := by rw [hr]; exact h
  rw [hrs] at HR
  have hl1 : t.size - 1 < t.size := by omega
  obtain ⟨c, hc⟩ : ∃ c, c = t[t.size - 1]'hl1 := ⟨_, rfl⟩
  have qs : ∀ w, (Instr.slice 9 (.string t) (some (.int .i64 ((t.size : Int) - 1))) none none).run Tryz.prog w = .ok (.string ⟨#[c]⟩) w := fun w => by
    have h1 := run_from t (t.size - 1) (by omega) w
    rw [last_extract t h0, show (((t.size - 1 : Nat)) : Int) = (t.size : Int) - 1 by omega, ← hc] at h1
    exact h1
  have HC := hid (fun w => Tryz.strings_Contains_one mkB c w)
  have hcm : (0 ≤ Lib.indexByte mkB.data.toList c) ↔ c ∈ mrk := ix_mem mrk c
  rw [bt_at t (t.size - 1) hl1, ← hc] at hm
  rw [decide_eq_false (fun q => hm (hcm.1 q))] at HC
  rw [h]
  clear hrl hrl' hr hs hrs h hm hcm hc hl1
  have wz : IntKind.i64.wrap ((t.size : Int) - 1) = (t.size : Int) - 1 := by rw [IntKind.wrap_i64]; omega
  have z1 : ((t.size : Int) == 0) = false := by rw [beq_eq_false_iff_ne]; omega
  clear hE hEA
  unfold sT lV at *
  simp only [List.map_cons, List.map_nil] at HR ⊢
  go_enter Tryz.func11, Tryz.ntmps11
  go_wp2_with fail
  refine HR.out.mono ?_
  rintro e w1 ⟨rfl, hb⟩
  have HX := hid ((show LBox _ w.heap.size zs7 from heap_alloc_new w (.cells #[.int .i64 0, .int .i64 0, .int .i64 0, .int .i64 0, .int .i64 0, .int .i64 0, .int .i64 0] 23)).later hb)
  have HB1 := hid ((alloc_belowS w (.cells #[.int .i64 0, .int .i64 0, .int .i64 0, .int .i64 0, .int .i64 0, .int .i64 0, .int .i64 0] 23)).trans (hb.mono (by simp)))
  clear hb HR
  have hbx := HX.out.later (alloc_belowS w1 (.cells #[.int .i64 a0, .int .i64 a1, .int .i64 a2, .int .i64 a3, .int .i64 a4, .int .i64 a5, .int .i64 a6] 23))
  have HB := hid (HB1.out.alloc HB1.out.size (.cells #[.int .i64 a0, .int .i64 a1, .int .i64 a2, .int .i64 a3, .int .i64 a4, .int .i64 a5, .int .i64 a6] 23))
  have c0 : World.cell? _ ⟨w.heap.size, 0, none⟩ = some (.int .i64 0) := hbx.cell 0 (show 0 < 7 by omega)
  have z0 := hbx.soft 0
  have c1 : World.cell? _ ⟨w.heap.size, 1, none⟩ = some (.int .i64 0) := hbx.cell 1 (show 1 < 7 by omega)
  have z1 := hbx.soft 1
  have c2 : World.cell? _ ⟨w.heap.size, 2, none⟩ = some (.int .i64 0) := hbx.cell 2 (show 2 < 7 by omega)
  have z2 := hbx.soft 2
  have c3 : World.cell? _ ⟨w.heap.size, 3, none⟩ = some (.int .i64 0) := hbx.cell 3 (show 3 < 7 by omega)
  have z3 := hbx.soft 3
  have c4 : World.cell? _ ⟨w.heap.size, 4, none⟩ = some (.int .i64 0) := hbx.cell 4 (show 4 < 7 by omega)
  have z4 := hbx.soft 4
  have c5 : World.cell? _ ⟨w.heap.size, 5, none⟩ = some (.int .i64 0) := hbx.cell 5 (show 5 < 7 by omega)
  have z5 := hbx.soft 5
  have c6 : World.cell? _ ⟨w.heap.size, 6, none⟩ = some (.int .i64 0) := hbx.cell 6 (show 6 < 7 by omega)
  have z6 := hbx.soft 6
  have q7 := (((((((hbx.put 0 0).put 1 0).put 2 0).put 3 0).put 4 0).put 5 0).put 6 0)
  have d0 : World.cell? _ ⟨w.heap.size, 0, none⟩ = some (.int .i64 0) := q7.cell 0 (show 0 < 7 by omega)
  have d1 : World.cell? _ ⟨w.heap.size, 1, none⟩ = some (.int .i64 0) := q7.cell 1 (show 1 < 7 by omega)
  have d2 : World.cell? _ ⟨w.heap.size, 2, none⟩ = some (.int .i64 0) := q7.cell 2 (show 2 < 7 by omega)
  have d3 : World.cell? _ ⟨w.heap.size, 3, none⟩ = some (.int .i64 0) := q7.cell 3 (show 3 < 7 by omega)
  have d4 : World.cell? _ ⟨w.heap.size, 4, none⟩ = some (.int .i64 0) := q7.cell 4 (show 4 < 7 by omega)
  have d5 : World.cell? _ ⟨w.heap.size, 5, none⟩ = some (.int .i64 0) := q7.cell 5 (show 5 < 7 by omega)
  have d6 : World.cell? _ ⟨w.heap.size, 6, none⟩ = some (.int .i64 0) := q7.cell 6 (show 6 < 7 by omega)
  clear hbx q7
  go_wp2_with (go_at_call 24; refine (HC.out _).mono ?_; rintro e w' ⟨rfl, rfl⟩)
  refine bodyPost_ret (by simp [results, Tryz.results11, go_sem, d0, d1, d2, d3, d4, d5, d6]; try rfl) rfl ?_
  exact ⟨rfl, ((((((HB.out.setCell (Nat.le_refl _) _).setCell (Nat.le_refl _) _).setCell (Nat.le_refl _) _).setCell (Nat.le_refl _) _).setCell (Nat.le_refl _) _).setCell (Nat.le_refl _) _).setCell (Nat.le_refl _) _⟩

theorem parseSpan_any (t : ByteArray) (w : World) (hE : HasES w) : Calls Tryz.prog 11 #[.string t] w fun e w' => e = .returned (spV t) ∧ Below w.heap.size w w' := by
  have lt : t.data.toList.length = t.size := Array.length_toList
  unfold spV
  by_cases h64 : 64 < t.size
  · rw [if_pos h64]; exact parseSpan_long t h64 w
  · rw [if_neg h64]
    have hl := (spR_len t.data.toList).1
    rw [lt] at hl
    by_cases h1 : (spR t.data.toList).2 = t.size
    · by_cases h0 : 0 < t.size
      · by_cases hm : bt t.data.toList (t.size - 1) ∈ mrk
        · rw [if_pos (by unfold spOk; rw [lt, decide_eq_true ⟨h1, h0⟩, decide_eq_true hm]; rfl)]
          exact parseSpan_good t (by omega) h0 h1 hm w hE
        · rw [if_neg (by unfold spOk; rw [lt, decide_eq_false hm]; simp)]
          exact parseSpan_last t (by omega) h0 h1 hm w hE
      · rw [if_neg (by unfold spOk; rw [lt, decide_eq_false (fun q => h0 q.2)]; simp)]
        exact parseSpan_zero t (by omega) (by omega) w hE
    · rw [if_neg (by unfold spOk; rw [lt, decide_eq_false (fun q => h1 q.1)]; simp)]
      exact parseSpan_short t (by omega) (by omega) w hE
end Go.Proofs.YtjpglgemnaknhaaGreatDoor

namespace Go.Proofs.YtjpglgemnaknhaaGreatDoor
open Go.RowKit

theorem gES : Tryz.prog.globalNamed "strconv.ErrSyntax" = some 2 := by kernel_rfl
theorem gESType : (Tryz.prog.globals[2]?).map (·.type) = some 84 := by kernel_rfl
theorem starES : "*" ++ "errors.errorString" = "*errors.errorString" := by decide
theorem rowES (u : TypeId) (h : Tryz.prog.typeName? 3 u = some "*errors.errorString") : u = 149 :=
  typeName_ptr_named (nm := "errors.errorString") (by rw [starES]; kernel_rfl) (by kernel_rfl) (by decide) u (by rw [starES]; exact h)
theorem hasES_of {rest : List (String × DataW Unit)} {w : World} (h : laidMet Tryz.prog (("strconv.ErrSyntax", Rows.laid_strconv_ErrSyntax) :: rest) w) : HasES w := by
  have h' : laidMet Tryz.prog (("strconv.ErrSyntax", .iface "*errors.errorString" (.ptr (.agg [.lit (.string [105, 110, 118, 97, 108, 105, 100, 32, 115, 121, 110, 116, 97, 120])]))) :: rest) w := h
  obtain ⟨a0, s0, hv0, -, -, -⟩ := laid_sentinel h' gES gESType Tryz.underlying84 rowES Tryz.underlying149 Tryz.underlying151 rfl rfl Tryz.underlying9 (by kernel_rfl) (by kernel_rfl)
  exact ⟨_, by have h0 := World.var?_cell gES hv0 0; simpa using h0, Or.inr ⟨_, _, rfl⟩⟩
end Go.Proofs.YtjpglgemnaknhaaGreatDoor
