/-
  VCodes: Sums of digits from the last on, every second one three times: the plain mathematics. No Go in sight.
  VSums: The sums: the contracts of both sides.
  VBytes: Bytes in memory: slices of bytes that can be read ('Reads'), those that a call has made and may append to ('Owns'), and the laws of append and make for them. No function of the program in sight.
  VDigits: Check digits: the contracts of both sides.
  VCheck: Codes: the contracts of Check, on both sides.
  VBuild: A strings.Builder of the call's own: what is written to it, what it says.
  VNormal: Normal forms: the contracts of both sides.
  VLevels: Packs: the contracts of atLevel and leveled, of Pack on both sides, and of the document's own Check and Normal.
  VRefNormal: Normal on the document's side.
-/
import Derived.Test.YtmgfdnccmeahjaaGreatDoorRows
import Derived.WalkKit
import Derived.ProofKit
import Derived.OpenShut
import Derived.Laws.AppendOwnNone
import Derived.Laws.IdiomStrings
import Derived.Test.YtmgfdnccmeahjaaGreatDoorShelf
import Derived.Lib.Builder
import Derived.Lib.AppendStr
import Derived.Lib.UnsafeStr
import Derived.Lib.Strings
namespace Go.Proofs.YtmgfdnccmeahjaaGreatDoor

/-- the worth of a byte as a digit, round the byte's end -/
def dv (c : UInt8) : Nat := (c.toNat + 208) % 256

/-- the digit at a place, counted from the end; 0 beyond -/
def dgG (l : List UInt8) (i : Nat) : Nat := (l.reverse[i]?.map dv).getD 0

/-- the first n, every second one three times -/
def wsum (f : Nat → Nat) : Nat → Nat
  | 0 => 0
  | i + 1 => wsum f i + (if i % 2 = 1 then 3 * f i else f i)

def sm (l : List UInt8) : Nat := wsum (dgG l) l.length

def IsD (c : UInt8) : Prop := 48 ≤ c.toNat ∧ c.toNat ≤ 57
def AllD (l : List UInt8) : Prop := ∀ c ∈ l, IsD c

theorem dg_at (l : List UInt8) (i : Nat) (h : i < l.length) : dgG l i = dv (l[l.length - 1 - i]'(by omega)) := by
  unfold dgG
  rw [List.getElem?_eq_getElem (by simpa using h)]
  simp [List.getElem_reverse]

/-- the check digit -/
def ckN (l : List UInt8) : Nat := (10 - sm (l ++ [48]) % 10) % 10
def ck (l : List UInt8) : UInt8 := UInt8.ofNat (48 + ckN l)
end Go.Proofs.YtmgfdnccmeahjaaGreatDoor

namespace Go.Proofs.YtmgfdnccmeahjaaGreatDoor
open Go.RowKit
set_option maxRecDepth 100000

theorem wsum_le (f : Nat → Nat) (n : Nat) (h : ∀ i, f i ≤ 255) : wsum f n ≤ 765 * n := by
  induction n with
  | zero => exact Nat.le_refl _
  | succ n ih =>
    unfold wsum
    have := h n
    split <;> omega

theorem dg_le (l : List UInt8) (i : Nat) : dgG l i ≤ 255 := by
  unfold dgG
  cases l.reverse[i]? with
  | none => exact Nat.zero_le _
  | some c => show dv c ≤ 255; unfold dv; omega

theorem dg_byte (s : ByteArray) (i : Nat) (h : i < s.size) : dgG s.data.toList i = ((s[s.size - 1 - i]'(by omega)).toNat + 208) % 256 := by
  rw [dg_at _ _ (by rw [Array.length_toList]; exact h)]
  simp only [Array.length_toList, Array.getElem_toList]
  rfl

theorem ret_int {k : IntKind} {a b : Int} (h : a = b) : Ending.returned (.int k a) = .returned (.int k b) := by rw [h]
theorem ret_bool {a b : Bool} (h : a = b) : Ending.returned (.bool a) = .returned (.bool b) := by rw [h]
theorem int_eq {k : IntKind} {a b : Int} (h : a = b) : Value.int k a = .int k b := by rw [h]

set_option maxHeartbeats 400000 in
theorem sum_any (s : ByteArray) (w : World) (hs : s.size ≤ 100) :
    Calls Tryz.prog 272 #[.string s] w fun e w' => e = .returned (.int .i64 (sm s.data.toList : Nat)) ∧ w' = w := by
  go_enter Tryz.func272, Tryz.ntmps272
  go_wp2
  go_loop [3, 8] (fun t i => ∃ k : Nat, k ≤ s.size ∧ t = .int .i64 (wsum (dgG s.data.toList) k : Nat) ∧ i = .int .i64 (k : Nat)) (fun _ i => s.size - (intOf i).toNat)
  case atStart => exact ⟨0, by omega, rfl, rfl⟩
  case round =>
    obtain ⟨k, hk, rfl, rfl⟩ := hrel
    by_cases hlt : k < s.size
    · have hd := dg_byte s k hlt
      have hw := wsum_le (dgG s.data.toList) k (dg_le _)
      have hl := dg_le s.data.toList k
      have hx : wsum (dgG s.data.toList) (k + 1) = wsum (dgG s.data.toList) k + (if k % 2 = 1 then 3 * dgG s.data.toList k else dgG s.data.toList k) := rfl
      by_cases ho : k % 2 = 1
      · have hoI : ((k : Int) % 2 == 1) = true := by simp; omega
        rw [if_pos ho] at hx
        go_wp2
        go_round
        case rel => exact ⟨k + 1, by omega, int_eq (by omega), by go_num⟩
        case measure => simp [intOf]; omega
      · have hoI : ((k : Int) % 2 == 1) = false := by simp; omega
        rw [if_neg ho] at hx
        go_wp2
        go_round
        case rel => exact ⟨k + 1, by omega, int_eq (by omega), by go_num⟩
        case measure => simp [intOf]; omega
    · have hkk : k = s.size := by omega
      subst hkk
      go_wp2
      go_ret
      exact ⟨rfl, rfl⟩

set_option maxHeartbeats 400000 in
theorem refSum_any (s : ByteArray) (w : World) (hs : s.size ≤ 100) :
    Calls Tryz.prog 160 #[.string s] w fun e w' => e = .returned (.int .i64 (sm s.data.toList : Nat)) ∧ w' = w := by
  go_enter Tryz.func160, Tryz.ntmps160
  go_wp2
  go_loop [3, 4] (fun t i => ∃ k : Nat, k ≤ s.size ∧ t = .int .i64 (wsum (dgG s.data.toList) k : Nat) ∧ i = .int .i64 (k : Nat)) (fun _ i => s.size - (intOf i).toNat)
  case atStart => exact ⟨0, by omega, rfl, rfl⟩
  case round =>
    obtain ⟨k, hk, rfl, rfl⟩ := hrel
    by_cases hlt : k < s.size
    · have hd := dg_byte s k hlt
      have hw := wsum_le (dgG s.data.toList) k (dg_le _)
      have hl := dg_le s.data.toList k
      have hx : wsum (dgG s.data.toList) (k + 1) = wsum (dgG s.data.toList) k + (if k % 2 = 1 then 3 * dgG s.data.toList k else dgG s.data.toList k) := rfl
      by_cases ho : k % 2 = 1
      · have hoI : ((k : Int) % 2 == 1) = true := by simp; omega
        rw [if_pos ho] at hx
        go_wp2
        go_round
        case rel => exact ⟨k + 1, by omega, int_eq (by omega), by go_num⟩
        case measure => simp [intOf]; omega
      · have hoI : ((k : Int) % 2 == 1) = false := by simp; omega
        rw [if_neg ho] at hx
        go_wp2
        go_round
        case rel => exact ⟨k + 1, by omega, int_eq (by omega), by go_num⟩
        case measure => simp [intOf]; omega
    · have hkk : k = s.size := by omega
      subst hkk
      go_wp2
      go_ret
      exact ⟨rfl, rfl⟩

/-- is it a digit? -/
def isDB (c : UInt8) : Bool := decide (48 ≤ c.toNat) && decide (c.toNat ≤ 57)
theorem isDB_iff (c : UInt8) : isDB c = true ↔ IsD c := by simp [isDB, IsD]

theorem isDigit_any (c : UInt8) (w : World) :
    Calls Tryz.prog 271 #[.int .u8 (c.toNat : Int)] w fun e w' => e = .returned (.bool (isDB c)) ∧ w' = w := by
  unfold isDB
  by_cases h1 : 48 ≤ c.toNat <;> by_cases h2 : c.toNat ≤ 57
  all_goals
    have h3 : (c.toNat : Int) ≤ 57 ↔ c.toNat ≤ 57 := by omega
    go_enter Tryz.func271, Tryz.ntmps271
    go_wp2
    all_goals go_ret
    all_goals exact ⟨ret_bool (by simp [h1, h2]), rfl⟩

theorem refIsDigit_any (c : UInt8) (w : World) :
    Calls Tryz.prog 159 #[.int .u8 (c.toNat : Int)] w fun e w' => e = .returned (.bool (isDB c)) ∧ w' = w := by
  unfold isDB
  by_cases h1 : 48 ≤ c.toNat <;> by_cases h2 : c.toNat ≤ 57
  all_goals
    have h3 : (c.toNat : Int) ≤ 57 ↔ c.toNat ≤ 57 := by omega
    go_enter Tryz.func159, Tryz.ntmps159
    go_wp2
    all_goals go_ret
    all_goals exact ⟨ret_bool (by simp [h1, h2]), rfl⟩

/-- the place of the first byte that is no digit -/
def foN : List UInt8 → Nat → Int
  | [], _ => -1
  | c :: t, k => if isDB c then foN t (k + 1) else (k : Int)
def fo (l : List UInt8) : Int := foN l 0

theorem foN_none (l : List UInt8) (k : Nat) (h : ∀ c ∈ l, isDB c = true) : foN l k = -1 := by
  induction l generalizing k with
  | nil => rfl
  | cons c t ih => unfold foN; rw [if_pos (h c (by simp)), ih _ (fun x hx => h x (by simp [hx]))]
theorem foN_some (l : List UInt8) (k j : Nat) (hj : j < l.length) (h : ∀ i (hi : i < j), isDB (l[i]'(by omega)) = true) (hn : isDB l[j] = false) : foN l k = ((k + j : Nat) : Int) := by
  induction l generalizing k j with
  | nil => simp at hj
  | cons c t ih =>
    unfold foN
    cases j with
    | zero => rw [if_neg (by simpa using hn)]; rfl
    | succ j =>
      rw [if_pos (by have := h 0 (by omega); simpa using this), ih (k + 1) j (by simpa using hj) (fun i hi => by have := h (i + 1) (by omega); simpa using this) (by simpa using hn)]
      congr 1
      omega
theorem fo_none {l : List UInt8} (h : ∀ c ∈ l, isDB c = true) : fo l = -1 := foN_none l 0 h
theorem fo_some {l : List UInt8} {j : Nat} (hj : j < l.length) (h : ∀ i (hi : i < j), isDB (l[i]'(by omega)) = true) (hn : isDB l[j] = false) : fo l = (j : Int) := by
  have := foN_some l 0 j hj h hn
  simpa [fo] using this

theorem foN_cases (l : List UInt8) (k : Nat) : ((∀ c ∈ l, isDB c = true) ∧ foN l k = -1) ∨ ∃ (j : Nat) (hj : j < l.length), isDB l[j] = false ∧ foN l k = ((k + j : Nat) : Int) := by
  induction l generalizing k with
  | nil => exact .inl ⟨by simp, rfl⟩
  | cons c t ih =>
    unfold foN
    cases hc : isDB c with
    | false => exact .inr ⟨0, by simp, by simpa using hc, by simp⟩
    | true =>
      rcases ih (k + 1) with ⟨a, b⟩ | ⟨j, hj, a, b⟩
      · exact .inl ⟨by intro x hx; rcases List.mem_cons.1 hx with rfl | hx; exact hc; exact a x hx, by simpa using b⟩
      · refine .inr ⟨j + 1, by simpa using hj, by simpa using a, ?_⟩
        rw [if_pos rfl, b]
        congr 1
        omega

theorem fo_cases (l : List UInt8) : (AllD l ∧ fo l = -1) ∨ ∃ j : Nat, j < l.length ∧ ¬ AllD l ∧ fo l = (j : Int) := by
  rcases foN_cases l 0 with ⟨a, b⟩ | ⟨j, hj, a, b⟩
  · exact .inl ⟨fun c hc => (isDB_iff c).1 (a c hc), b⟩
  · refine .inr ⟨j, hj, fun h => ?_, by simpa [fo] using b⟩
    rw [(isDB_iff _).2 (h _ (List.getElem_mem hj))] at a
    cases a

theorem byte_list (s : ByteArray) (k : Nat) (h : k < s.size) : s.data.toList[k]'(by rw [Array.length_toList]; exact h) = s[k]'h := by
  simp only [Array.getElem_toList]
  rfl
theorem len_list (s : ByteArray) : s.data.toList.length = s.size := by rw [Array.length_toList]; rfl

set_option maxHeartbeats 400000 in
theorem firstOther_any (s : ByteArray) (w : World) (hs : s.size ≤ 9223372036854775807) :
    Calls Tryz.prog 250 #[.string s] w fun e w' => e = .returned (.int .i64 (fo s.data.toList)) ∧ w' = w := by
  have HS : Hid (_) := hs
  clear hs
  go_enter Tryz.func250, Tryz.ntmps250
  go_wp2
  go_loop [6] (fun i => ∃ k : Nat, k ≤ s.size ∧ i = .int .i64 (k : Nat) ∧ ∀ j (hj : j < k) (hl : k ≤ s.size), isDB (s[j]'(by omega)) = true) (fun i => s.size - (intOf i).toNat)
  case atStart => exact ⟨0, by omega, rfl, fun j hj => by omega⟩
  case round =>
    obtain ⟨k, hk, rfl, hall⟩ := hrel
    have HA : Hid (_) := hall
    clear hall
    by_cases hlt : k < s.size
    · have hs := HS.out
      cases hb : isDB (s[k]'hlt) with
      | true =>
        go_wp2_with (go_at_call 271; refine (isDigit_any _ _).mono ?_; rintro e w' ⟨rfl, rfl⟩)
        go_round
        case rel =>
          refine ⟨k + 1, by omega, by go_num, fun j hj hl => ?_⟩
          by_cases e : j = k
          · subst e; exact hb
          · exact HA.out j (by omega) (by omega)
        case measure => simp [intOf]; omega
      | false =>
        go_wp2_with (go_at_call 271; refine (isDigit_any _ _).mono ?_; rintro e w' ⟨rfl, rfl⟩)
        go_ret
        refine ⟨ret_int ?_, rfl⟩
        rw [fo_some (j := k) (by rw [len_list]; exact hlt) (fun i hi => by rw [byte_list s i (by omega)]; exact HA.out i hi hk) (by rw [byte_list s k hlt]; exact hb)]
    · go_wp2
      go_ret
      refine ⟨ret_int ?_, rfl⟩
      refine (fo_none fun c hc => ?_).symm
      obtain ⟨i, hi, rfl⟩ := List.mem_iff_getElem.1 hc
      rw [len_list] at hi
      rw [byte_list s i hi]
      exact HA.out i (by omega) hk

theorem sumHolds_any (s : ByteArray) (w : World) (hs : s.size ≤ 100) :
    Calls Tryz.prog 251 #[.string s] w fun e w' => e = .returned (.bool (decide (sm s.data.toList % 10 = 0))) ∧ w' = w := by
  go_enter Tryz.func251, Tryz.ntmps251
  go_wp2_with (go_at_call 272; refine (sum_any _ _ hs).mono ?_; rintro e w' ⟨rfl, rfl⟩)
  go_ret
  exact ⟨ret_bool (by rw [Bool.eq_iff_iff]; simp; omega), rfl⟩

end Go.Proofs.YtmgfdnccmeahjaaGreatDoor

namespace Go.Proofs.YtmgfdnccmeahjaaGreatDoor
open Go.RowKit

/-- bytes as cells -/
def bc (l : List UInt8) : List Value := l.map fun b => .int .u8 (b.toNat : Int)

theorem bc_at (l : List UInt8) (j : Nat) (hj : j < l.length) : (bc l)[j]? = some (.int .u8 (l[j].toNat : Int)) := by
  simp [bc, hj]

/-- the slice v reads as the bytes l -/
def Reads (w : World) (v : Value) (l : List UInt8) : Prop :=
  (l = [] ∧ ∃ ao cap, v = .slice ao 0 cap ∧ (ao = none → cap = 0)) ∨
  ∃ b off cap, v = .slice (some ⟨b, off, none⟩) l.length cap ∧ l.length ≤ cap ∧ ∀ j (hj : j < l.length), w.cell? ⟨b, off + j, none⟩ = some (.int .u8 (l[j].toNat : Int))

theorem Reads.nil (w : World) : Reads w (.slice none 0 0) [] := .inl ⟨rfl, none, 0, rfl, fun _ => rfl⟩

theorem Reads.form {w : World} {v : Value} {l : List UInt8} (h : Reads w v l) : ∃ ao cap, v = .slice ao l.length cap := by
  rcases h with ⟨rfl, ao, cap, rfl, _⟩ | ⟨b, off, cap, rfl, _, _⟩
  · exact ⟨ao, cap, rfl⟩
  · exact ⟨_, cap, rfl⟩

theorem Reads.carry {w w' : World} {v : Value} {l : List UInt8} (h : Reads w v l) (hc : ∀ p : Addr, ∀ u, w.cell? p = some u → w'.cell? p = some u) : Reads w' v l := by
  rcases h with h | ⟨b, off, cap, hv, hl, hcell⟩
  · exact .inl h
  · exact .inr ⟨b, off, cap, hv, hl, fun j hj => hc _ _ (hcell j hj)⟩

theorem below_cellsB {w w' : World} (hb : Below w.heap.size w w') : ∀ p : Addr, ∀ u, w.cell? p = some u → w'.cell? p = some u :=
  fun p _ h => (hb.cell (p := p) (World.block_lt_of_cell? _ _ h)).trans h

theorem Reads.below {w w' : World} {v : Value} {l : List UInt8} (h : Reads w v l) (hb : Below w.heap.size w w') : Reads w' v l := h.carry (below_cellsB hb)

theorem Reads.alloc {w : World} {v : Value} {l : List UInt8} (h : Reads w v l) (o : Obj) : Reads (w.alloc o) v l :=
  h.below ((Below.refl _ _).alloc (Nat.le_refl _) _)

theorem Reads.drew {w : World} {v : Value} {l : List UInt8} (h : Reads w v l) : Reads w.drew v l := h.below ((Below.refl _ _).drew)

/-- a slice of bytes that lies in a block of the call's own -/
def Owns (w : World) (base : Nat) (v : Value) (l : List UInt8) : Prop := w.ownsRow base 5 1 v l.length (bc l)

theorem Owns.nil (w : World) (base : Nat) : Owns w base (.slice none 0 0) [] := World.ownsRow_nil _ _ _ _

theorem Owns.reads {w : World} {base : Nat} {v : Value} {l : List UInt8} (h : Owns w base v l) : Reads w v l := by
  have hc := fun g hg => World.ownsRow.cells h (g := g) hg
  rcases h.2 with ⟨rfl, hl⟩ | ⟨g, cap, cur, rfl, _, hgg, hn, _⟩
  · have : l = [] := List.eq_nil_of_length_eq_zero hl
    subst this
    exact Reads.nil w
  · refine .inr ⟨g, 0, cap, rfl, hn, fun j hj => ?_⟩
    have := hc g rfl j _ (bc_at l j hj)
    rw [Addr.add_lit] at this
    exact this

theorem Owns.form {w : World} {base : Nat} {v : Value} {l : List UInt8} (h : Owns w base v l) (hl : 0 < l.length) :
    ∃ g cap, v = .slice (some ⟨g, 0, none⟩) l.length cap ∧ l.length ≤ cap ∧ cap ≤ maxLen ∧ ∀ j (hj : j < l.length), w.cell? ⟨g, j, none⟩ = some (.int .u8 (l[j].toNat : Int)) := by
  have hc := fun g hg => World.ownsRow.cells h (g := g) hg
  rcases h.2 with ⟨_, h0⟩ | ⟨g, cap, cur, rfl, _, hgg, hn, hm, _⟩
  · omega
  · refine ⟨g, cap, rfl, hn, hm, fun j hj => ?_⟩
    have := hc g rfl j _ (bc_at l j hj)
    rw [Addr.add_lit, Nat.zero_add] at this
    exact this

theorem Owns.mono {w : World} {base base' : Nat} {v : Value} {l : List UInt8} (h : Owns w base v l) (hb : base' ≤ base) : Owns w base' v l := by
  refine ⟨h.1, ?_⟩
  rcases h.2 with h2 | ⟨g, cap, cur, hv, hg, r⟩
  · exact .inl h2
  · exact .inr ⟨g, cap, cur, hv, Nat.le_trans hb hg, r⟩

theorem Owns.alloc {w : World} {base : Nat} {v : Value} {l : List UInt8} (h : Owns w base v l) (o : Obj) : Owns (w.alloc o) base v l := World.ownsRow.alloc h o

end Go.Proofs.YtmgfdnccmeahjaaGreatDoor

namespace Go.Proofs.YtmgfdnccmeahjaaGreatDoor
open Go.RowKit
set_option maxRecDepth 100000

end Go.Proofs.YtmgfdnccmeahjaaGreatDoor

namespace Go.Proofs.YtmgfdnccmeahjaaGreatDoor
open Go.RowKit
set_option maxRecDepth 100000

/-- the sizes of codes -/
abbrev SizeOk (n : Nat) : Prop := n = 8 ∨ n = 12 ∨ n = 13 ∨ n = 14 ∨ n = 18

/-- a code -/
def Code1 (l : List UInt8) : Prop := AllD l ∧ SizeOk l.length ∧ sm l % 10 = 0

/-- what Check answers: the error, the place -/
def chkE (l : List UInt8) : Int × Int :=
  if 18 < l.length then (1, 0)
  else if 0 ≤ fo l then (20, fo l)
  else if ¬ SizeOk l.length then (21, (l.length : Int))
  else if ¬ sm l % 10 = 0 then (22, (l.length : Int) - 1)
  else (0, 0)

theorem chk_long {l : List UInt8} (h : 18 < l.length) : chkE l = (1, 0) := if_pos h
theorem chk_other {l : List UInt8} (h1 : ¬ 18 < l.length) (h : 0 ≤ fo l) : chkE l = (20, fo l) := (if_neg h1).trans (if_pos h)
theorem chk_size {l : List UInt8} (h1 : ¬ 18 < l.length) (h2 : ¬ 0 ≤ fo l) (h : ¬ SizeOk l.length) : chkE l = (21, (l.length : Int)) := (if_neg h1).trans ((if_neg h2).trans (if_pos h))
theorem chk_sum {l : List UInt8} (h1 : ¬ 18 < l.length) (h2 : ¬ 0 ≤ fo l) (h3 : SizeOk l.length) (h : ¬ sm l % 10 = 0) : chkE l = (22, (l.length : Int) - 1) := (if_neg h1).trans ((if_neg h2).trans ((if_neg (fun x => x h3)).trans (if_pos h)))
theorem chk_fine {l : List UInt8} (h1 : ¬ 18 < l.length) (h2 : ¬ 0 ≤ fo l) (h3 : SizeOk l.length) (h : sm l % 10 = 0) : chkE l = (0, 0) := (if_neg h1).trans ((if_neg h2).trans ((if_neg (fun x => x h3)).trans (if_neg (fun x => x h))))

theorem fo_neg_iff (l : List UInt8) : ¬ 0 ≤ fo l ↔ AllD l := by
  rcases fo_cases l with ⟨a, b⟩ | ⟨j, hj, a, b⟩
  · rw [b]; exact ⟨fun _ => a, fun _ => by omega⟩
  · rw [b]; exact ⟨fun h => absurd (Int.natCast_nonneg j) h, fun h => absurd h a⟩

theorem chk_code {l : List UInt8} (h : Code1 l) : chkE l = (0, 0) := by
  have hs := h.2.1
  exact chk_fine (by unfold SizeOk at hs; omega) ((fo_neg_iff l).2 h.1) hs h.2.2
/-- no error: a code -/
theorem chk_zero {l : List UInt8} (h : (chkE l).1 = 0) : Code1 l := by
  unfold chkE at h
  split at h
  · cases h
  · split at h
    · cases h
    · split at h
      · cases h
      · split at h
        · cases h
        · next h1 h2 h3 h4 => exact ⟨(fo_neg_iff l).1 h2, Decidable.not_not.1 h3, Decidable.not_not.1 h4⟩

set_option maxHeartbeats 800000 in
theorem check_any (s : ByteArray) (w : World) (hs : s.size ≤ 9223372036854775807) :
    Calls Tryz.prog 207 #[.string s] w fun e w' => e = .returned (.tuple #[.int .i64 (chkE s.data.toList).1, .int .i64 (chkE s.data.toList).2]) ∧ w' = w := by
  have hl := len_list s
  have HF : Hid (_) := firstOther_any s w hs
  clear hs
  by_cases h1 : 18 < s.size
  · rw [chk_long (by omega)]
    go_enter Tryz.func207, Tryz.ntmps207
    go_wp2
    go_ret2
    exact ⟨rfl, rfl⟩
  · by_cases h2 : 0 ≤ fo s.data.toList
    · rw [chk_other (by omega) h2]
      generalize fo s.data.toList = f at HF h2
      go_enter Tryz.func207, Tryz.ntmps207
      go_wp2_with fail
      refine Calls.mono HF.out ?_
      rintro e w' ⟨rfl, rfl⟩
      go_wp2
      go_ret2
      exact ⟨rfl, rfl⟩
    · have HS : Hid (_) := sumHolds_any s w (by omega)
      by_cases h3 : SizeOk s.size
      · by_cases h4 : sm s.data.toList % 10 = 0
        · rw [chk_fine (by omega) h2 (by rw [hl]; exact h3) h4]
          rw [decide_eq_true h4] at HS
          generalize fo s.data.toList = f at HF h2
          clear h4
          unfold SizeOk at h3
          rcases h3 with h | h | h | h | h
          all_goals
            have h8 : (s.size : Int) = _ := congrArg Nat.cast h
            clear h hl
            go_enter Tryz.func207, Tryz.ntmps207
            go_wp2_with fail
            refine Calls.mono HF.out ?_
            rintro e w' ⟨rfl, rfl⟩
            go_wp2_with fail
            refine Calls.mono HS.out ?_
            rintro e w' ⟨rfl, rfl⟩
            go_wp2
            go_ret2
            exact ⟨rfl, rfl⟩
        · rw [chk_sum (by omega) h2 (by rw [hl]; exact h3) h4]
          rw [decide_eq_false h4] at HS
          generalize fo s.data.toList = f at HF h2
          rw [hl]
          clear h4
          unfold SizeOk at h3
          rcases h3 with h | h | h | h | h
          all_goals
            have h8 : (s.size : Int) = _ := congrArg Nat.cast h
            clear hl
            go_enter Tryz.func207, Tryz.ntmps207
            go_wp2_with fail
            refine Calls.mono HF.out ?_
            rintro e w' ⟨rfl, rfl⟩
            go_wp2_with fail
            refine Calls.mono HS.out ?_
            rintro e w' ⟨rfl, rfl⟩
            go_wp2
            go_ret2
            exact ⟨by simp [h], rfl⟩
      · rw [chk_size (by omega) h2 (by rw [hl]; exact h3)]
        rw [hl]
        generalize fo s.data.toList = f at HF h2
        unfold SizeOk at h3
        have n1 : ¬ s.size = 8 := by omega
        have n2 : ¬ s.size = 12 := by omega
        have n3 : ¬ s.size = 13 := by omega
        have n4 : ¬ s.size = 14 := by omega
        have n5 : ¬ s.size = 18 := by omega
        clear h3 hl HS
        go_enter Tryz.func207, Tryz.ntmps207
        go_wp2_with fail
        refine Calls.mono HF.out ?_
        rintro e w' ⟨rfl, rfl⟩
        go_wp2
        go_ret2
        exact ⟨rfl, rfl⟩
end Go.Proofs.YtmgfdnccmeahjaaGreatDoor

namespace Go.Proofs.YtmgfdnccmeahjaaGreatDoor
open Go.RowKit
set_option maxRecDepth 100000

/-- the builder in block b (of the call's own: from B on) holds the bytes l -/
def IsB (B b : Nat) (l : List UInt8) (w : World) : Prop := Lib.IsBuilder 94 5 B b (Lib.byteCells l) w

theorem bsize : (Tryz.prog.info? 94).map (·.size) = some 2 := by kernel_rfl
theorem blies : liesAt Tryz.prog Tryz.prog.depth 94 (2 / Tryz.prog.cellsOf 94) 0 94 1 = true := by kernel_rfl

set_option maxHeartbeats 1000000 in
set_option maxRecDepth 100000 in
theorem copyCheck_used (b : Nat) (w : World) (h0 : w.cell? ⟨b, 0, none⟩ = some (.pointer (some ⟨b, 0, none⟩))) :
    Calls Tryz.prog 114 #[.pointer (some ⟨b, 0, none⟩)] w fun e w' => e = .returned (.tuple #[]) ∧ w' = w := by
  obtain ⟨j, hj, hjs⟩ := Option.map_eq_some_iff.1 bsize
  have hnq := fun w => Lib.run_neq_ptr_same (P := Tryz.prog) w ⟨b, 0, none⟩ Tryz.underlying91 hj
  go_enter Tryz.func114, Tryz.ntmps114
  go_wp2
  go_end0
  exact ⟨rfl, rfl⟩

set_option maxHeartbeats 1000000 in
set_option maxRecDepth 100000 in
theorem copyCheck_fresh (b : Nat) (w : World) (h0 : w.cell? ⟨b, 0, none⟩ = some (.pointer none)) (hsh : w.shape? b = some (94, 2)) (hfz : w.frozen? ⟨b, 0, none⟩ = false) :
    Calls Tryz.prog 114 #[.pointer (some ⟨b, 0, none⟩)] w fun e w' => e = .returned (.tuple #[]) ∧ w' = w.setCell ⟨b, 0, none⟩ (.pointer (some ⟨b, 0, none⟩)) := by
  obtain ⟨j, hj, hjs⟩ := Option.map_eq_some_iff.1 bsize
  have k1 := Lib.run_to_unsafe (P := Tryz.prog) w ⟨b, 0, none⟩ Tryz.underlying91 Tryz.underlying104 hj (by rw [hjs]; decide) hsh (Nat.zero_lt_succ 1)
  have k3 := Lib.run_from_unsafe (P := Tryz.prog) w ⟨b, 0, none⟩ Tryz.underlying104 Tryz.underlying91 hj hsh blies
  have k2 : ∀ x, (callFunc 152 #[x]).run Tryz.prog w = .ok (.value x) w := fun x => by
    rw [run_callFunc_extern Tryz.func152 (by kernel_rfl) (by kernel_rfl) (by kernel_rfl) (e := Extern.AbiNoEscape.same) (by kernel_rfl), Lib.run_noEscape]
    rfl
  go_enter Tryz.func114, Tryz.ntmps114
  go_wp2
  go_end0
  exact ⟨rfl, rfl⟩

theorem copyCheck_any (B b : Nat) (l : List UInt8) (w : World) (h : IsB B b l w) :
    Calls Tryz.prog 114 #[.pointer (some ⟨b, 0, none⟩)] w fun e w' => e = .returned (.tuple #[]) ∧ Lib.BuilderAt 94 5 B b (.pointer (some ⟨b, 0, none⟩)) (Lib.byteCells l) w' ∧ Below B w w' := by
  rcases h with h | h
  · refine (copyCheck_fresh b w h.cell0 h.shape h.frozen0).mono ?_
    rintro e w' ⟨rfl, rfl⟩
    exact ⟨rfl, h.used _, (Below.refl B w).setCell (p := ⟨b, 0, none⟩) h.1 _⟩
  · refine (copyCheck_used b w h.cell0).mono ?_
    rintro e w' ⟨rfl, rfl⟩
    exact ⟨rfl, h, Below.refl B _⟩

theorem u8infoB : (Tryz.prog.info? 5).map (fun i => (i.zero, i.size, i.bytes)) = some (some (.int .u8 0), 1, 1) := by kernel_rfl
theorem neB5 : (94 : TypeId) ≠ 5 := by decide

theorem cells_snocG (l : List UInt8) (c : UInt8) : Lib.byteCells (l ++ [c]) = Lib.byteCells l ++ [.int .u8 (c.toNat : Int)] := by simp [Lib.byteCells]
theorem cells_app (l : List UInt8) (s : ByteArray) : Lib.byteCells (l ++ s.data.toList) = Lib.byteCells l ++ Lib.strCells s := by rw [Lib.byteCells_append, Lib.strCells_eq]

set_option maxHeartbeats 2000000 in
set_option maxRecDepth 100000 in
theorem writeByte_any (B b : Nat) (l : List UInt8) (c : UInt8) (z : Int) (w : World) (h : IsB B b l w) (hz : z = (c.toNat : Int)) (hlen : l.length + 1 ≤ 140737488355328) (hBw : B ≤ w.heap.size) :
    Calls Tryz.prog 83 #[.pointer (some ⟨b, 0, none⟩), .int .u8 z] w fun e w' => e = .returned .nilIface ∧ IsB B b (l ++ [c]) w' ∧ Below B w w' := by
  subst hz
  obtain ⟨i0, hi, hz0, hz1, hz2⟩ := info_parts u8infoB
  have hcl := Lib.byteCells_length l
  have HC : Hid (_) := copyCheck_any B b l w h
  clear h
  go_enter Tryz.func83, Tryz.ntmps83
  go_wp2_with fail
  refine Calls.mono HC.out ?_
  rintro e w1 ⟨rfl, h1, hb1⟩
  clear HC
  obtain ⟨hB, v, hbk, hown, hne⟩ := h1
  have hsz1 := hb1.size
  have c0 : w1.cell? ⟨b, 0, none⟩ = some (.pointer (some ⟨b, 0, none⟩)) := by rw [Lib.cell_of_heap hbk]; rfl
  have c1 : w1.cell? ⟨b, 1, none⟩ = some v := by rw [Lib.cell_of_heap hbk]; rfl
  go_wp2_with (at_builtin; refine wpList_append_own _ rfl _ _ 92 rfl B 5 i0 (.int .u8 0) 1 1 Tryz.underlying92 hi hz0 hz1 hz2 rfl (by decide) _ _ _ rfl (hown.alloc _) ⟨w1.heap.size, 0, none⟩ 1 1 [.int .u8 (c.toNat : Int)] rfl rfl ?c1 ?c2 ?c3 ?c4 ?c5 ?_)
  case c1 =>
    intro j u hj
    match j, hj with
    | 0, hj => simp at hj; subst hj; simp [Addr.add]
  case c2 => intro u hu; simp at hu; subst hu; rfl
  case c3 => unfold maxLen; omega
  case c4 => omega
  case c5 => simp; omega
  intro v' w2 hown' hgrow _
  have hlt : b < w1.heap.size := by
    rcases Nat.lt_or_ge b w1.heap.size with h' | h'
    · exact h'
    · simp [Array.getElem?_eq_none h'] at hbk
  have hb2 : w2.heap[b]? = some (.cells #[.pointer (some ⟨b, 0, none⟩), v] 94 (0, 0)) := by
    rw [hgrow.block b (by simp; omega) (fun e => hne e.symm), Lib.alloc_old w1 _ b hlt]
    exact hbk
  have d0 : w2.cell? ⟨b, 0, none⟩ = some (.pointer (some ⟨b, 0, none⟩)) := by rw [Lib.cell_of_heap hb2]; rfl
  have d1 : w2.cell? ⟨b, 1, none⟩ = some v := by rw [Lib.cell_of_heap hb2]; rfl
  have f1 : w2.frozen? ⟨b, 1, none⟩ = false := Lib.frozen_of_heap hb2 1
  obtain ⟨ao, n', cap, rfl⟩ : ∃ ao n' cap, v' = .slice ao n' cap := by
    rcases hown'.2 with ⟨hv, _⟩ | ⟨g, cap, cur, hv, _⟩
    · exact ⟨_, _, _, hv⟩
    · exact ⟨_, _, _, hv⟩
  go_wp2
  go_ret
  refine ⟨rfl, .inr ?_, ?_⟩
  · rw [cells_snocG]
    exact Lib.BuilderAt.put hB hb2 (by rw [List.length_append, hcl]; exact hown') neB5
  · exact ((hb1.alloc (by omega) _).grown hgrow (by simp; omega) (fun k hk => (hown.lt k hk).1)).setCell (p := ⟨b, 1, none⟩) hB _

set_option maxHeartbeats 2000000 in
set_option maxRecDepth 100000 in
theorem writeString_any (B b : Nat) (l : List UInt8) (s : ByteArray) (w : World) (h : IsB B b l w) (hlen : l.length + s.size ≤ 140737488355328) (hBw : B ≤ w.heap.size) :
    Calls Tryz.prog 85 #[.pointer (some ⟨b, 0, none⟩), .string s] w fun e w' => e = .returned (.tuple #[.int .i64 s.size, .nilIface]) ∧ IsB B b (l ++ s.data.toList) w' ∧ Below B w w' := by
  obtain ⟨i0, hi, hz0, hz1, hz2⟩ := info_parts u8infoB
  have hcl := Lib.byteCells_length l
  have HC : Hid (_) := copyCheck_any B b l w h
  clear h
  go_enter Tryz.func85, Tryz.ntmps85
  go_wp2_with fail
  refine Calls.mono HC.out ?_
  rintro e w1 ⟨rfl, h1, hb1⟩
  clear HC
  obtain ⟨hB, v, hbk, hown, hne⟩ := h1
  have hsz1 := hb1.size
  have c0 : w1.cell? ⟨b, 0, none⟩ = some (.pointer (some ⟨b, 0, none⟩)) := by rw [Lib.cell_of_heap hbk]; rfl
  have c1 : w1.cell? ⟨b, 1, none⟩ = some v := by rw [Lib.cell_of_heap hbk]; rfl
  go_wp2_with (at_builtin; refine Lib.wpList_append_own_string _ rfl _ _ 92 9 rfl B 5 i0 Tryz.underlying92 Tryz.underlying9 hi hz0 hz1 hz2 _ _ _ rfl hown s rfl ?c3 ?c4 ?c5 ?_)
  case c3 => unfold maxLen; omega
  case c4 => omega
  case c5 => omega
  intro v' w2 hown' hgrow _
  have hlt : b < w1.heap.size := by
    rcases Nat.lt_or_ge b w1.heap.size with h' | h'
    · exact h'
    · simp [Array.getElem?_eq_none h'] at hbk
  have hb2 : w2.heap[b]? = some (.cells #[.pointer (some ⟨b, 0, none⟩), v] 94 (0, 0)) := by
    rw [hgrow.block b hlt (fun e => hne e.symm)]
    exact hbk
  have d0 : w2.cell? ⟨b, 0, none⟩ = some (.pointer (some ⟨b, 0, none⟩)) := by rw [Lib.cell_of_heap hb2]; rfl
  have d1 : w2.cell? ⟨b, 1, none⟩ = some v := by rw [Lib.cell_of_heap hb2]; rfl
  have f1 : w2.frozen? ⟨b, 1, none⟩ = false := Lib.frozen_of_heap hb2 1
  obtain ⟨ao, n', cap, rfl⟩ : ∃ ao n' cap, v' = .slice ao n' cap := by
    rcases hown'.2 with ⟨hv, _⟩ | ⟨g, cap, cur, hv, _⟩
    · exact ⟨_, _, _, hv⟩
    · exact ⟨_, _, _, hv⟩
  go_wp2
  go_ret2
  refine ⟨rfl, .inr ?_, ?_⟩
  · rw [cells_app]
    exact Lib.BuilderAt.put hB hb2 (by rw [List.length_append, hcl, Lib.strCells_length]; exact hown') neB5
  · exact (hb1.grown hgrow (by omega) (fun k hk => (hown.lt k hk).1)).setCell (p := ⟨b, 1, none⟩) hB _

theorem string_any (B b : Nat) (l : List UInt8) (w : World) (h : IsB B b l w) (hBw : B ≤ w.heap.size) :
    Calls Tryz.prog 39 #[.pointer (some ⟨b, 0, none⟩)] w fun e w' => e = .returned (.string ⟨l.toArray⟩) ∧ Below B w w' :=
  Tryz.Builder_String_any B b l w h hBw

theorem fresh_isB (w : World) : IsB w.heap.size w.heap.size [] (w.alloc (.cells #[.pointer none, .slice none 0 0] 94)) := Lib.fresh_isBuilder _ _ w
end Go.Proofs.YtmgfdnccmeahjaaGreatDoor

namespace Go.Proofs.YtmgfdnccmeahjaaGreatDoor
open Go.RowKit
set_option maxRecDepth 100000

/-- the normal form: zeros ahead -/
def nrm (l : List UInt8) : List UInt8 := List.replicate (14 - l.length) 48 ++ l

/-- what Normal answers: the error, the text -/
def nrmE (l : List UInt8) : Int := if (chkE l).1 ≠ 0 then (chkE l).1 else if 14 < l.length then 21 else 0
def nrmT (l : List UInt8) : List UInt8 := if nrmE l = 0 then nrm l else []

/-- a trade code -/
def Trade (l : List UInt8) : Prop := Code1 l ∧ l.length ≤ 14

theorem nrmE_zero {l : List UInt8} : nrmE l = 0 ↔ Trade l := by
  unfold nrmE
  constructor
  · intro h
    split at h
    · next h1 => exact absurd h h1
    · next h1 =>
      split at h
      · cases h
      · next h2 => exact ⟨chk_zero (Decidable.not_not.1 h1), by omega⟩
  · intro h
    rw [chk_code h.1, if_neg (by simp), if_neg (by have := h.2; omega)]

theorem rep_succ (k : Nat) : List.replicate k (48 : UInt8) ++ [48] = List.replicate (k + 1) 48 := by
  rw [List.replicate_succ']

set_option maxHeartbeats 800000 in
theorem normal_any (s : ByteArray) (w : World) (hs : s.size ≤ 9223372036854775807) :
    Calls Tryz.prog 173 #[.string s] w fun e w' => e = .returned (.tuple #[.string ⟨(nrmT s.data.toList).toArray⟩, .int .i64 (nrmE s.data.toList)]) ∧ Below w.heap.size w w' := by
  have hl := len_list s
  have HK : Hid (_) := check_any s w hs
  clear hs
  by_cases h1 : (chkE s.data.toList).1 = 0
  · have hc := chk_zero h1
    have hsz := hc.2.1
    by_cases h2 : 14 < s.size
    · have e1 : nrmE s.data.toList = 21 := by unfold nrmE; rw [if_neg (by simpa using h1), if_pos (by omega)]
      have e2 : nrmT s.data.toList = [] := by unfold nrmT; rw [e1]; rfl
      rw [e1, e2]
      rw [chk_code hc] at HK
      clear h1 hc hsz e1 e2
      go_enter Tryz.func173, Tryz.ntmps173
      go_wp2_with fail
      refine Calls.mono HK.out ?_
      rintro e w' ⟨rfl, rfl⟩
      go_wp2
      go_ret2
      exact ⟨rfl, Below.refl _ _⟩
    · have e1 : nrmE s.data.toList = 0 := nrmE_zero.2 ⟨hc, by omega⟩
      have e2 : nrmT s.data.toList = nrm s.data.toList := by unfold nrmT; rw [if_pos e1]
      rw [e1, e2]
      rw [chk_code hc] at HK
      have h8 : 8 ≤ s.size := by unfold SizeOk at hsz; omega
      clear h1 hc hsz e1 e2
      go_enter Tryz.func173, Tryz.ntmps173
      go_wp2_with fail
      refine Calls.mono HK.out ?_
      rintro e w' ⟨rfl, rfl⟩
      clear HK
      have hfr := fresh_isB w'
      go_wp2_with fail
      go_loopw [21] (fun i wr => ∃ k : Nat, i = .int .i64 (k : Nat) ∧ k ≤ 14 - s.size ∧ IsB w'.heap.size w'.heap.size (List.replicate k 48) wr ∧ Below w'.heap.size w' wr) (fun i _ => 14 - (intOf i).toNat)
      case atStart => exact ⟨0, rfl, Nat.zero_le _, hfr, (Below.refl _ _).alloc (Nat.le_refl _) _⟩
      case round =>
        obtain ⟨k, rfl, hk, hB, hbl⟩ := hrel
        have hz := hbl.size
        by_cases hlt : k < 14 - s.size
        · have hltI : (k : Int) < 14 - (s.size : Int) := by omega
          go_wp2_with fail
          refine (writeByte_any w'.heap.size w'.heap.size _ 48 _ wr hB rfl (by rw [List.length_replicate]; omega) hz).mono ?_
          rintro e w2 ⟨rfl, hB2, hb2⟩
          rw [rep_succ] at hB2
          clear hB
          go_wp2
          go_roundw
          case rel => exact ⟨k + 1, by go_num, by omega, hB2, hbl.trans hb2⟩
          case measure => simp [intOf]; omega
        · have hkk : k = 14 - s.size := by omega
          have hltI : ¬ (k : Int) < 14 - (s.size : Int) := by omega
          go_wp2_with fail
          refine (writeString_any w'.heap.size w'.heap.size _ s wr hB (by rw [List.length_replicate]; omega) hz).mono ?_
          rintro e w2 ⟨rfl, hB2, hb2⟩
          clear hB
          have hz2 := hb2.size
          go_wp2_with fail
          refine (string_any w'.heap.size w'.heap.size _ w2 hB2 (by omega)).mono ?_
          rintro e w3 ⟨rfl, hb3⟩
          clear hB2
          go_wp2
          go_ret2
          refine ⟨?_, (hbl.trans hb2).trans hb3⟩
          unfold nrm
          rw [hl, ← hkk]
          rfl
  · have e1 : nrmE s.data.toList = (chkE s.data.toList).1 := by unfold nrmE; rw [if_pos h1]
    have e2 : nrmT s.data.toList = [] := by unfold nrmT; rw [e1, if_neg h1]
    rw [e1, e2]
    generalize chkE s.data.toList = q at HK h1
    obtain ⟨q1, q2⟩ := q
    simp only at h1 HK ⊢
    have h1b : (q1 != 0) = true := by simp [h1]
    go_enter Tryz.func173, Tryz.ntmps173
    go_wp2_with fail
    refine Calls.mono HK.out ?_
    rintro e w' ⟨rfl, rfl⟩
    go_wp2
    go_ret2
    exact ⟨rfl, Below.refl _ _⟩
end Go.Proofs.YtmgfdnccmeahjaaGreatDoor

namespace Go.Proofs.YtmgfdnccmeahjaaGreatDoor
open Go.RowKit
set_option maxRecDepth 100000

set_option maxHeartbeats 2000000 in
theorem refCheck_any (s : ByteArray) (w : World) :
    Calls Tryz.prog 125 #[.string s] w fun e w' => e = .returned (.tuple #[.int .i64 (chkE s.data.toList).1, .int .i64 (chkE s.data.toList).2]) ∧ w' = w := by
  have hl := len_list s
  by_cases h1 : 18 < s.size
  · rw [chk_long (by omega)]
    go_enter Tryz.func125, Tryz.ntmps125
    go_wp2
    go_ret2
    exact ⟨rfl, rfl⟩
  · have HS : Hid (_) := refSum_any s w (by omega)
    go_enter Tryz.func125, Tryz.ntmps125
    go_wp2
    go_loop [5] (fun i => ∃ k : Nat, k ≤ s.size ∧ i = .int .i64 (k : Nat) ∧ ∀ j (hj : j < k) (hl : k ≤ s.size), isDB (s[j]'(by omega)) = true) (fun i => s.size - (intOf i).toNat)
    case atStart => exact ⟨0, by omega, rfl, fun j hj => by omega⟩
    case round =>
      obtain ⟨k, hk, rfl, hall⟩ := hrel
      have HA : Hid (_) := hall
      clear hall
      by_cases hlt : k < s.size
      · cases hb : isDB (s[k]'hlt) with
        | true =>
          go_wp2_with (go_at_call 159; refine (refIsDigit_any _ _).mono ?_; rintro e w' ⟨rfl, rfl⟩)
          go_round
          case rel =>
            refine ⟨k + 1, by omega, by go_num, fun j hj hl => ?_⟩
            by_cases e : j = k
            · subst e; exact hb
            · exact HA.out j (by omega) (by omega)
          case measure => simp [intOf]; omega
        | false =>
          go_wp2_with (go_at_call 159; refine (refIsDigit_any _ _).mono ?_; rintro e w' ⟨rfl, rfl⟩)
          go_ret2
          refine ⟨?_, rfl⟩
          have hf := fo_some (l := s.data.toList) (j := k) (by rw [len_list]; exact hlt) (fun i hi => by rw [byte_list s i (by omega)]; exact HA.out i hi hk) (by rw [byte_list s k hlt]; exact hb)
          rw [chk_other (by omega) (by omega), hf]
          rfl
      · have ha : fo s.data.toList = -1 := by
          refine fo_none fun c hc => ?_
          obtain ⟨i, hi, rfl⟩ := List.mem_iff_getElem.1 hc
          rw [len_list] at hi
          rw [byte_list s i hi]
          exact HA.out i (by omega) hk
        clear HA
        by_cases h3 : SizeOk s.size
        · by_cases h4 : sm s.data.toList % 10 = 0
          · have HD : Hid (_) := chk_fine (l := s.data.toList) (by omega) (by omega) (by rw [hl]; exact h3) h4
            have h4b : ((sm s.data.toList : Int) % 10 != 0) = false := by simp; omega
            unfold SizeOk at h3
            clear ha h4
            rcases h3 with h | h | h | h | h
            all_goals
              have h8 : (s.size : Int) = _ := congrArg Nat.cast h
              go_wp2_with fail
              refine Calls.mono HS.out ?_
              rintro e w' ⟨rfl, rfl⟩
              go_wp2
              go_ret2
              exact ⟨by rw [HD.out]; rfl, rfl⟩
          · have HD : Hid (_) := chk_sum (l := s.data.toList) (by omega) (by omega) (by rw [hl]; exact h3) h4
            rw [hl] at HD
            have h4b : ((sm s.data.toList : Int) % 10 != 0) = true := by simp; omega
            unfold SizeOk at h3
            clear ha h4
            rcases h3 with h | h | h | h | h
            all_goals
              have h8 : (s.size : Int) = _ := congrArg Nat.cast h
              go_wp2_with fail
              refine Calls.mono HS.out ?_
              rintro e w' ⟨rfl, rfl⟩
              go_wp2
              go_ret2
              exact ⟨by rw [HD.out]; simp [h], rfl⟩
        · have HD : Hid (_) := chk_size (l := s.data.toList) (by omega) (by omega) (by rw [hl]; exact h3)
          rw [hl] at HD
          unfold SizeOk at h3
          have n1 : ((s.size : Int) != 8) = true := by simp; omega
          have n2 : ((s.size : Int) != 12) = true := by simp; omega
          have n3 : ((s.size : Int) != 13) = true := by simp; omega
          have n4 : ((s.size : Int) != 14) = true := by simp; omega
          have n5 : ((s.size : Int) != 18) = true := by simp; omega
          clear h3 ha HS
          go_wp2
          go_ret2
          exact ⟨by rw [HD.out]; rfl, rfl⟩
end Go.Proofs.YtmgfdnccmeahjaaGreatDoor

namespace Go.Proofs.YtmgfdnccmeahjaaGreatDoor
open Go.RowKit
set_option maxRecDepth 100000

/-- a string's size -/
def strLen : Value → Nat
  | .string s => s.size
  | _ => 0

set_option maxHeartbeats 800000 in
theorem refNormal_any (s : ByteArray) (w : World) :
    Calls Tryz.prog 98 #[.string s] w fun e w' => e = .returned (.tuple #[.string ⟨(nrmT s.data.toList).toArray⟩, .int .i64 (nrmE s.data.toList)]) ∧ w' = w := by
  have hl := len_list s
  have HK : Hid (_) := refCheck_any s w
  by_cases h1 : (chkE s.data.toList).1 = 0
  · have hc := chk_zero h1
    have hsz := hc.2.1
    by_cases h2 : 14 < s.size
    · have e1 : nrmE s.data.toList = 21 := by unfold nrmE; rw [if_neg (by simpa using h1), if_pos (by omega)]
      have e2 : nrmT s.data.toList = [] := by unfold nrmT; rw [e1]; rfl
      have h18 : s.size = 18 := by unfold SizeOk at hsz; omega
      have h18I : (s.size : Int) = 18 := by omega
      rw [e1, e2]
      rw [chk_code hc] at HK
      clear h1 hc hsz e1 e2
      go_enter Tryz.func98, Tryz.ntmps98
      go_wp2_with fail
      refine Calls.mono HK.out ?_
      rintro e w' ⟨rfl, rfl⟩
      go_wp2
      go_ret2
      exact ⟨rfl, rfl⟩
    · have e1 : nrmE s.data.toList = 0 := nrmE_zero.2 ⟨hc, by omega⟩
      have e2 : nrmT s.data.toList = nrm s.data.toList := by unfold nrmT; rw [if_pos e1]
      rw [e1, e2]
      rw [chk_code hc] at HK
      have h8 : 8 ≤ s.size := by unfold SizeOk at hsz; omega
      have h18b : ((s.size : Int) == 18) = false := by simp; omega
      clear h1 hc hsz e1 e2
      go_enter Tryz.func98, Tryz.ntmps98
      go_wp2_with fail
      refine Calls.mono HK.out ?_
      rintro e w' ⟨rfl, rfl⟩
      clear HK
      go_wp2_with fail
      go_loop [0] (fun t => ∃ (k : Nat) (tb : ByteArray), t = .string tb ∧ k ≤ 14 - s.size ∧ tb.data.toList = List.replicate k 48 ++ s.data.toList) (fun t => 14 - strLen t)
      case atStart => exact ⟨0, s, rfl, Nat.zero_le _, rfl⟩
      case round =>
        obtain ⟨k, tb, rfl, hk, htb⟩ := hrel
        have htl : tb.size = k + s.size := by rw [← len_list, htb, List.length_append, List.length_replicate, hl]
        have HT : Hid (_) := htb
        clear htb
        by_cases hlt : tb.size < 14
        · have hsn : ((⟨#[48]⟩ : ByteArray) ++ tb).size = tb.size + 1 := by simp [ByteArray.size_append]; exact Nat.add_comm _ _
          have HS : Hid (_) := hsn
          have H2 : Hid (_) := htl
          clear hsn htl
          go_wp2
          go_round
          case rel =>
            have := H2.out
            refine ⟨k + 1, _, rfl, by omega, ?_⟩
            rw [ByteArray.data_append, Array.toList_append, HT.out, List.replicate_succ]
            rfl
          case measure =>
            show 14 - ((⟨#[48]⟩ : ByteArray) ++ tb).size < 14 - tb.size
            rw [HS.out]
            omega
        · have hkk : k = 14 - s.size := by omega
          have H2 : Hid (_) := htl
          clear htl
          go_wp2
          go_ret2
          refine ⟨?_, rfl⟩
          unfold nrm
          rw [hl, ← hkk, ← HT.out]
          rfl
  · have e1 : nrmE s.data.toList = (chkE s.data.toList).1 := by unfold nrmE; rw [if_pos h1]
    have e2 : nrmT s.data.toList = [] := by unfold nrmT; rw [e1, if_neg h1]
    rw [e1, e2]
    generalize chkE s.data.toList = q at HK h1
    obtain ⟨q1, q2⟩ := q
    simp only at h1 HK ⊢
    have h1b : (q1 != 0) = true := by simp [h1]
    go_enter Tryz.func98, Tryz.ntmps98
    go_wp2_with fail
    refine Calls.mono HK.out ?_
    rintro e w' ⟨rfl, rfl⟩
    go_wp2
    go_ret2
    exact ⟨rfl, rfl⟩

end Go.Proofs.YtmgfdnccmeahjaaGreatDoor
