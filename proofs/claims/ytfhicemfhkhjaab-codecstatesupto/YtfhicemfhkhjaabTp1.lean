/-
  codec, pure: what is written is read, what is read is what would be written, and no beginning is.
-/
import Derived.Test.YtfhicemfhkhjaabCr7
namespace Go.Proofs.Ytfhicemfhkhjaab
set_option maxRecDepth 100000

theorem rd_grp (t : List UInt8) (m : Nat) : ∀ i a, i ≤ 9 → m * 128 ^ i < 18446744073709551616 → (0 < i → 0 < m) → rd (grp m ++ t) i a = (a + m * 128 ^ i, i + (grp m).length, 0) := by
  induction m using Nat.strongRecOn with
  | _ m ih =>
    intro i a hi hm hp
    by_cases h : m < 128
    · rw [grp_small m h]
      show rd (lb m :: t) i a = _
      have e : (lb m).toNat = m := by unfold lb; simp; omega
      unfold rd
      rw [e, if_neg (by
        rintro ⟨rfl, h1⟩
        have : 2 * 128 ^ 9 ≤ m * 128 ^ 9 := Nat.mul_le_mul_right _ h1
        omega), if_neg (fun ⟨h1, h2⟩ => by have := hp h1; omega), if_pos h, Nat.mod_eq_of_lt h]
      rfl
    · rw [grp_more m h]
      show rd (gb m :: (grp (m / 128) ++ t)) i a = _
      have e : (gb m).toNat = m % 128 + 128 := by unfold gb; simp; omega
      have hi9 : i ≠ 9 := by
        rintro rfl
        have : 128 * 128 ^ 9 ≤ m * 128 ^ 9 := Nat.mul_le_mul_right _ (by omega)
        omega
      have hd : m / 128 * 128 ^ (i + 1) ≤ m * 128 ^ i := by
        rw [Nat.pow_succ, Nat.mul_comm (128 ^ i) 128, ← Nat.mul_assoc]
        exact Nat.mul_le_mul_right _ (Nat.div_mul_le_self m 128)
      have := ih (m / 128) (by omega) (i + 1) (a + m % 128 * 128 ^ i) (by omega) (by omega) (fun _ => by omega)
      unfold rd
      rw [e, if_neg (fun ⟨h1, _⟩ => hi9 h1), if_neg (fun ⟨_, h2⟩ => by omega), if_neg (by omega), show (m % 128 + 128) % 128 = m % 128 by omega, this]
      have e2 : a + m % 128 * 128 ^ i + m / 128 * 128 ^ (i + 1) = a + m * 128 ^ i := by
        rw [Nat.pow_succ, Nat.mul_comm (128 ^ i) 128, ← Nat.mul_assoc, Nat.add_assoc, ← Nat.add_mul]
        rw [show m % 128 + m / 128 * 128 = m by omega]
      rw [e2, List.length_cons, show i + 1 + (grp (m / 128)).length = i + ((grp (m / 128)).length + 1) by omega]
theorem rd_form (l : List UInt8) : ∀ i a, (rd l i a).2.2 = 0 → ∃ m t, l = grp m ++ t ∧ rd l i a = (a + m * 128 ^ i, i + (grp m).length, 0) ∧ (0 < i → 0 < m) := by
  induction l with
  | nil => intro i a h; cases h
  | cons c r ih =>
    intro i a h
    unfold rd at h ⊢
    by_cases h1 : i = 9 ∧ 1 < c.toNat
    · rw [if_pos h1] at h; cases h
    rw [if_neg h1] at h ⊢
    by_cases h2 : 0 < i ∧ c.toNat = 0
    · rw [if_pos h2] at h; cases h
    rw [if_neg h2] at h ⊢
    by_cases h3 : c.toNat < 128
    · rw [if_pos h3]
      have e : lb c.toNat = c := by
        apply UInt8.toNat.inj
        unfold lb
        simp
      refine ⟨c.toNat, r, ?_, ?_, fun hp => ?_⟩
      · rw [grp_small _ h3, e]; rfl
      · rw [grp_small _ h3, Nat.mod_eq_of_lt h3]; rfl
      · exact Nat.pos_of_ne_zero (fun e => h2 ⟨hp, e⟩)
    · rw [if_neg h3] at h ⊢
      obtain ⟨m, t, e1, e2, e3⟩ := ih (i + 1) (a + c.toNat % 128 * 128 ^ i) h
      have hm := e3 (by omega)
      have hc : c.toNat < 256 := c.toNat_lt
      have hbig : ¬ (c.toNat % 128 + 128 * m) < 128 := by omega
      have eg : gb (c.toNat % 128 + 128 * m) = c := by
        apply UInt8.toNat.inj
        unfold gb
        simp
        omega
      refine ⟨c.toNat % 128 + 128 * m, t, ?_, ?_, fun _ => by omega⟩
      · rw [grp_more _ hbig, eg, show (c.toNat % 128 + 128 * m) / 128 = m by omega, e1]; rfl
      · rw [e2, grp_more _ hbig, show (c.toNat % 128 + 128 * m) / 128 = m by omega, List.length_cons]
        have e4 : a + c.toNat % 128 * 128 ^ i + m * 128 ^ (i + 1) = a + (c.toNat % 128 + 128 * m) * 128 ^ i := by
          rw [Nat.pow_succ, Nat.mul_comm (128 ^ i) 128, ← Nat.mul_assoc, Nat.add_assoc, ← Nat.add_mul, Nat.mul_comm m 128]
        rw [e4, show i + 1 + (grp m).length = i + ((grp m).length + 1) by omega]
theorem rd_cut (m : Nat) : ∀ i a p t, grp m = p ++ t → t ≠ [] → i ≤ 9 → m * 128 ^ i < 18446744073709551616 → (0 < i → 0 < m) → rd p i a = (0, i + p.length, 3) := by
  induction m using Nat.strongRecOn with
  | _ m ih =>
    intro i a p t he ht hi hm hp
    cases p with
    | nil => rfl
    | cons c p =>
      by_cases h : m < 128
      · rw [grp_small m h] at he
        have := congrArg List.length he
        have h1 : 0 < t.length := List.length_pos_iff.2 ht
        simp only [List.length_cons, List.length_append, List.length_nil] at this
        omega
      · rw [grp_more m h] at he
        injection he with e1 e2
        have e : c.toNat = m % 128 + 128 := by rw [← e1]; unfold gb; simp; omega
        have hi9 : i ≠ 9 := by
          rintro rfl
          have : 128 * 128 ^ 9 ≤ m * 128 ^ 9 := Nat.mul_le_mul_right _ (by omega)
          omega
        have hd : m / 128 * 128 ^ (i + 1) ≤ m * 128 ^ i := by
          rw [Nat.pow_succ, Nat.mul_comm (128 ^ i) 128, ← Nat.mul_assoc]
          exact Nat.mul_le_mul_right _ (Nat.div_mul_le_self m 128)
        have := ih (m / 128) (by omega) (i + 1) (a + m % 128 * 128 ^ i) p t e2 ht (by omega) (by omega) (fun _ => by omega)
        unfold rd
        rw [e, if_neg (fun ⟨h1, _⟩ => hi9 h1), if_neg (fun ⟨_, h2⟩ => by omega), if_neg (by omega), show (m % 128 + 128) % 128 = m % 128 by omega, this, List.length_cons, show i + 1 + p.length = i + (p.length + 1) by omega]
theorem unf_fold (n : Int) : unfI (foldI n) = n := by
  unfold unfI foldI
  split <;> split <;> omega
theorem fold_unf (u : Nat) : foldI (unfI u) = u := by
  unfold unfI foldI
  split <;> split <;> omega
theorem unf_le (u : Nat) (h : u < 18446744073709551616) : -9223372036854775808 ≤ unfI u ∧ unfI u ≤ 9223372036854775807 := by
  unfold unfI
  split <;> omega
/-- a field: what is written of it is read as it; what is read is what would be written; of a beginning of it more is asked -/
structure Fd {α : Type} (f : List UInt8 → Nat → Nat × Nat × α) (B : α → List UInt8) (ok : α → Prop) : Prop where
  back : ∀ l i x t, ok x → l.drop i = B x ++ t → f l i = (0, i + (B x).length, x)
  form : ∀ l i, i ≤ l.length → (f l i).1 = 0 → ok (f l i).2.2 ∧ (f l i).2.1 = i + (B (f l i).2.2).length ∧ l.drop i = B (f l i).2.2 ++ l.drop (f l i).2.1
  cut : ∀ l i x t, ok x → i ≤ l.length → t ≠ [] → B x = l.drop i ++ t → (f l i).1 = 3 ∧ (f l i).2.1 = l.length
theorem drop_behind {l b t : List UInt8} {i : Nat} (h : l.drop i = b ++ t) : l.drop (i + b.length) = t := by
  rw [← List.drop_drop, h, List.drop_left]
/-- how long what is ahead is -/
theorem drop_room {l b t : List UInt8} {i : Nat} (hi : i ≤ l.length) (h : l.drop i = b ++ t) : i + b.length ≤ l.length := by
  have := congrArg List.length h
  rw [List.length_drop, List.length_append] at this
  omega
theorem Fd.int : Fd (fun l i => fIn l i) (fun n => grp (foldI n)) (fun n => -9223372036854775808 ≤ n ∧ n ≤ 9223372036854775807) where
  back l i x t ok h := by
    have hf := foldI_lt x ok.1 ok.2
    have e := rd_grp t (foldI x) 0 0 (by omega) (by omega) (fun h => by omega)
    show (_, _, _) = _
    rw [h, e]
    simp [unf_fold]
  form l i hi h := by
    obtain ⟨m, t, e1, e2, _⟩ := rd_form (l.drop i) 0 0 h
    have hlt := rd_lt (l.drop i) 0 0 (by omega) (by omega)
    rw [e2] at hlt
    simp at hlt
    show (_ ≤ unfI (rd (l.drop i) 0 0).1 ∧ unfI (rd (l.drop i) 0 0).1 ≤ _) ∧ i + (rd (l.drop i) 0 0).2.1 = i + (grp (foldI (unfI (rd (l.drop i) 0 0).1))).length ∧ l.drop i = grp (foldI (unfI (rd (l.drop i) 0 0).1)) ++ l.drop (i + (rd (l.drop i) 0 0).2.1)
    rw [e2]
    simp only [Nat.zero_add, Nat.pow_zero, Nat.mul_one, fold_unf]
    exact ⟨unf_le m hlt, trivial, by rw [drop_behind e1]; exact e1⟩
  cut l i x t ok hi ht h := by
    have hf := foldI_lt x ok.1 ok.2
    have e := rd_cut (foldI x) 0 0 _ t h ht (by omega) (by omega) (fun h => by omega)
    show (rd (l.drop i) 0 0).2.2 = 3 ∧ i + (rd (l.drop i) 0 0).2.1 = l.length
    rw [e, List.length_drop]
    exact ⟨rfl, by show i + (0 + (l.length - i)) = l.length; omega⟩
theorem append_cases {a b c d : List UInt8} (h : a ++ b = c ++ d) : (∃ x, c = a ++ x ∧ b = x ++ d) ∨ (∃ x, a = c ++ x ∧ x ≠ [] ∧ d = x ++ b) := by
  rcases List.append_eq_append_iff.1 h with ⟨x, h1, h2⟩ | ⟨x, h1, h2⟩
  · exact .inl ⟨x, h1, h2⟩
  · by_cases hx : x = []
    · subst hx
      rw [List.append_nil] at h1
      rw [List.nil_append] at h2
      exact .inl ⟨[], by rw [h1, List.append_nil], by rw [h2]; rfl⟩
    · exact .inr ⟨x, h1, hx, h2⟩
theorem Fd.text (most : Nat) (hm : most < 18446744073709551616) : Fd (fun l i => fTx l most i) txB (fun s => s.size ≤ most) where
  back l i x t ok h := by
    unfold txB at h
    rw [List.append_assoc] at h
    have el : x.data.toList.length = x.size := rfl
    have e := rd_grp (x.data.toList ++ t) x.size 0 0 (by omega) (by omega) (fun h => by omega)
    have hl := congrArg List.length h
    simp only [List.length_append] at hl
    unfold fTx tx txB
    rw [h, e]
    simp only [Nat.zero_add, Nat.pow_zero, Nat.mul_one]
    rw [if_neg (fun e => e rfl), if_neg (by omega), if_neg (by simp only [List.length_append]; omega), List.drop_left]
    have e3 : (x.data.toList ++ t).take x.size = x.data.toList := List.take_left' el
    rw [e3, List.length_append, el]
  form l i hi h := by
    unfold fTx tx at h ⊢
    by_cases h1 : (rd (l.drop i) 0 0).2.2 ≠ 0
    · rw [if_pos h1] at h; exact (h1 h).elim
    rw [if_neg h1] at h ⊢
    obtain ⟨m, t, e1, e2, _⟩ := rd_form (l.drop i) 0 0 (Classical.byContradiction h1)
    rw [e2] at h ⊢
    simp only [Nat.zero_add, Nat.pow_zero, Nat.mul_one] at h ⊢
    by_cases h2 : most < m
    · rw [if_pos h2] at h; cases h
    rw [if_neg h2] at h ⊢
    by_cases h3 : (l.drop i).length - (grp m).length < m
    · rw [if_pos h3] at h; cases h
    rw [if_neg h3]
    have hl := congrArg List.length e1
    rw [List.length_append] at hl
    have hd : (l.drop i).drop (grp m).length = t := by rw [e1, List.drop_left]
    rw [hd]
    have hs : (⟨(t.take m).toArray⟩ : ByteArray).size = m := by show (t.take m).toArray.size = m; simp; omega
    refine ⟨by rw [hs]; omega, ?_, ?_⟩
    · show i + ((grp m).length + m) = i + (txB ⟨(t.take m).toArray⟩).length
      unfold txB
      rw [hs, List.length_append]
      simp
      omega
    · show l.drop i = txB ⟨(t.take m).toArray⟩ ++ l.drop (i + ((grp m).length + m))
      unfold txB
      rw [hs, ← List.drop_drop, ← List.drop_drop, hd, e1]
      simp
  cut l i x t ok hi ht h := by
    have el : x.data.toList.length = x.size := rfl
    unfold txB at h
    unfold fTx tx
    rcases append_cases h with ⟨y, h1, h2⟩ | ⟨y, h1, h2, _⟩
    · have e := rd_grp y x.size 0 0 (by omega) (by omega) (fun h => by omega)
      have hl2 := congrArg List.length h2
      have h3 : 0 < t.length := List.length_pos_iff.2 ht
      have hl1 := congrArg List.length h1
      rw [List.length_drop] at hl1
      rw [h1, e]
      simp only [List.length_append] at hl2 hl1
      simp only [Nat.zero_add, Nat.pow_zero, Nat.mul_one]
      rw [if_neg (fun e => e rfl), if_neg (by omega), if_pos (by simp only [List.length_append]; omega)]
      refine ⟨rfl, ?_⟩
      show i + (grp x.size ++ y).length = l.length
      simp only [List.length_append]
      omega
    · have e := rd_cut x.size 0 0 _ y h1 h2 (by omega) (by omega) (fun h => by omega)
      rw [e]
      rw [if_pos (show (3 : Nat) ≠ 0 by decide), List.length_drop]
      exact ⟨rfl, by show i + (0 + (l.length - i)) = l.length; omega⟩
/-- a field ahead of others -/
theorem Fd.field {α β : Type} {f : List UInt8 → Nat → Nat × Nat × α} {Bf : α → List UInt8} {okf : α → Prop} (hf : Fd f Bf okf) (pa : β → α) {K : α → List UInt8 → Nat → Nat × Nat × β} {BK : β → List UInt8} {okK : α → β → Prop}
    (hK : ∀ a, Fd (K a) BK (okK a)) (hp : ∀ a r, okK a r → pa r = a) (d : β) :
    Fd (fun l i => andR (f l i) d fun i1 a => K a l i1) (fun r => Bf (pa r) ++ BK r) (fun r => okf (pa r) ∧ okK (pa r) r) where
  back l i x t ok h := by
    rw [List.append_assoc] at h
    have e := hf.back l i (pa x) _ ok.1 h
    have e2 := (hK (pa x)).back l (i + (Bf (pa x)).length) x t ok.2 (drop_behind h)
    show andR (f l i) d (fun i1 a => K a l i1) = _
    rw [andR_ok (by rw [e]), e]
    show K (pa x) l (i + (Bf (pa x)).length) = _
    rw [e2, List.length_append, Nat.add_assoc]
  form l i hi h := by
    have h' : (andR (f l i) d fun i1 a => K a l i1).1 = 0 := h
    show (okf (pa (andR (f l i) d fun i1 a => K a l i1).2.2) ∧ okK (pa (andR (f l i) d fun i1 a => K a l i1).2.2) (andR (f l i) d fun i1 a => K a l i1).2.2) ∧ (andR (f l i) d fun i1 a => K a l i1).2.1 = i + (Bf (pa (andR (f l i) d fun i1 a => K a l i1).2.2) ++ BK (andR (f l i) d fun i1 a => K a l i1).2.2).length ∧ l.drop i = (Bf (pa (andR (f l i) d fun i1 a => K a l i1).2.2) ++ BK (andR (f l i) d fun i1 a => K a l i1).2.2) ++ l.drop (andR (f l i) d fun i1 a => K a l i1).2.1
    by_cases h1 : (f l i).1 = 0
    case neg => rw [andR_no h1] at h'; exact (h1 h').elim
    rw [andR_ok h1] at h' ⊢
    obtain ⟨o1, p1, q1⟩ := hf.form l i hi h1
    have hr := drop_room hi q1
    rw [p1] at q1 h' ⊢
    generalize (f l i).2.2 = a at *
    obtain ⟨o2, p2, q2⟩ := (hK a).form l _ hr h'
    generalize K a l (i + (Bf a).length) = y at *
    rw [hp a _ o2, p2]
    refine ⟨⟨o1, o2⟩, by rw [List.length_append]; omega, ?_⟩
    rw [p2] at q2
    rw [q1, q2, List.append_assoc]
  cut l i x t ok hi ht h := by
    show (andR (f l i) d fun i1 a => K a l i1).1 = 3 ∧ (andR (f l i) d fun i1 a => K a l i1).2.1 = l.length
    rcases append_cases h with ⟨y, h1, h2⟩ | ⟨y, h1, h2, _⟩
    · have e := hf.back l i (pa x) y ok.1 h1
      have hr := drop_room hi h1
      have e2 := (hK (pa x)).cut l (i + (Bf (pa x)).length) x t ok.2 hr ht (by rw [drop_behind h1]; exact h2)
      rw [andR_ok (by rw [e]), e]
      exact e2
    · obtain ⟨e1, e2⟩ := hf.cut l i (pa x) y ok.1 hi h2 h1
      rw [andR_no (by rw [e1]; decide)]
      exact ⟨e1, e2⟩
/-- nothing more -/
theorem Fd.done {β : Type} (r : β) : Fd (fun (_ : List UInt8) i => (0, i, r)) (fun _ => []) (fun x => x = r) where
  back l i x t ok h := by rw [ok]; rfl
  form l i hi h := ⟨rfl, rfl, rfl⟩
  cut l i x t ok hi ht h := by
    have := congrArg List.length h
    have h3 : 0 < t.length := List.length_pos_iff.2 ht
    simp at this
    omega
theorem Fd.same {α : Type} {f : List UInt8 → Nat → Nat × Nat × α} {B B' : α → List UInt8} {ok ok' : α → Prop} (h : Fd f B ok) (hB : ∀ x, B' x = B x) (ho : ∀ x, ok' x ↔ ok x) : Fd f B' ok' := by
  obtain rfl : B' = B := funext hB
  obtain rfl : ok' = ok := funext fun x => propext (ho x)
  exact h
end Go.Proofs.Ytfhicemfhkhjaab
