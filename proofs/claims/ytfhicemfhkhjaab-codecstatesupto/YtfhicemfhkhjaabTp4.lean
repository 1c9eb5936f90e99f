/-
  codec, pure: states there and back.
-/
import Derived.Test.YtfhicemfhkhjaabTp3
import Derived.Test.YtfhicemfhkhjaabSt2
namespace Go.Proofs.Ytfhicemfhkhjaab
set_option maxRecDepth 100000

def hl0 : Hl := ⟨⟨#[]⟩, [], 0⟩
def dn0 : Dn := ⟨rq0, 0⟩
def sx0 : Sx := ⟨0, 0, 0, [], [], []⟩
/-- a hold, something done, a state from place i on -/
def fHl (most : Nat) (l : List UInt8) (i : Nat) : Nat × Nat × Hl := andR (fTx l most i) hl0 fun i1 a => andR (fLi l most i1) hl0 fun i2 L => andR (fIn l i2) hl0 fun i3 d => (0, i3, ⟨a, L, d⟩)
def fDn (most : Nat) (l : List UInt8) (i : Nat) : Nat × Nat × Dn := andR (fRq l most i) dn0 fun i1 r => andR (fIn l i1) dn0 fun i2 t => (0, i2, ⟨r, t⟩)
def fSt (most : Nat) (l : List UInt8) (i : Nat) : Nat × Nat × Sx := andR (fIn l i) sx0 fun i1 a => andR (fIn l i1) sx0 fun i2 b => andR (fIn l i2) sx0 fun i3 c => andR (fVi l most i3) sx0 fun i4 L => andR (gL (fHl most) most l i4) sx0 fun i5 H => andR (gL (fDn most) most l i5) sx0 fun i6 D => (0, i6, ⟨a, b, c, L, H, D⟩)
/-- what the bytes l are read as: the error, its place, the state -/
def sxs (l : List UInt8) : Nat × Nat × Sx := whole 84 (fSt 131072) sx0 131072 l
/-- a hold, something done, a state that is read -/
structure HlT (most : Nat) (x : Hl) : Prop where
  id : x.id.size ≤ most
  lines : x.lines.length ≤ most ∧ ∀ y ∈ x.lines, y.1.size ≤ most ∧ I64 y.2
  dead : I64 x.dead
structure DnT (most : Nat) (x : Dn) : Prop where
  req : RqT most x.req
  at' : I64 x.at'
structure SxT (most : Nat) (s : Sx) : Prop where
  room : I64 s.room
  lsn : I64 s.lsn
  now : I64 s.now
  levels : s.levels.length ≤ most ∧ ∀ x ∈ s.levels, x.1.size ≤ most ∧ I64 x.2.1 ∧ I64 x.2.2
  holds : s.holds.length ≤ most ∧ ∀ x ∈ s.holds, HlT most x
  done : s.done.length ≤ most ∧ ∀ x ∈ s.done, DnT most x
theorem Fd.held (most : Nat) (hm : most < 18446744073709551616) : Fd (fHl most) hl1 (HlT most) := by
  have k3 := fun a L d => Fd.done (⟨a, L, d⟩ : Hl)
  have k2 := fun a L => Fd.field Fd.int (fun r : Hl => r.dead) (k3 a L) (fun n r hr => by rw [hr]) hl0
  have k1 := fun a => Fd.field (Fd.lines most hm) (fun r : Hl => r.lines) (okK := fun L r => I64 r.dead ∧ r = ⟨a, L, r.dead⟩) (k2 a) (fun n r hr => by rw [hr.2]) hl0
  have k0 := Fd.field (Fd.text most hm) (fun r : Hl => r.id) (okK := fun a r => (r.lines.length ≤ most ∧ ∀ y ∈ r.lines, y.1.size ≤ most ∧ I64 y.2) ∧ I64 r.dead ∧ r = ⟨a, r.lines, r.dead⟩) k1 (fun n r hr => by rw [hr.2.2]) hl0
  exact k0.same (fun x => by simp [hl1]) (fun x => ⟨fun h => ⟨h.id, h.lines, h.dead, rfl⟩, fun h => ⟨h.1, h.2.1, h.2.2.1⟩⟩)
theorem Fd.dn (most : Nat) (hm : most < 18446744073709551616) : Fd (fDn most) dn1 (DnT most) := by
  have k2 := fun r t => Fd.done (⟨r, t⟩ : Dn)
  have k1 := fun r => Fd.field Fd.int (fun x : Dn => x.at') (k2 r) (fun n x hr => by rw [hr]) dn0
  have k0 := Fd.field (Fd.request most hm) (fun x : Dn => x.req) (okK := fun r x => I64 x.at' ∧ x = ⟨r, x.at'⟩) k1 (fun n x hr => by rw [hr.2]) dn0
  exact k0.same (fun x => by simp [dn1]) (fun x => ⟨fun h => ⟨h.req, h.at', rfl⟩, fun h => ⟨h.1, h.2.1⟩⟩)
theorem Fd.state (most : Nat) (hm : most < 18446744073709551616) : Fd (fSt most) sxB (SxT most) := by
  have k6 := fun a b c L H D => Fd.done (⟨a, b, c, L, H, D⟩ : Sx)
  have k5 := fun a b c L H => Fd.field ((Fd.dn most hm).list most hm) (fun s : Sx => s.done) (k6 a b c L H) (fun n r hr => by rw [hr]) sx0
  have k4 := fun a b c L => Fd.field ((Fd.held most hm).list most hm) (fun s : Sx => s.holds) (okK := fun H s => (s.done.length ≤ most ∧ ∀ x ∈ s.done, DnT most x) ∧ s = ⟨a, b, c, L, H, s.done⟩) (k5 a b c L) (fun n r hr => by rw [hr.2]) sx0
  have k3 := fun a b c => Fd.field (Fd.levels most hm) (fun s : Sx => s.levels) (okK := fun L s => (s.holds.length ≤ most ∧ ∀ x ∈ s.holds, HlT most x) ∧ (s.done.length ≤ most ∧ ∀ x ∈ s.done, DnT most x) ∧ s = ⟨a, b, c, L, s.holds, s.done⟩) (k4 a b c) (fun n r hr => by rw [hr.2.2]) sx0
  have k2 := fun a b => Fd.field Fd.int (fun s : Sx => s.now) (okK := fun c s => (s.levels.length ≤ most ∧ ∀ x ∈ s.levels, x.1.size ≤ most ∧ I64 x.2.1 ∧ I64 x.2.2) ∧ (s.holds.length ≤ most ∧ ∀ x ∈ s.holds, HlT most x) ∧ (s.done.length ≤ most ∧ ∀ x ∈ s.done, DnT most x) ∧ s = ⟨a, b, c, s.levels, s.holds, s.done⟩) (k3 a b) (fun n r hr => by rw [hr.2.2.2]) sx0
  have k1 := fun a => Fd.field Fd.int (fun s : Sx => s.lsn) (okK := fun b s => I64 s.now ∧ (s.levels.length ≤ most ∧ ∀ x ∈ s.levels, x.1.size ≤ most ∧ I64 x.2.1 ∧ I64 x.2.2) ∧ (s.holds.length ≤ most ∧ ∀ x ∈ s.holds, HlT most x) ∧ (s.done.length ≤ most ∧ ∀ x ∈ s.done, DnT most x) ∧ s = ⟨a, b, s.now, s.levels, s.holds, s.done⟩) (k2 a) (fun n r hr => by rw [hr.2.2.2.2]) sx0
  have k0 := Fd.field Fd.int (fun s : Sx => s.room) (okK := fun a s => I64 s.lsn ∧ I64 s.now ∧ (s.levels.length ≤ most ∧ ∀ x ∈ s.levels, x.1.size ≤ most ∧ I64 x.2.1 ∧ I64 x.2.2) ∧ (s.holds.length ≤ most ∧ ∀ x ∈ s.holds, HlT most x) ∧ (s.done.length ≤ most ∧ ∀ x ∈ s.done, DnT most x) ∧ s = ⟨a, s.lsn, s.now, s.levels, s.holds, s.done⟩) k1 (fun n r hr => by rw [hr.2.2.2.2.2]) sx0
  exact k0.same (fun x => by simp [sxB, hlB, dnB]) (fun x => ⟨fun h => ⟨h.room, h.lsn, h.now, h.levels, h.holds, h.done, rfl⟩, fun h => ⟨h.1, h.2.1, h.2.2.1, h.2.2.2.1, h.2.2.2.2.1, h.2.2.2.2.2.1⟩⟩)
end Go.Proofs.Ytfhicemfhkhjaab
