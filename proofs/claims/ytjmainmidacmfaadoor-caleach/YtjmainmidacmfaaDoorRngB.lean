/-
  A range over days that breaks or runs out, with one way on.
-/
import Derived.Test.YtjmainmidacmfaaDoorWalkG
namespace Go.Proofs.YtjmainmidacmfaaDoor
open Go.RowKit Go.Shelf
set_option maxRecDepth 100000
attribute [local go_sem] Oper.semAt_some

theorem rangeB {P : Program} {n : Nat} {g : Operand} {px bx id : Nat} {assign body : Code} {Q0 : Exit → Act → World → Prop} {a : Act} {w : World}
    (h1 : 1 ≤ n) {gf : Nat} {lb : Array Value} (hg : a.eval g = .func (.func gf) #[] lb) (eg : ∀ args w, (callFunc gf args).run P w = .ok (.enter gf args) w)
    {e : Int → Value} {Kp : World → World → Prop} {S Sp : List Int → Prop} {N : Nat} {w0 : World} (hseq : SeqStopsK Fence.wide (n - 1) P gf lb (fun x : Int => #[e x]) Kp S Sp N w0)
    (hKt : ∀ {A B C : World}, Kp A B → Kp B C → Kp A C) (hKb : ∀ (W : World) (l : Nat) (o o' : Obj), w.heap.size ≤ l → W.heap[l]? = some o → o.isCells = false → o.isWalk = false → Kp W (W.putObj l o')) (hb0 : Below w0.heap.size w0 w)
    (I Ix : List Int → World → Prop) (hI : OwnFrom w.heap.size I) (hIx : OwnFrom w.heap.size Ix) (h0 : I [] w)
    (hassign : ∀ (l : Nat) (pre : List Int) (x : Int) (W : World) (K : Act → World → Prop), I pre W → (∀ a' W', KeepsFrom w.heap.size W W' → Kp W W' → I pre W' → (∃ Bx, Box W' Bx (dY x) (dM x) (dD x) ∧ a' = { tmps := (a.tmps.setIfInBounds px (e x)).setIfInBounds bx (.pointer (some ⟨Bx, 0, none⟩)), defers := [] }) → K a' W') →
      assign.wpIn (Fence.wide.inRound l) (n - 1 - 1) P (Exit.then K (fun _ _ _ => False)) { tmps := ((#[px] : Array Tmp).zip #[e x]).foldl (fun t (p, v) => t.setIfInBounds p v) a.tmps, defers := [] } W)
    (hbody : ∀ (l : Nat) (pre : List Int) (x : Int) (Bx : Nat) (W : World), I pre W → Box W Bx (dY x) (dM x) (dD x) → pre.length < N → body.wpIn (Fence.wide.inRound l) (n - 1 - 1) P (ownPostG w.heap.size Kp I (fun c xs W => c = .exit id ∧ Ix xs W) (pre ++ [x]) W) { tmps := (a.tmps.setIfInBounds px (e x)).setIfInBounds bx (.pointer (some ⟨Bx, 0, none⟩)), defers := [] } W)
    (G : World → Prop) (hd : ∀ xs W, S xs → I xs W → G W) (hs : ∀ pre W, Sp pre → Ix pre W → G W)
    (hgo : ∀ (D : Nat) (W : World), w.heap.size ≤ D → G W → W.heap[D]? = some (.deferred (some [])) → Q0 .normal { a with defers := { target := .collected D, args := #[] } :: a.defers } W) :
    (Code.rangeFunc g #[px] assign body).wpIn Fence.wide n P (Exit.inBlock id Q0) a w := by
  refine wpIn_rangeFunc_ownH rfl h1 hg trivial eg hseq hKt hKb hb0 (fun _ => rfl) I (fun c xs W => c = .exit id ∧ Ix xs W) hI
    (fun c s A B row hs hg' hr => ⟨hs.1, hIx s A B row hs.2 hg' hr⟩) h0
    (fun x a' W' => ∃ Bx, Box W' Bx (dY x) (dM x) (dD x) ∧ a' = { tmps := (a.tmps.setIfInBounds px (e x)).setIfInBounds bx (.pointer (some ⟨Bx, 0, none⟩)), defers := [] })
    (fun x a' _ X Y row hs hg hr => by obtain ⟨Bx, h2, h3⟩ := hs; exact ⟨Bx, h2.own hg (fun r e => (hr r e).2), h3⟩)
    hassign ?_ ?_ ?_
  · rintro l pre x a' W _ _ hi ⟨Bx, bX, rfl⟩ hlt
    exact hbody l pre x Bx W hi bX hlt
  · intro D xs W hD hS hi hK
    exact hgo D W hD (hd xs W hS hi) hK
  · rintro D c pre W hD hSp ⟨rfl, hx⟩ hK
    have h := hgo D W hD (hs pre W hSp hx) hK
    gi_wp2
    exact h
end Go.Proofs.YtjmainmidacmfaaDoor
