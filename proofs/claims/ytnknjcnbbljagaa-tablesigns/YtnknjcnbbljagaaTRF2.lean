/- A range over a function that may be left by a break. -/
import Derived.Test.YtnknjcnbbljagaaTRF1
namespace Go.Proofs.Ytnknjcnbbljagaa
set_option linter.unusedVariables false
set_option linter.unusedSimpArgs false
open Go.RowKit

theorem ownFrom_mk {β : Type} {B : Nat} {I : β → World → Prop} (p : β → Prop) (h : OwnFrom B I) : OwnFrom B (fun s W => p s ∧ I s W) := fun s A C row hs hg hr => ⟨hs.1, h s A C row hs.2 hg hr⟩
/-- A range over a function that may be left by a break. -/
theorem wpIn_rangeBrk {α : Type} {F : Fence} {n : Nat} {P : Program} {g : Operand} {ps : Array Tmp} {assign body : Code} {Q : Exit → Act → World → Prop} {a : Act} {w : World} (id : Nat)
    (hro : F.round = none) (h1 : 1 ≤ n) {gf : Nat} {lb : Array Value} (hg : a.eval g = .func (.func gf) #[] lb) (hFg : F.fn gf) (eg : ∀ args w, (callFunc gf args).run P w = .ok (.enter gf args) w)
    {encs : α → Array Value} {Kp : World → World → Prop} {S : List α → Prop} {Fit : List α → α → World → World → Prop} {w0 : World} (hseq : SeqKp F (n - 1) P gf lb encs Kp S Fit w0) (hb0 : Below w0.heap.size w0 w) (hKp : Keeping Kp) (hps : ∀ x, (encs x).size = ps.size)
    (hFit : ∀ pre x A B l o o', Fit pre x A B → A.heap[l]? = some o → o.isCells = false → Fit pre x (A.putObj l o') (B.putObj l o'))
    (p : List α → Prop) (hblk : ∀ a w, Q .normal a w → Q (.exit id) a w)
    (I : List α → World → Prop) (hI : OwnFrom w.heap.size I) (h0 : I [] w)
    (hround : ∀ (l : Nat) (pre : List α) (x : α) (Wp W : World), I pre Wp → Below Wp.heap.size Wp W → Fit pre x Wp W → ∃ a₁ : Act,
      (∀ (W0 : World) (K : Act → World → Prop), K a₁ W0 → assign.wpIn (F.inRound l) (n - 1 - 1) P (Exit.then K (fun _ _ _ => False)) { tmps := (ps.zip (encs x)).foldl (fun t (p, v) => t.setIfInBounds p v) a.tmps, defers := [] } W0) ∧
      body.wpIn (F.inRound l) (n - 1 - 1) P (ownPostK Kp I (fun c pre W => c = .exit id ∧ p pre ∧ I pre W) (pre ++ [x]) W) a₁ W)
    (hfin : ∀ (D : Nat) (xs : List α) (W : World), w.heap.size ≤ D → S xs ∨ p xs → I xs W → W.heap[D]? = some (.deferred (some [])) → Q .normal { a with defers := { target := .collected D, args := #[] } :: a.defers } W) :
    (Code.rangeFunc g ps assign body).wpIn F n P Q a w := by
  refine wpIn_rangeKp hro h1 hg hFg eg hseq hb0 hKp hps hFit I (fun c pre W => c = .exit id ∧ p pre ∧ I pre W) hI (fun c => ownFrom_mk (fun _ => c = .exit id) (ownFrom_mk p hI)) h0 hround (fun D xs W hD hS hi hd => hfin D xs W hD (.inl hS) hi hd) ?_
  rintro D c pre W hD ⟨rfl, hp, hi⟩ hd
  exact wpIn_exit (hblk _ _ (hfin D pre W hD (.inr hp) hi hd))
end Go.Proofs.Ytnknjcnbbljagaa
