/- A quiet region inside a round: the lone walk serves. -/
import Derived.Test.YtamajnaeladehaaDoorRQ1
import Derived.Test.YtamajnaeladehaaDoorRF1
namespace Go.Proofs.YtamajnaeladehaaDoor
set_option linter.unusedVariables false
set_option linter.unusedSimpArgs false
open Go.RowKit Go.Sort

theorem quiet_wide {n : Nat} {P : Program} {ops : Array Oper} {C : World → Prop} {Q : Act → Prop} : ∀ (l : List Oper) (a : Act), wpQuiet P ops C Q l a → wpQuietIn Fence.wide n P ops C Q l a
  | [], _, h => h
  | o :: rest, a, h => by
    unfold wpQuietIn
    refine ⟨fun _ _ _ _ => trivial, ?_⟩
    unfold wpQuiet at h
    by_cases hw : Region.wanted o (yielded ops a.tmps) = true
    · rw [if_pos hw] at h ⊢
      obtain ⟨v, h1, h2⟩ := h
      refine ⟨v, fun w hC => ?_, quiet_wide rest _ h2⟩
      have := h1 w hC
      unfold Oper.quietAt at this
      unfold Oper.quietAtIn
      generalize (execOp a.eval o).run P w = r at *
      cases r with
      | ok x w' =>
        cases x <;> simp only [Oper.quietUpon, Oper.quietUponIn] at this ⊢ <;> try exact this
        exact ⟨this.1, (fun h => by cases h), callsIn_wide.2 this.2⟩
      | halt x w' => cases x <;> simp only [Oper.quietUpon, Oper.quietUponIn] at this ⊢
    · rw [if_neg hw] at h ⊢
      exact quiet_wide rest _ h
theorem wpIn_round_quiet {l0 n : Nat} {P : Program} {id : Nat} {Q : Exit → Act → World → Prop} {a : Act} {w : World} {l : List Oper} (hm : P.follows .mixedOrders = true) (hB : Region.lexB .any l.toArray = true) (hd : noDefer l = true)
    (h : wpQuiet P l.toArray (fun w' => ∃ p : Regrown, w' = grow (redrawn w p.d) p.os) (fun a' => ∀ w', (∃ p : Regrown, w' = grow (redrawn w p.d) p.os) → Q .normal a' w') l a) : (Code.region id l.toArray true).wpIn (Fence.wide.inRound l0) n P Q a w :=
  wpIn_round_quiet_below hm hB hd (quiet_wide l a h)
theorem ownFrom_mk {β : Type} {B : Nat} {I : β → World → Prop} (p : β → Prop) (h : OwnFrom B I) : OwnFrom B (fun s W => p s ∧ I s W) := fun s A C row hs hg hr => ⟨hs.1, h s A C row hs.2 hg hr⟩
/-- A range over a function that may be left by a break. -/
theorem wpIn_rangeBrk {α : Type} {F : Fence} {n : Nat} {P : Program} {g : Operand} {ps : Array Tmp} {assign body : Code} {Q : Exit → Act → World → Prop} {a : Act} {w : World} (id : Nat)
    (hro : F.round = none) (h1 : 1 ≤ n) {gf : Nat} {lb : Array Value} (hg : a.eval g = .func (.func gf) #[] lb) (hFg : F.fn gf) (eg : ∀ args w, (callFunc gf args).run P w = .ok (.enter gf args) w)
    {encs : α → Array Value} {lo hi : Nat} {S : List α → Prop} {Fit : List α → α → World → World → Prop} {w0 : World} (hseq : SeqFit F (n - 1) P gf lb encs lo hi S Fit w0) (hb0 : Below w0.heap.size w0 w) (hn₀ : hi ≤ w.heap.size) (hps : ∀ x, (encs x).size = ps.size)
    (hFit : ∀ pre x A B l o o', Fit pre x A B → A.heap[l]? = some o → o.isCells = false → Fit pre x (A.putObj l o') (B.putObj l o'))
    (p : List α → Prop) (hblk : ∀ a w, Q .normal a w → Q (.exit id) a w)
    (I : List α → World → Prop) (hI : OwnFrom w.heap.size I) (h0 : I [] w)
    (hround : ∀ (l : Nat) (pre : List α) (x : α) (Wp W : World), I pre Wp → Below Wp.heap.size Wp W → Fit pre x Wp W → ∃ a₁ : Act,
      (∀ (W0 : World) (K : Act → World → Prop), K a₁ W0 → assign.wpIn (F.inRound l) (n - 1 - 1) P (Exit.then K (fun _ _ _ => False)) { tmps := (ps.zip (encs x)).foldl (fun t (p, v) => t.setIfInBounds p v) a.tmps, defers := [] } W0) ∧
      body.wpIn (F.inRound l) (n - 1 - 1) P (ownPostK (KeepR lo hi) I (fun c pre W => c = .exit id ∧ p pre ∧ I pre W) (pre ++ [x]) W) a₁ W)
    (hfin : ∀ (D : Nat) (xs : List α) (W : World), w.heap.size ≤ D → S xs ∨ p xs → I xs W → W.heap[D]? = some (.deferred (some [])) → Q .normal { a with defers := { target := .collected D, args := #[] } :: a.defers } W) :
    (Code.rangeFunc g ps assign body).wpIn F n P Q a w := by
  refine wpIn_rangeFit hro h1 hg hFg eg hseq hb0 hn₀ hps hFit I (fun c pre W => c = .exit id ∧ p pre ∧ I pre W) hI (fun c => ownFrom_mk (fun _ => c = .exit id) (ownFrom_mk p hI)) h0 hround (fun D xs W hD hS hi hd => hfin D xs W hD (.inl hS) hi hd) ?_
  rintro D c pre W hD ⟨rfl, hp, hi⟩ hd
  exact wpIn_exit (hblk _ _ (hfin D pre W hD (.inr hp) hi hd))
end Go.Proofs.YtamajnaeladehaaDoor
