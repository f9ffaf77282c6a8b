/- A range over a function whose rounds may turn maps. -/
import Derived.Test.YtnloglecfbhpcaaKRF2
namespace Go.Proofs.Ytnloglecfbhpcaa
set_option linter.unusedVariables false
set_option linter.unusedSimpArgs false
open Go.RowKit

/-- Loops' records and what is deferred stay. -/
structure KeepsLD (W W' : World) : Prop where
  lp : ∀ (k : Nat) (q : Loop), W.heap[k]? = some (.loop q) → W'.heap[k]? = some (.loop q)
  df : ∀ (k : Nat) (d : Option (List Deferred)), W.heap[k]? = some (.deferred d) → W'.heap[k]? = some (.deferred d)
theorem KeepsLD.trans {A B C : World} (h : KeepsLD A B) (k : KeepsLD B C) : KeepsLD A C := ⟨fun i q e => k.lp i q (h.lp i q e), fun i d e => k.df i d (h.df i d e)⟩
theorem KeepsLD.below {A B : World} (h : Below A.heap.size A B) : KeepsLD A B := ⟨fun i q e => (h.block i (Array.getElem?_eq_some_iff.1 e).1).trans e, fun i d e => (h.block i (Array.getElem?_eq_some_iff.1 e).1).trans e⟩
theorem KeepsLD.grown {A B : World} {r : Nat} (h : A.grownBy B (some r)) (hl : ∀ q, A.heap[r]? ≠ some (.loop q)) (hd : ∀ d, A.heap[r]? ≠ some (.deferred d)) : KeepsLD A B :=
  ⟨fun i q e => (h.block i (Array.getElem?_eq_some_iff.1 e).1 (fun e2 => by cases e2; exact hl q e)).trans e, fun i d e => (h.block i (Array.getElem?_eq_some_iff.1 e).1 (fun e2 => by cases e2; exact hd d e)).trans e⟩
def ownPostL {α : Type} (Kp : World → World → Prop) (I : List α → World → Prop) (Ix : Code → List α → World → Prop) (s : List α) (W : World) : Exit → Act → World → Prop
  | .normal, _, W3 => KeepsLD W W3 ∧ Kp W W3 ∧ I s W3
  | .ret, _, W3 => KeepsLD W W3 ∧ Ix .ret s W3
  | .exit id, _, W3 => KeepsLD W W3 ∧ Ix (.exit id) s W3
  | .goto t, _, W3 => KeepsLD W W3 ∧ Ix (.goto t) s W3
  | .panic _, _, _ => False
  | .outgrown, _, _ => False
/-- As wpIn_rangeKa, where a round may turn maps besides. -/
theorem wpIn_rangeKl {α : Type} {F : Fence} {n : Nat} {P : Program} {g : Operand} {ps : Array Tmp} {assign body : Code} {Q : Exit → Act → World → Prop} {a : Act} {w : World}
    (hro : F.round = none) (h1 : 1 ≤ n) {gf : Nat} {lb : Array Value} (hg : a.eval g = .func (.func gf) #[] lb) (hFg : F.fn gf) (eg : ∀ args w, (callFunc gf args).run P w = .ok (.enter gf args) w)
    {encs : α → Array Value} {Kp : World → World → Prop} {S : List α → Prop} {Fit : List α → α → World → World → Prop} {w0 : World} (hseq : SeqKp F (n - 1) P gf lb encs Kp S Fit w0) (hb0 : Below w0.heap.size w0 w) (hKp : Keeping Kp) (hps : ∀ x, (encs x).size = ps.size)
    (I : List α → World → Prop) (Ix : Code → List α → World → Prop) (hI : OwnFrom w.heap.size I) (hIx : ∀ c, OwnFrom w.heap.size (Ix c)) (h0 : I [] w)
    (hKb : ∀ A B, Below A.heap.size A B → Kp A B)
    (hround : ∀ (l : Nat) (pre : List α) (x : α) (Wp W : World), I pre Wp → Below Wp.heap.size Wp W → Fit pre x Wp W → ∃ R : Act → World → Prop,
      (∀ K : Act → World → Prop, (∀ a₁ W₂, R a₁ W₂ → Below W.heap.size W W₂ → K a₁ W₂) → assign.wpIn (F.inRound l) (n - 1 - 1) P (Exit.then K (fun _ _ _ => False)) { tmps := (ps.zip (encs x)).foldl (fun t (p, v) => t.setIfInBounds p v) a.tmps, defers := [] } W) ∧
      (∀ (a₁ : Act) (W₂ : World) (q : Loop) (o' : Obj), R a₁ W₂ → Below W.heap.size W W₂ → W₂.heap[l]? = some (.loop q) → w.heap.size ≤ l → body.wpIn (F.inRound l) (n - 1 - 1) P (ownPostL Kp I Ix (pre ++ [x]) (W₂.putObj l o')) a₁ (W₂.putObj l o')))
    (hdone : ∀ (D : Nat) (xs : List α) (W : World), w.heap.size ≤ D → S xs → I xs W → W.heap[D]? = some (.deferred (some [])) → Q .normal { a with defers := { target := .collected D, args := #[] } :: a.defers } W)
    (hstop : ∀ (D : Nat) (c : Code) (pre : List α) (W : World), w.heap.size ≤ D → Ix c pre W → W.heap[D]? = some (.deferred (some [])) → c.wpIn F n P Q { a with defers := { target := .collected D, args := #[] } :: a.defers } W) :
    (Code.rangeFunc g ps assign body).wpIn F n P Q a w := by
  refine wpIn_rangeFunc fun fn hfn => ?_
  rw [hro]
  -- the loop's record, in whatever state
  let lp : LoopState → Option Code → Loop := fun st pe => { state := st, pending := pe, fn := fn, tmps := a.tmps, params := ps, assign := assign, body := body, defers := w.heap.size }
  let D := w.heap.size
  let l := w.heap.size + 1
  let W1 := (w.alloc (.deferred (some []))).alloc (.loop (lp .ready none))
  have eL : W1.heap[l]? = some (.loop (lp .ready none)) := by
    have h := World.alloc_heap_new (w.alloc (.deferred (some []))) (.loop (lp .ready none))
    rwa [World.size_alloc] at h
  have eD : W1.heap[D]? = some (.deferred (some [])) := (Below.heap_alloc _ _ _ (by simp [D])).trans (World.alloc_heap_new w _)
  have bw : Below w.heap.size w W1 := ((Below.refl _ w).alloc (Nat.le_refl _) _).alloc (by simp) _
  have grow : ∀ {β : Type} {J : β → World → Prop}, OwnFrom w.heap.size J → ∀ s A B, J s A → Below A.heap.size A B → J s B :=
    fun hJ s A B hs hb => hJ s A B none hs (grownBy_below hb) (fun r e => by cases e)
  have ltl : l < W1.heap.size := (Array.getElem?_eq_some_iff.1 eL).1
  have ltD : D < W1.heap.size := (Array.getElem?_eq_some_iff.1 eD).1
  refine ⟨l, [{ target := .collected D, args := #[] }], W1, { target := .fn (.func gf) lb, args := #[.func (.yield l) #[] #[]] }, W1, gf, #[.func (.yield l) #[] #[]] ++ lb, W1, run_enterLoop_outer _ _ _ _ _, ?_, ?_, ?_, fun _ => h1, ?_⟩
  · simp only [resolve, hg]
    simp [go_sem]
  · intro f' hf'
    simp [Target.leads] at hf'
    subst hf'
    exact hFg
  · simp [invoke, go_sem, eg]
  refine (hseq l (fun pre W => I pre W ∧ W.heap[l]? = some (.loop (lp .ready none)) ∧ W.heap[D]? = some (.deferred (some [])))
    (fun pre W => ∃ c, Ix c pre W ∧ W.heap[l]? = some (.loop (lp .done (some c))) ∧ W.heap[D]? = some (.deferred (some []))) W1 (hb0.trans (bw.mono hb0.size))
    (fun s A B row hs hg hr => ⟨hI s A B row hs.1 hg (fun q e => ⟨Nat.le_trans bw.size (hr q e).1, (hr q e).2⟩), (hg.block l (Array.getElem?_eq_some_iff.1 hs.2.1).1 (fun e => Nat.lt_irrefl _ (Nat.lt_of_lt_of_le ltl (hr l e.symm).1))).trans hs.2.1, (hg.block D (Array.getElem?_eq_some_iff.1 hs.2.2).1 (fun e => Nat.lt_irrefl _ (Nat.lt_of_lt_of_le ltD (hr D e.symm).1))).trans hs.2.2⟩)
    (fun s A B row ⟨c, hs, hl, hd⟩ hg hr => ⟨c, hIx c s A B row hs hg (fun q e => ⟨Nat.le_trans bw.size (hr q e).1, (hr q e).2⟩), (hg.block l (Array.getElem?_eq_some_iff.1 hl).1 (fun e => Nat.lt_irrefl _ (Nat.lt_of_lt_of_le ltl (hr l e.symm).1))).trans hl, (hg.block D (Array.getElem?_eq_some_iff.1 hd).1 (fun e => Nat.lt_irrefl _ (Nat.lt_of_lt_of_le ltD (hr D e.symm).1))).trans hd⟩) ?_ ⟨grow hI [] w W1 h0 bw, eL, eD⟩).mono ?_
  · rintro pre x Wp W ⟨hj, hl, hd⟩ hb hf
    have hlW := heap_grows hb hl
    have hdW := heap_grows hb hd
    have hlt : l < Wp.heap.size := (Array.getElem?_eq_some_iff.1 hl).1
    have hltW : l < W.heap.size := Nat.lt_of_lt_of_le hlt hb.size
    let bz : Obj := .loop { lp .ready none with state := .busy }
    have hy := run_yield (P := P) (args := encs x) hlW (hps x)
    obtain ⟨R, hassign, hbody0⟩ := hround l pre x Wp W hj hb hf
    refine ⟨fn, _, assign, body, hy, roundIn_of_wpIn hfn (hassign _ (fun a₁ W₂ hR hb2 => ?_))⟩
    have hW1 := hlW
    have hKW : Kp W W₂ := hKb W W₂ hb2
    have hlW := heap_grows hb2 hW1
    have hdW := heap_grows hb2 hdW
    have hltW : l < W₂.heap.size := Nat.lt_of_lt_of_le hltW hb2.size
    have hbody := hbody0 a₁ W₂ _ bz hR hb2 hlW (by simp [l])
    refine ⟨W₂.putObj l bz, run_beginRound hlW rfl, ?_⟩
    have hlB : (W₂.putObj l bz).heap[l]? = some bz := World.putObj_heap_same hltW
    have hdB : (W₂.putObj l bz).heap[D]? = some (.deferred (some [])) := (World.putObj_heap_other (by simp [D, l])).trans hdW
    refine wpIn_mono hbody ?_
    have fin : ∀ (jump : Option Code) (W3 : World), KeepsLD (W₂.putObj l bz) W3 →
        (Instr.endRound l jump).run P W3 = .ok (.bool jump.isNone) (W3.putObj l (.loop (lp (if jump.isNone then .ready else .done) jump))) ∧
        W3.heap[l]? = some bz ∧ (W3.putObj l (.loop (lp (if jump.isNone then .ready else .done) jump))).heap[l]? = some (.loop (lp (if jump.isNone then .ready else .done) jump)) ∧
        (W3.putObj l (.loop (lp (if jump.isNone then .ready else .done) jump))).heap[D]? = some (.deferred (some [])) := by
      intro jump W3 hk
      have h3 := hk.lp _ _ hlB
      exact ⟨run_endRound (P := P) jump h3, h3, World.putObj_heap_same (Array.getElem?_eq_some_iff.1 h3).1, (World.putObj_heap_other (by simp [D, l])).trans (hk.df _ _ hdB)⟩
    have leave : ∀ (c : Code) (W3 : World), KeepsLD (W₂.putObj l bz) W3 → Ix c (pre ++ [x]) W3 →
        ∃ v W4, (Instr.endRound l (some c)).run P W3 = .ok v W4 ∧ ((Ending.returned v = .returned (.bool true) ∧ (I (pre ++ [x]) W4 ∧ W4.heap[l]? = some (.loop (lp .ready none)) ∧ W4.heap[D]? = some (.deferred (some []))) ∧ Kp W W4) ∨
          (Ending.returned v = .returned (.bool false) ∧ ∃ c, Ix c (pre ++ [x]) W4 ∧ W4.heap[l]? = some (.loop (lp .done (some c))) ∧ W4.heap[D]? = some (.deferred (some [])))) := by
      intro c W3 hk hx
      obtain ⟨hr, h3, h4, h5⟩ := fin (some c) W3 hk
      exact ⟨_, _, hr, .inr ⟨rfl, c, (hIx c).putObj _ hx (by simp [l]) h3 rfl, h4, h5⟩⟩
    intro e a3 W3 hp
    cases e with
    | normal =>
      obtain ⟨hk, hB, hi3⟩ := hp
      obtain ⟨hr, h3, h4, h5⟩ := fin none W3 hk
      have hB2 : Kp W (W₂.putObj l bz) := hKp.trans _ _ _ hKW (hKp.put W₂ l _ bz hlW)
      exact ⟨_, _, hr, .inl ⟨rfl, ⟨hI.putObj _ hi3 (by simp [l]) h3 rfl, h4, h5⟩, hKp.trans _ _ _ (hKp.trans _ _ _ hB2 hB) (hKp.put W3 l _ _ h3)⟩⟩
    | ret => exact leave .ret W3 hp.1 hp.2
    | exit id => exact leave (.exit id) W3 hp.1 hp.2
    | goto t => exact leave (.goto t) W3 hp.1 hp.2
    | panic ch => exact hp.elim
    | outgrown => exact hp.elim
  · rintro e W2 ⟨⟨v, rfl⟩, ⟨xs, hS, hj, hl, hd⟩ | ⟨pre, c, hj, hl, hd⟩⟩
    · exact ⟨none, _, run_endLoop (P := P) hl (by simp [lp]), hdone D xs _ (Nat.le_refl _) hS (hI.putObj _ hj (by simp [l]) hl rfl) ((World.putObj_heap_other (by simp [D, l])).trans hd)⟩
    · exact ⟨some c, _, run_endLoop (P := P) hl (by simp [lp]), hstop D c pre _ (Nat.le_refl _) ((hIx c).putObj _ hj (by simp [l]) hl rfl) ((World.putObj_heap_other (by simp [D, l])).trans hd)⟩
end Go.Proofs.Ytnloglecfbhpcaa
