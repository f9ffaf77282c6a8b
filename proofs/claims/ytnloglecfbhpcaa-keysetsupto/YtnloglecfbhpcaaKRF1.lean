/- A range over a function whose rounds may lean on what the iterator has just laid: the caller's law. -/
import Derived.Test.YtnloglecfbhpcaaSM
import Derived.RangeFuncNested
import Derived.RangeFuncBound
import Derived.RangeFuncCalls
import Derived.RangeFuncLeaves
namespace Go.Proofs.Ytnloglecfbhpcaa
set_option linter.unusedVariables false
set_option linter.unusedSimpArgs false
open Go.RowKit

/-- What stays, whatever a round does. -/
structure Keeping (Kp : World → World → Prop) : Prop where
  trans : ∀ A B C, Kp A B → Kp B C → Kp A C
  put : ∀ (W : World) (l : Nat) (q : Loop) (o' : Obj), W.heap[l]? = some (.loop q) → Kp W (W.putObj l o')
/-- Blocks of these types stay as they are. -/
structure KeepT (tys : List TypeId) (W W' : World) : Prop where
  size : W.heap.size ≤ W'.heap.size
  same : ∀ (k : Nat) (cs : Array Value) (t : TypeId) (fz : Nat × Nat), W.heap[k]? = some (Obj.cells cs t fz) → t ∈ tys → W'.heap[k]? = W.heap[k]?
theorem KeepT.refl (tys : List TypeId) (W : World) : KeepT tys W W := ⟨Nat.le_refl _, fun _ _ _ _ _ _ => rfl⟩
theorem KeepT.trans {tys : List TypeId} {A B C : World} (h : KeepT tys A B) (k : KeepT tys B C) : KeepT tys A C := ⟨Nat.le_trans h.size k.size, fun i cs t fz h1 h2 => (k.same i cs t fz ((h.same i cs t fz h1 h2).trans h1) h2).trans (h.same i cs t fz h1 h2)⟩
theorem KeepT.below {tys : List TypeId} {A B : World} (h : Below A.heap.size A B) : KeepT tys A B := ⟨h.size, fun i cs t fz h1 _ => h.block i (Array.getElem?_eq_some_iff.1 h1).1⟩
theorem KeepT.keeping (tys : List TypeId) : Keeping (KeepT tys) := ⟨fun _ _ _ h k => h.trans k, fun W l q o' h => ⟨by simp, fun i cs t fz h1 _ => by
  by_cases e : i = l
  · rw [e, h] at h1; cases h1
  · exact World.putObj_heap_other e⟩⟩
theorem KeepT.setCell {tys : List TypeId} (W : World) (a : Addr) (v : Value) {cs : Array Value} {t : TypeId} {fz : Nat × Nat} (h : W.heap[a.block]? = some (.cells cs t fz)) (ht : t ∉ tys) : KeepT tys W (W.setCell a v) := ⟨by simp, fun i cs' t' fz' h1 h2 => heap_setCell_other W a i v (fun e => by
  rw [e, h] at h1; cases h1; exact ht h2)⟩
theorem KeepT.grown {tys : List TypeId} {A B : World} {row : Option Nat} (h : A.grownBy B row) (hr : ∀ r, row = some r → ∃ (cs : Array Value) (t : TypeId) (fz : Nat × Nat), A.heap[r]? = some (Obj.cells cs t fz) ∧ t ∉ tys) : KeepT tys A B := ⟨h.size, fun i cs t fz h1 h2 => h.block i (Array.getElem?_eq_some_iff.1 h1).1 (fun e => by
  obtain ⟨cs', t', fz', h3, h4⟩ := hr i e.symm
  rw [h3] at h1; cases h1; exact h4 h2)⟩
/-- What an iterator does with whatever rounds: each is begun in a world that has grown out of the one that the last round left, and 'Fit' says what is known there of the element. -/
def SeqKp {α : Type} (F : Fence) (n : Nat) (P : Program) (g : Nat) (lb : Array Value) (encs : α → Array Value) (Kp : World → World → Prop) (S : List α → Prop) (Fit : List α → α → World → World → Prop) (w : World) : Prop :=
  ∀ (l : Nat) (J Jx : List α → World → Prop) (W : World), Below w.heap.size w W → OwnFrom W.heap.size J → OwnFrom W.heap.size Jx →
    (∀ pre x Wp W1, J pre Wp → Below Wp.heap.size Wp W1 → Fit pre x Wp W1 → YieldAt F (n - 1) P l (encs x) W1 fun e W' =>
      (e = .returned (.bool true) ∧ J (pre ++ [x]) W' ∧ Kp W1 W') ∨ (e = .returned (.bool false) ∧ Jx (pre ++ [x]) W')) →
    J [] W → CallsIn F n P g (#[.func (.yield l) #[] #[]] ++ lb) W fun e W' => (∃ v, e = .returned v) ∧ ((∃ xs, S xs ∧ J xs W') ∨ ∃ pre, Jx pre W')

theorem below_putBoth {A B : World} (h : Below A.heap.size A B) (l : Nat) (o' : Obj) : Below (A.putObj l o').heap.size (A.putObj l o') (B.putObj l o') :=
  ⟨h.os, h.tape, h.output, by simpa using h.size, fun k hk => by
    rw [World.putObj_size] at hk
    by_cases e : k = l
    · subst e
      rw [World.putObj_heap_same hk, World.putObj_heap_same (Nat.lt_of_lt_of_le hk h.size)]
    · rw [World.putObj_heap_other e, World.putObj_heap_other e]; exact h.block k hk⟩
theorem below_put {n₀ : Nat} {A B : World} (h : Below n₀ A B) (l : Nat) (o' : Obj) (hl : n₀ ≤ l) : Below n₀ A (B.putObj l o') :=
  ⟨h.os, h.tape, h.output, by simpa using h.size, fun k hk => by rw [World.putObj_heap_other (by omega)]; exact h.block k hk⟩
theorem heap_grows {A B : World} (h : Below A.heap.size A B) {l : Nat} {o : Obj} (hl : A.heap[l]? = some o) : B.heap[l]? = some o :=
  (h.block l (Array.getElem?_eq_some_iff.1 hl).1).trans hl
/-- How the body of a round may be left, the iterator's part done. -/
theorem wpIn_rangeKp {α : Type} {F : Fence} {n : Nat} {P : Program} {g : Operand} {ps : Array Tmp} {assign body : Code} {Q : Exit → Act → World → Prop} {a : Act} {w : World}
    (hro : F.round = none) (h1 : 1 ≤ n) {gf : Nat} {lb : Array Value} (hg : a.eval g = .func (.func gf) #[] lb) (hFg : F.fn gf) (eg : ∀ args w, (callFunc gf args).run P w = .ok (.enter gf args) w)
    {encs : α → Array Value} {Kp : World → World → Prop} {S : List α → Prop} {Fit : List α → α → World → World → Prop} {w0 : World} (hseq : SeqKp F (n - 1) P gf lb encs Kp S Fit w0) (hb0 : Below w0.heap.size w0 w) (hKp : Keeping Kp) (hps : ∀ x, (encs x).size = ps.size)
    (hFit : ∀ pre x A B l o o', Fit pre x A B → A.heap[l]? = some o → o.isCells = false → Fit pre x (A.putObj l o') (B.putObj l o'))
    (I : List α → World → Prop) (Ix : Code → List α → World → Prop) (hI : OwnFrom w.heap.size I) (hIx : ∀ c, OwnFrom w.heap.size (Ix c)) (h0 : I [] w)
    (hround : ∀ (l : Nat) (pre : List α) (x : α) (Wp W : World), I pre Wp → Below Wp.heap.size Wp W → Fit pre x Wp W → ∃ a₁ : Act,
      (∀ (W0 : World) (K : Act → World → Prop), K a₁ W0 → assign.wpIn (F.inRound l) (n - 1 - 1) P (Exit.then K (fun _ _ _ => False)) { tmps := (ps.zip (encs x)).foldl (fun t (p, v) => t.setIfInBounds p v) a.tmps, defers := [] } W0) ∧
      body.wpIn (F.inRound l) (n - 1 - 1) P (ownPostK Kp I Ix (pre ++ [x]) W) a₁ W)
    (hdone : ∀ (D : Nat) (xs : List α) (W : World), w.heap.size ≤ D → S xs → I xs W → W.heap[D]? = some (.deferred (some [])) → Q .normal { a with defers := { target := .collected D, args := #[] } :: a.defers } W)
    (hstop : ∀ (D : Nat) (c : Code) (pre : List α) (W : World), w.heap.size ≤ D → Ix c pre W → W.heap[D]? = some (.deferred (some [])) → c.wpIn F n P Q { a with defers := { target := .collected D, args := #[] } :: a.defers } W) :
    (Code.rangeFunc g ps assign body).wpIn F n P Q a w := by
  refine wpIn_rangeFunc fun fn hfn => ?_
  rw [hro]
  -- the loop's record, in whatever state
  let lp : LoopState → Option Code → Loop := fun st pe => { state := st, pending := pe, fn := fn, tmps := a.tmps, params := ps, assign := assign, body := body, defers := w.heap.size }
  let D := w.heap.size
  let l := w.heap.size + 1
  let W1 := (w.alloc (.deferred (some []))).alloc (.loop (lp .ready none))
  have eL : W1.heap[l]? = some (.loop (lp .ready none)) := by
    have h := World.alloc_heap_new (w.alloc (.deferred (some []))) (.loop (lp .ready none))
    rwa [World.size_alloc] at h
  have eD : W1.heap[D]? = some (.deferred (some [])) := (Below.heap_alloc _ _ _ (by simp [D])).trans (World.alloc_heap_new w _)
  have bw : Below w.heap.size w W1 := ((Below.refl _ w).alloc (Nat.le_refl _) _).alloc (by simp) _
  have grow : ∀ {β : Type} {J : β → World → Prop}, OwnFrom w.heap.size J → ∀ s A B, J s A → Below A.heap.size A B → J s B :=
    fun hJ s A B hs hb => hJ s A B none hs (grownBy_below hb) (fun r e => by cases e)
  have ltl : l < W1.heap.size := (Array.getElem?_eq_some_iff.1 eL).1
  have ltD : D < W1.heap.size := (Array.getElem?_eq_some_iff.1 eD).1
  refine ⟨l, [{ target := .collected D, args := #[] }], W1, { target := .fn (.func gf) lb, args := #[.func (.yield l) #[] #[]] }, W1, gf, #[.func (.yield l) #[] #[]] ++ lb, W1, run_enterLoop_outer _ _ _ _ _, ?_, ?_, ?_, fun _ => h1, ?_⟩
  · simp only [resolve, hg]
    simp [go_sem]
  · intro f' hf'
    simp [Target.leads] at hf'
    subst hf'
    exact hFg
  · simp [invoke, go_sem, eg]
  refine (hseq l (fun pre W => I pre W ∧ W.heap[l]? = some (.loop (lp .ready none)) ∧ W.heap[D]? = some (.deferred (some [])))
    (fun pre W => ∃ c, Ix c pre W ∧ W.heap[l]? = some (.loop (lp .done (some c))) ∧ W.heap[D]? = some (.deferred (some []))) W1 (hb0.trans (bw.mono hb0.size))
    (fun s A B row hs hg hr => ⟨hI s A B row hs.1 hg (fun q e => ⟨Nat.le_trans bw.size (hr q e).1, (hr q e).2⟩), (hg.block l (Array.getElem?_eq_some_iff.1 hs.2.1).1 (fun e => Nat.lt_irrefl _ (Nat.lt_of_lt_of_le ltl (hr l e.symm).1))).trans hs.2.1, (hg.block D (Array.getElem?_eq_some_iff.1 hs.2.2).1 (fun e => Nat.lt_irrefl _ (Nat.lt_of_lt_of_le ltD (hr D e.symm).1))).trans hs.2.2⟩)
    (fun s A B row ⟨c, hs, hl, hd⟩ hg hr => ⟨c, hIx c s A B row hs hg (fun q e => ⟨Nat.le_trans bw.size (hr q e).1, (hr q e).2⟩), (hg.block l (Array.getElem?_eq_some_iff.1 hl).1 (fun e => Nat.lt_irrefl _ (Nat.lt_of_lt_of_le ltl (hr l e.symm).1))).trans hl, (hg.block D (Array.getElem?_eq_some_iff.1 hd).1 (fun e => Nat.lt_irrefl _ (Nat.lt_of_lt_of_le ltD (hr D e.symm).1))).trans hd⟩) ?_ ⟨grow hI [] w W1 h0 bw, eL, eD⟩).mono ?_
  · rintro pre x Wp W ⟨hj, hl, hd⟩ hb hf
    have hlW := heap_grows hb hl
    have hdW := heap_grows hb hd
    have hlt : l < Wp.heap.size := (Array.getElem?_eq_some_iff.1 hl).1
    have hltW : l < W.heap.size := Nat.lt_of_lt_of_le hlt hb.size
    let bz : Obj := .loop { lp .ready none with state := .busy }
    have hy := run_yield (P := P) (args := encs x) hlW (hps x)
    obtain ⟨a₁, hassign, hbody⟩ := hround l pre x (Wp.putObj l bz) (W.putObj l bz) (hI.putObj _ hj (by simp [l]) hl rfl) (below_putBoth hb l bz) (hFit pre x Wp W l _ bz hf hl rfl)
    refine ⟨fn, _, assign, body, hy, roundIn_of_wpIn hfn (hassign W _ ⟨W.putObj l bz, run_beginRound hlW rfl, ?_⟩)⟩
    have hlB : (W.putObj l bz).heap[l]? = some bz := World.putObj_heap_same hltW
    have hdB : (W.putObj l bz).heap[D]? = some (.deferred (some [])) := (World.putObj_heap_other (by simp [D, l])).trans hdW
    refine wpIn_mono hbody ?_
    have fin : ∀ (jump : Option Code) (W3 : World), KeepsOthers (W.putObj l bz) W3 →
        (Instr.endRound l jump).run P W3 = .ok (.bool jump.isNone) (W3.putObj l (.loop (lp (if jump.isNone then .ready else .done) jump))) ∧
        W3.heap[l]? = some bz ∧ (W3.putObj l (.loop (lp (if jump.isNone then .ready else .done) jump))).heap[l]? = some (.loop (lp (if jump.isNone then .ready else .done) jump)) ∧
        (W3.putObj l (.loop (lp (if jump.isNone then .ready else .done) jump))).heap[D]? = some (.deferred (some [])) := by
      intro jump W3 hk
      have h3 := hk.same _ _ hlB rfl
      exact ⟨run_endRound (P := P) jump h3, h3, World.putObj_heap_same (Array.getElem?_eq_some_iff.1 h3).1, (World.putObj_heap_other (by simp [D, l])).trans (hk.same _ _ hdB rfl)⟩
    have leave : ∀ (c : Code) (W3 : World), KeepsOthers (W.putObj l bz) W3 → Ix c (pre ++ [x]) W3 →
        ∃ v W4, (Instr.endRound l (some c)).run P W3 = .ok v W4 ∧ ((Ending.returned v = .returned (.bool true) ∧ (I (pre ++ [x]) W4 ∧ W4.heap[l]? = some (.loop (lp .ready none)) ∧ W4.heap[D]? = some (.deferred (some []))) ∧ Kp W W4) ∨
          (Ending.returned v = .returned (.bool false) ∧ ∃ c, Ix c (pre ++ [x]) W4 ∧ W4.heap[l]? = some (.loop (lp .done (some c))) ∧ W4.heap[D]? = some (.deferred (some [])))) := by
      intro c W3 hk hx
      obtain ⟨hr, h3, h4, h5⟩ := fin (some c) W3 hk
      exact ⟨_, _, hr, .inr ⟨rfl, c, (hIx c).putObj _ hx (by simp [l]) h3 rfl, h4, h5⟩⟩
    intro e a3 W3 hp
    cases e with
    | normal =>
      obtain ⟨hk, hB, hi3⟩ := hp
      obtain ⟨hr, h3, h4, h5⟩ := fin none W3 hk
      have hB2 : Kp W (W.putObj l bz) := hKp.put W l _ bz hlW
      exact ⟨_, _, hr, .inl ⟨rfl, ⟨hI.putObj _ hi3 (by simp [l]) h3 rfl, h4, h5⟩, hKp.trans _ _ _ (hKp.trans _ _ _ hB2 hB) (hKp.put W3 l _ _ h3)⟩⟩
    | ret => exact leave .ret W3 hp.1 hp.2
    | exit id => exact leave (.exit id) W3 hp.1 hp.2
    | goto t => exact leave (.goto t) W3 hp.1 hp.2
    | panic ch => exact hp.elim
    | outgrown => exact hp.elim
  · rintro e W2 ⟨⟨v, rfl⟩, ⟨xs, hS, hj, hl, hd⟩ | ⟨pre, c, hj, hl, hd⟩⟩
    · exact ⟨none, _, run_endLoop (P := P) hl (by simp [lp]), hdone D xs _ (Nat.le_refl _) hS (hI.putObj _ hj (by simp [l]) hl rfl) ((World.putObj_heap_other (by simp [D, l])).trans hd)⟩
    · exact ⟨some c, _, run_endLoop (P := P) hl (by simp [lp]), hstop D c pre _ (Nat.le_refl _) ((hIx c).putObj _ hj (by simp [l]) hl rfl) ((World.putObj_heap_other (by simp [D, l])).trans hd)⟩
end Go.Proofs.Ytnloglecfbhpcaa
