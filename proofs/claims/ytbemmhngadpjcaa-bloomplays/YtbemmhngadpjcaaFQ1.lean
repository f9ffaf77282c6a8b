/- BloomPlays: a filter beside the document's; two such pairs. -/
import Derived.Test.YtbemmhngadpjcaaFP11
namespace Go.Proofs.Ytbemmhngadpjcaa
set_option linter.unusedVariables false
set_option linter.unusedSimpArgs false
open Go.RowKit

/-- A filter and the document's: where they lie, hashes, the words of the one, and those of which the other one's bits are. -/
structure Sl where
  zf : Nat
  gf : Nat
  zr : Nat
  gr : Nat
  c : Nat
  h : Nat
  ws : List Nat
  us : List Nat
def ptF : Option Sl → Option Addr
  | none => none
  | some s => some ⟨s.zf, 0, none⟩
def ptR : Option Sl → Option Addr
  | none => none
  | some s => some ⟨s.zr, 0, none⟩
def slF (s : Option Sl) : Value := .pointer (ptF s)
def slR (s : Option Sl) : Value := .pointer (ptR s)
structure SlOk (w : World) (s : Sl) : Prop where
  f : FilAt w s.zf s.gf s.h s.ws
  r : RB w s.zr s.gr s.c s.h (bitsL s.us)
def okO (w : World) : Option Sl → Prop
  | none => True
  | some s => SlOk w s
def apO : Option Sl → Option Sl → Prop
  | some s, some t => s.gf ≠ t.gf ∧ s.zr ≠ t.zr ∧ s.gr ≠ t.gr
  | _, _ => True
def loO (B : Nat) : Option Sl → Prop
  | none => True
  | some s => B ≤ s.gf ∧ B ≤ s.zr ∧ B ≤ s.gr
def syO : Option Sl → Prop
  | none => True
  | some s => s.ws = s.us
theorem SlOk.below {w w' : World} {s : Sl} (k : SlOk w s) (hb : Below w.heap.size w w') : SlOk w' s := ⟨k.f.below hb, k.r.below hb⟩
theorem okO_below {w w' : World} {s : Option Sl} (k : okO w s) (hb : Below w.heap.size w w') : okO w' s := by
  cases s with
  | none => trivial
  | some s => exact SlOk.below k hb
theorem SlOk.lts {w : World} {s : Sl} (k : SlOk w s) : s.zf < w.heap.size ∧ s.gf < w.heap.size ∧ s.zr < w.heap.size ∧ s.gr < w.heap.size := ⟨k.f.zb.lt, k.f.gb.lt, k.r.zb.lt, k.r.glt⟩
/-- Two pairs that lie apart, in new memory. -/
structure PQ (w0 w : World) (s t : Option Sl) : Prop where
  a : okO w s
  b : okO w t
  ap : apO s t
  la : loO w0.heap.size s
  lb : loO w0.heap.size t
  bel : Below w0.heap.size w0 w
theorem PQ.below {w0 w w' : World} {s t : Option Sl} (p : PQ w0 w s t) (hb : Below w.heap.size w w') : PQ w0 w' s t :=
  ⟨okO_below p.a hb, okO_below p.b hb, p.ap, p.la, p.lb, p.bel.trans (hb.mono p.bel.size)⟩
theorem apO_symm {s t : Option Sl} (h : apO s t) : apO t s := by
  cases s <;> cases t
  · trivial
  · trivial
  · trivial
  · exact ⟨h.1.symm, h.2.1.symm, h.2.2.symm⟩
theorem PQ.symm {w0 w : World} {s t : Option Sl} (p : PQ w0 w s t) : PQ w0 w t s := ⟨p.b, p.a, apO_symm p.ap, p.lb, p.la, p.bel⟩
theorem snn {a b : Nat} (h : a ≠ b) : some a ≠ some b := fun e => h (Option.some.inj e)
theorem RB.gb' {w : World} {z g c h : Nat} {bs : List Bool} (f : RB w z g c h bs) : ∃ cur, Blk w g cur 4 := by
  obtain ⟨cur, hB, _⟩ := f.gb
  exact ⟨cur, hB⟩
theorem SlOk.grownU {w w' : World} {t : Sl} {g : Nat} {cs : Array Value} (k : SlOk w t) (hg : w.grownBy w' (some g)) (hB : Blk w g cs 80) (hne : t.gf ≠ g) : SlOk w' t := by
  obtain ⟨cur, hc⟩ := k.r.gb'
  exact ⟨k.f.grown hg (snn (blk_ne k.f.zb hB (by decide))) (snn hne), k.r.grown hg (snn (blk_ne k.r.zb hB (by decide))) (snn (blk_ne hc hB (by decide)))⟩
theorem SlOk.grownO {w w' : World} {t : Sl} {g : Nat} {cs : Array Value} (k : SlOk w t) (hg : w.grownBy w' (some g)) (hB : Blk w g cs 4) (hne : t.gr ≠ g) : SlOk w' t :=
  ⟨k.f.grown hg (snn (blk_ne k.f.zb hB (by decide))) (snn (blk_ne k.f.gb hB (by decide))), k.r.grown hg (snn (blk_ne k.r.zb hB (by decide))) (snn hne)⟩
theorem SlOk.grownZ {w w' : World} {t : Sl} {g : Nat} {cs : Array Value} (k : SlOk w t) (hg : w.grownBy w' (some g)) (hB : Blk w g cs 71) (hne : t.zr ≠ g) : SlOk w' t := by
  obtain ⟨cur, hc⟩ := k.r.gb'
  exact ⟨k.f.grown hg (snn (blk_ne k.f.zb hB (by decide))) (snn (blk_ne k.f.gb hB (by decide))), k.r.grown hg (snn hne) (snn (blk_ne hc hB (by decide)))⟩
section
variable {w0 w w' : World} {s : Sl} {t : Option Sl} {xs : List Nat}
theorem bel_grown {g : Nat} (p : PQ w0 w (some s) t) (hg : w.grownBy w' (some g)) (hl : w0.heap.size ≤ g) : Below w0.heap.size w0 w' := p.bel.trans (below_grownBy (B := w0.heap.size) hg hl p.bel.size)
theorem PQ.setF (p : PQ w0 w (some s) t) (hf : FilAt w' s.zf s.gf s.h xs) (hg : w.grownBy w' (some s.gf)) : PQ w0 w' (some { s with ws := xs }) t := by
  have ka : SlOk w s := p.a
  obtain ⟨cur, hc⟩ := ka.r.gb'
  refine ⟨⟨hf, ka.r.grown hg (snn (blk_ne ka.r.zb ka.f.gb (by decide))) (snn (blk_ne hc ka.f.gb (by decide)))⟩, ?_, ?_, p.la, p.lb, bel_grown p hg p.la.1⟩
  · cases t with
    | none => trivial
    | some t => exact SlOk.grownU p.b hg ka.f.gb p.ap.1.symm
  · cases t with
    | none => trivial
    | some t => exact p.ap
theorem PQ.setR (p : PQ w0 w (some s) t) (hf : RB w' s.zr s.gr s.c s.h (bitsL xs)) (hg : w.grownBy w' (some s.gr)) : PQ w0 w' (some { s with us := xs }) t := by
  have ka : SlOk w s := p.a
  obtain ⟨cur, hc⟩ := ka.r.gb'
  refine ⟨⟨ka.f.grown hg (snn (blk_ne ka.f.zb hc (by decide))) (snn (blk_ne ka.f.gb hc (by decide))), hf⟩, ?_, ?_, p.la, p.lb, bel_grown p hg p.la.2.2⟩
  · cases t with
    | none => trivial
    | some t => exact SlOk.grownO p.b hg hc p.ap.2.2.symm
  · cases t with
    | none => trivial
    | some t => exact p.ap
theorem PQ.setW {g' c' : Nat} (p : PQ w0 w (some s) t) (hf : RB w' s.zr g' c' s.h (bitsL xs)) (hg' : w.heap.size ≤ g') (hg : w.grownBy w' (some s.zr)) : PQ w0 w' (some { s with gr := g', c := c', us := xs }) t := by
  have ka : SlOk w s := p.a
  refine ⟨⟨ka.f.grown hg (snn (blk_ne ka.f.zb ka.r.zb (by decide))) (snn (blk_ne ka.f.gb ka.r.zb (by decide))), hf⟩, ?_, ?_, ⟨p.la.1, p.la.2.1, Nat.le_trans p.bel.size hg'⟩, p.lb, bel_grown p hg p.la.2.1⟩
  · cases t with
    | none => trivial
    | some t => exact SlOk.grownZ p.b hg ka.r.zb p.ap.2.1.symm
  · cases t with
    | none => trivial
    | some t =>
      have kb : SlOk w t := p.b
      refine ⟨p.ap.1, p.ap.2.1, fun e => ?_⟩
      have h1 := kb.lts.2.2.2
      have h2 : g' = t.gr := e
      omega
theorem PQ.setN {z' g' : Nat} (p : PQ w0 w (some s) t) (hf : FilAt w' z' g' s.h xs) (hg' : w.heap.size ≤ g') (hb : Below w.heap.size w w') : PQ w0 w' (some { s with zf := z', gf := g', ws := xs }) t := by
  have ka : SlOk w s := p.a
  refine ⟨⟨hf, ka.r.below hb⟩, okO_below p.b hb, ?_, ⟨Nat.le_trans p.bel.size hg', p.la.2⟩, p.lb, p.bel.trans (hb.mono p.bel.size)⟩
  cases t with
  | none => trivial
  | some t =>
    have kb : SlOk w t := p.b
    refine ⟨fun e => ?_, p.ap.2⟩
    have h1 := kb.lts.2.1
    have h2 : g' = t.gf := e
    omega
theorem PQ.made {s0 : Option Sl} {n : Sl} (p : PQ w0 w s0 t) (hb : Below w.heap.size w w') (hn : SlOk w' n) (hl : w.heap.size ≤ n.gf ∧ w.heap.size ≤ n.zr ∧ w.heap.size ≤ n.gr) : PQ w0 w' (some n) t := by
  refine ⟨hn, okO_below p.b hb, ?_, ⟨Nat.le_trans p.bel.size hl.1, Nat.le_trans p.bel.size hl.2.1, Nat.le_trans p.bel.size hl.2.2⟩, p.lb, p.bel.trans (hb.mono p.bel.size)⟩
  cases t with
  | none => trivial
  | some t =>
    have kb : SlOk w t := p.b
    have h1 := kb.lts
    refine ⟨fun e => ?_, fun e => ?_, fun e => ?_⟩ <;> omega
theorem PQ.gone {s0 : Option Sl} (p : PQ w0 w s0 t) (hb : Below w.heap.size w w') : PQ w0 w' none t :=
  ⟨trivial, okO_below p.b hb, by cases t <;> trivial, trivial, p.lb, p.bel.trans (hb.mono p.bel.size)⟩
end
/-! The row of both. -/
def cells2 : Nat → Option Sl → Option Sl → Array Value
  | 0, s, t => #[slF s, slR s, slF t, slR t]
  | _, s, t => #[slF t, slR t, slF s, slR s]
end Go.Proofs.Ytbemmhngadpjcaa
