/- A Cutter that takes bytes, step by step: what stays. -/
import Derived.Test.YtamajnaeladehaaDoorGW2
namespace Go.Proofs.YtamajnaeladehaaDoor
set_option linter.unusedVariables false
set_option linter.unusedSimpArgs false
open Go.RowKit

/-- Between two steps of Write. w0: as it began; hv0, bh0, bn0: what was held then, and the closure's two cells. -/
structure WrB (w0 w : World) (B z : Nat) (mn me mx : Int) (hv0 : Value) (bh0 bn0 : Nat) (vw : Value) (vals : List Value) (ps : List (List UInt8)) (hv : Value) (cs : List UInt8) (bh bn br b4 b5 h n : Nat) : Prop where
  blk : Blk w z (cuL mn me mx (endV bh bn br b4 b5) hv false) 76
  low : B ≤ z
  own : OwnsB w B hv cs
  es : EndSt w B bh bn br b4 b5 mn me mx h n
  apz : z ≠ bh ∧ z ≠ bn ∧ z ≠ br ∧ z ≠ b4 ∧ z ≠ b5
  aph : ∀ g, hv.ownBlock = some g → g ≠ z ∧ g ≠ bh ∧ g ≠ bn ∧ g ≠ br ∧ g ≠ b4 ∧ g ≠ b5
  ch : Ch w0 w (fun k => k = z ∨ k = bh0 ∨ k = bn0 ∨ hv0.ownBlock = some k)
  row : w.ownsRow w0.heap.size 24 1 vw ps.length vals
  pc : Pcs w B vals ps (fun g => g ≠ z ∧ g ≠ bh ∧ g ≠ bn ∧ g ≠ br ∧ g ≠ b4 ∧ g ≠ b5 ∧ hv.ownBlock ≠ some g ∧ vw.ownBlock ≠ some g ∧ (hv0.ownBlock = some g ∨ w0.heap.size ≤ g))
  cl : (bh = bh0 ∧ bn = bn0) ∨ (w0.heap.size ≤ bh ∧ w0.heap.size ≤ bn)
  hl : ∀ g, hv.ownBlock = some g → hv0.ownBlock = some g ∨ w0.heap.size ≤ g
  rl : ∀ g, vw.ownBlock = some g → g ≠ z ∧ g ≠ bh ∧ g ≠ bn ∧ g ≠ br ∧ g ≠ b4 ∧ g ≠ b5 ∧ hv.ownBlock ≠ some g
  wz : z < w0.heap.size
theorem Ch.trans' {a b c : World} {S S' : Nat → Prop} (h : Ch a b S) (k : Ch b c S') (hs : ∀ i, i < a.heap.size → S' i → S i) : Ch a c S :=
  ⟨k.os.trans h.os, k.tape.trans h.tape, k.output.trans h.output, Nat.le_trans h.size k.size, fun i hi hS => (k.block i (Nat.lt_of_lt_of_le hi h.size) (fun e => hS (hs i hi e))).trans (h.block i hi hS)⟩
section
variable {w0 w w' : World} {B z : Nat} {mn me mx : Int} {hv0 : Value} {bh0 bn0 : Nat} {vw : Value} {vals : List Value} {ps : List (List UInt8)} {hv : Value} {cs : List UInt8} {bh bn br b4 b5 h n : Nat}
/-- New blocks alone. -/
theorem WrB.below (W : WrB w0 w B z mn me mx hv0 bh0 bn0 vw vals ps hv cs bh bn br b4 b5 h n) (hb : Below w.heap.size w w') : WrB w0 w' B z mn me mx hv0 bh0 bn0 vw vals ps hv cs bh bn br b4 b5 h n :=
  ⟨W.blk.below hb W.blk.lt, W.low, owns_below W.own hb, W.es.below hb, W.apz, W.aph, W.ch.trans (Ch.ofBelow hb _), owns_below W.row hb, W.pc.same (fun g hg _ => hb.block g hg), W.cl, W.hl, W.rl, W.wz⟩
/-- The held row has been grown, and the Cutter told of it. -/
theorem WrB.held {hv' : Value} {cs' : List UInt8} {w3 : World} (W : WrB w0 w B z mn me mx hv0 bh0 bn0 vw vals ps hv cs bh bn br b4 b5 h n) (ho : OwnsB w' B hv' cs') (hg : w.grownBy w' hv.ownBlock) (hx : hv'.ownBlock = hv.ownBlock ∨ hv'.ownBlock = some w.heap.size) (e3 : w3 = w'.setCell ⟨z, 4, none⟩ hv') :
    WrB w0 w3 B z mn me mx hv0 bh0 bn0 vw vals ps hv' cs' bh bn br b4 b5 h n := by
  have hC : Ch w w3 (fun k => k = z ∨ hv.ownBlock = some k) := by
    rw [e3]
    exact ((Ch.ofGrown hg).mono (fun k _ e => .inr e)).trans ((Ch.ofSet w' z 4 hv').mono (fun k _ e => .inl e))
  have hz : z < w.heap.size := W.blk.lt
  have hzs : Same w w' z := hg.block z hz (fun e => (W.aph z e.symm).1 rfl)
  have hnew : ∀ g, hv'.ownBlock = some g → hv.ownBlock = some g ∨ w.heap.size ≤ g := fun g e => by
    rcases hx with hx | hx
    · exact .inl (hx ▸ e)
    · rw [hx] at e; have := Option.some.inj e; exact .inr (by omega)
  have E := W.es
  have l1 := E.hh.lt; have l2 := E.hn.lt; have l3 := E.hr.lt; have l4 := E.h4.lt; have l5 := E.h5.lt
  have hap' : ∀ g, hv'.ownBlock = some g → g ≠ z ∧ g ≠ bh ∧ g ≠ bn ∧ g ≠ br ∧ g ≠ b4 ∧ g ≠ b5 := fun g e => by
    rcases hnew g e with q | q
    · exact W.aph g q
    · omega
  have sm : ∀ k, k < w.heap.size → k ≠ z → hv.ownBlock ≠ some k → Same w w3 k := fun k hk h1 h2 => hC.block k hk (fun e => e.elim h1 h2)
  have hs0 := W.ch.size
  refine ⟨?_, W.low, ?_, ?_, W.apz, hap', W.ch.trans' hC ?_, ?_, ?_, W.cl, ?_, ?_, W.wz⟩
  · rw [e3]
    have := (W.blk.same hzs).set 4 hv'
    exact this
  · rw [e3]
    exact owns_same ho (fun g e => heap_setCell_other w' _ g hv' (hap' g e).1)
  · exact E.same (sm _ l1 W.apz.1.symm (fun e => (W.aph _ e).2.1 rfl)) (sm _ l2 W.apz.2.1.symm (fun e => (W.aph _ e).2.2.1 rfl)) (sm _ l3 W.apz.2.2.1.symm (fun e => (W.aph _ e).2.2.2.1 rfl)) (sm _ l4 W.apz.2.2.2.1.symm (fun e => (W.aph _ e).2.2.2.2.1 rfl)) (sm _ l5 W.apz.2.2.2.2.symm (fun e => (W.aph _ e).2.2.2.2.2 rfl))
  · intro k hk e
    rcases e with e | e
    · exact .inl e
    · rcases W.hl k e with q | q
      · exact .inr (.inr (.inr q))
      · omega
  · exact owns_same W.row (fun g e => sm g (owns_lt W.row g e).2 (W.rl g e).1 (W.rl g e).2.2.2.2.2.2)
  · refine ((W.pc.mono (N' := fun g => (g ≠ z ∧ g ≠ bh ∧ g ≠ bn ∧ g ≠ br ∧ g ≠ b4 ∧ g ≠ b5 ∧ hv.ownBlock ≠ some g ∧ vw.ownBlock ≠ some g ∧ (hv0.ownBlock = some g ∨ w0.heap.size ≤ g)) ∧ hv'.ownBlock ≠ some g) (fun g hg hN => ⟨hN, fun e => ?_⟩)).same (fun g hg hN => sm g hg hN.1.1 hN.1.2.2.2.2.2.2.1)).mono (fun g hg hN => ⟨hN.1.1, hN.1.2.1, hN.1.2.2.1, hN.1.2.2.2.1, hN.1.2.2.2.2.1, hN.1.2.2.2.2.2.1, hN.2, hN.1.2.2.2.2.2.2.2.1, hN.1.2.2.2.2.2.2.2.2⟩)
    rcases hnew g e with q | q
    · exact hN.2.2.2.2.2.2.1 q
    · omega
  · intro g e
    rcases hnew g e with q | q
    · exact W.hl g q
    · exact .inr (by omega)
  · intro g e
    have r := W.rl g e
    refine ⟨r.1, r.2.1, r.2.2.1, r.2.2.2.1, r.2.2.2.2.1, r.2.2.2.2.2.1, fun e2 => ?_⟩
    rcases hnew g e2 with q | q
    · exact r.2.2.2.2.2.2 q
    · have := (owns_lt W.row g e).2; omega
/-- The closure has been asked. -/
theorem WrB.turn {h' n' : Nat} (W : WrB w0 w B z mn me mx hv0 bh0 bn0 vw vals ps hv cs bh bn br b4 b5 h n) (ht : Turn2 w w' bh bn) (E : EndSt w' B bh bn br b4 b5 mn me mx h' n') : WrB w0 w' B z mn me mx hv0 bh0 bn0 vw vals ps hv cs bh bn br b4 b5 h' n' := by
  have hs0 := W.ch.size
  refine ⟨W.blk.turn2 ht W.apz.1 W.apz.2.1, W.low, owns_same W.own (fun g e => ht.block g (W.aph g e).2.1 (W.aph g e).2.2.1), E, W.apz, W.aph, W.ch.trans' (Ch.ofTurn ht) ?_, owns_same W.row (fun g e => ht.block g (W.rl g e).2.1 (W.rl g e).2.2.1), W.pc.same (fun g hg hN => ht.block g hN.2.1 hN.2.2.1), W.cl, W.hl, W.rl, W.wz⟩
  intro k hk e
  rcases W.cl with ⟨c1, c2⟩ | ⟨c1, c2⟩
  · rcases e with e | e
    · exact .inr (.inl (by omega))
    · exact .inr (.inr (.inl (by omega)))
  · rcases e with e | e <;> omega
/-- What was held is handed out. -/
theorem WrB.give (W : WrB w0 w B z mn me mx hv0 bh0 bn0 vw vals ps hv cs bh bn br b4 b5 h n) (e3 : w' = w.setCell ⟨z, 4, none⟩ (.slice none 0 0)) :
    WrB w0 w' B z mn me mx hv0 bh0 bn0 vw vals ps (.slice none 0 0) [] bh bn br b4 b5 h n ∧ OwnsB w' B hv cs ∧ (∀ g, hv.ownBlock = some g → g ≠ z ∧ g ≠ bh ∧ g ≠ bn ∧ g ≠ br ∧ g ≠ b4 ∧ g ≠ b5 ∧ vw.ownBlock ≠ some g ∧ (hv0.ownBlock = some g ∨ w0.heap.size ≤ g)) := by
  have hC : Ch w w' (fun k => k = z) := by rw [e3]; exact Ch.ofSet w z 4 _
  have sm : ∀ k, k ≠ z → Same w w' k := fun k hk => by rw [e3]; exact heap_setCell_other w _ k _ hk
  have E := W.es
  refine ⟨⟨?_, W.low, World.ownsRow_nil _ _ _ _, E.same (sm _ W.apz.1.symm) (sm _ W.apz.2.1.symm) (sm _ W.apz.2.2.1.symm) (sm _ W.apz.2.2.2.1.symm) (sm _ W.apz.2.2.2.2.symm), W.apz, (fun g e => by cases e), W.ch.trans' hC (fun k _ e => .inl e), owns_same W.row (fun g e => sm g (W.rl g e).1), ?_, W.cl, (fun g e => by cases e), fun g e => ?_, W.wz⟩, owns_same W.own (fun g e => sm g (W.aph g e).1), fun g e => ?_⟩
  · rw [e3]; exact W.blk.set 4 _
  · exact (W.pc.same (fun g hg hN => sm g hN.1)).mono (fun g hg hN => ⟨hN.1, hN.2.1, hN.2.2.1, hN.2.2.2.1, hN.2.2.2.2.1, hN.2.2.2.2.2.1, (fun e => by cases e), hN.2.2.2.2.2.2.2.1, hN.2.2.2.2.2.2.2.2⟩)
  · have r := W.rl g e
    exact ⟨r.1, r.2.1, r.2.2.1, r.2.2.2.1, r.2.2.2.2.1, r.2.2.2.2.2.1, (fun e => by cases e)⟩
  · have a := W.aph g e
    exact ⟨a.1, a.2.1, a.2.2.1, a.2.2.2.1, a.2.2.2.2.1, a.2.2.2.2.2, fun e2 => (W.rl g e2).2.2.2.2.2.2 e, W.hl g e⟩
/-- A piece has been put behind the others. -/
theorem WrB.push {pv vw' : Value} {p : List UInt8} (W : WrB w0 w B z mn me mx hv0 bh0 bn0 vw vals ps (.slice none 0 0) [] bh bn br b4 b5 h n) (hp : OwnsB w B pv p) (hq : ∀ g, pv.ownBlock = some g → g ≠ z ∧ g ≠ bh ∧ g ≠ bn ∧ g ≠ br ∧ g ≠ b4 ∧ g ≠ b5 ∧ vw.ownBlock ≠ some g ∧ (hv0.ownBlock = some g ∨ w0.heap.size ≤ g))
    (ho : w'.ownsRow w0.heap.size 24 1 vw' (ps ++ [p]).length (vals ++ [pv])) (hg : w.grownBy w' vw.ownBlock) (hx : vw'.ownBlock = vw.ownBlock ∨ vw'.ownBlock = some w.heap.size) :
    WrB w0 w' B z mn me mx hv0 bh0 bn0 vw' (vals ++ [pv]) (ps ++ [p]) (.slice none 0 0) [] bh bn br b4 b5 h n := by
  have sm : ∀ k, k < w.heap.size → vw.ownBlock ≠ some k → Same w w' k := fun k hk hn => hg.block k hk (fun e => hn e.symm)
  have E := W.es
  have l1 := E.hh.lt; have l2 := E.hn.lt; have l3 := E.hr.lt; have l4 := E.h4.lt; have l5 := E.h5.lt
  have lz := W.blk.lt
  have hnew : ∀ g, vw'.ownBlock = some g → vw.ownBlock = some g ∨ w.heap.size ≤ g := fun g e => by
    rcases hx with hx | hx
    · exact .inl (hx ▸ e)
    · rw [hx] at e; have := Option.some.inj e; exact .inr (by omega)
  have hs0 := W.ch.size
  refine ⟨W.blk.same (sm z lz (fun e => (W.rl z e).1 rfl)), W.low, World.ownsRow_nil _ _ _ _, E.same (sm _ l1 (fun e => (W.rl _ e).2.1 rfl)) (sm _ l2 (fun e => (W.rl _ e).2.2.1 rfl)) (sm _ l3 (fun e => (W.rl _ e).2.2.2.1 rfl)) (sm _ l4 (fun e => (W.rl _ e).2.2.2.2.1 rfl)) (sm _ l5 (fun e => (W.rl _ e).2.2.2.2.2.1 rfl)), W.apz, (fun g e => by cases e), W.ch.trans' (Ch.ofGrown hg) ?_, ho, ?_, W.cl, (fun g e => by cases e), fun g e => ?_, W.wz⟩
  · intro k hk e
    have := (owns_lt W.row k e).1
    omega
  · have h1 := W.pc.snoc hp (fun g e => ⟨(hq g e).1, (hq g e).2.1, (hq g e).2.2.1, (hq g e).2.2.2.1, (hq g e).2.2.2.2.1, (hq g e).2.2.2.2.2.1, (fun e => by cases e), (hq g e).2.2.2.2.2.2.1, (hq g e).2.2.2.2.2.2.2⟩)
    have h2 := h1.mono (N' := fun g => (g ≠ z ∧ g ≠ bh ∧ g ≠ bn ∧ g ≠ br ∧ g ≠ b4 ∧ g ≠ b5 ∧ (Value.slice none 0 0).ownBlock ≠ some g ∧ vw.ownBlock ≠ some g ∧ (hv0.ownBlock = some g ∨ w0.heap.size ≤ g)) ∧ vw'.ownBlock ≠ some g) (fun g hg hN => ⟨hN, fun e => by
      rcases hnew g e with q | q
      · exact hN.2.2.2.2.2.2.2.1 q
      · omega⟩)
    exact (h2.same (fun g hg hN => sm g hg hN.1.2.2.2.2.2.2.2.1)).mono (fun g hg hN => ⟨hN.1.1, hN.1.2.1, hN.1.2.2.1, hN.1.2.2.2.1, hN.1.2.2.2.2.1, hN.1.2.2.2.2.2.1, hN.1.2.2.2.2.2.2.1, hN.2, hN.1.2.2.2.2.2.2.2.2⟩)
  · rcases hnew g e with q | q
    · have r := W.rl g q
      exact ⟨r.1, r.2.1, r.2.2.1, r.2.2.2.1, r.2.2.2.2.1, r.2.2.2.2.2.1, (fun e => by cases e)⟩
    · exact ⟨by omega, by omega, by omega, by omega, by omega, by omega, (fun e => by cases e)⟩
/-- Another closure has been made, and the Cutter told of it. -/
theorem WrB.renew {bh' bn' br' b4' b5' : Nat} {w3 : World} (W : WrB w0 w B z mn me mx hv0 bh0 bn0 vw vals ps (.slice none 0 0) [] bh bn br b4 b5 h n) (hb : Below w.heap.size w w') (E : EndSt w' w.heap.size bh' bn' br' b4' b5' mn me mx 0 0) (e3 : w3 = w'.setCell ⟨z, 3, none⟩ (endV bh' bn' br' b4' b5')) :
    WrB w0 w3 B z mn me mx hv0 bh0 bn0 vw vals ps (.slice none 0 0) [] bh' bn' br' b4' b5' 0 0 := by
  have V := W.below hb
  have hC : Ch w' w3 (fun k => k = z) := by rw [e3]; exact Ch.ofSet w' z 3 _
  have sm : ∀ k, k ≠ z → Same w' w3 k := fun k hk => by rw [e3]; exact heap_setCell_other w' _ k _ hk
  have lz := W.blk.lt
  have lo := E.low
  have hs0 := W.ch.size
  have hlow : B ≤ w.heap.size := Nat.le_trans W.low (Nat.le_of_lt lz)
  refine ⟨?_, W.low, World.ownsRow_nil _ _ _ _, (E.same (sm _ (by omega)) (sm _ (by omega)) (sm _ (by omega)) (sm _ (by omega)) (sm _ (by omega))).base hlow, by omega, (fun g e => by cases e), V.ch.trans' hC (fun k _ e => .inl e), owns_same V.row (fun g e => sm g (W.rl g e).1), ?_, .inr ⟨by omega, by omega⟩, (fun g e => by cases e), fun g e => ?_, W.wz⟩
  · rw [e3]
    have := V.blk.set 3 (endV bh' bn' br' b4' b5')
    exact this
  · have h1 := W.pc.mono (N' := fun g => g < w.heap.size ∧ g ≠ z ∧ vw.ownBlock ≠ some g ∧ (hv0.ownBlock = some g ∨ w0.heap.size ≤ g)) (fun g hg hN => ⟨hg, hN.1, hN.2.2.2.2.2.2.2.1, hN.2.2.2.2.2.2.2.2⟩)
    have h2 := (h1.same (fun g hg _ => hb.block g hg)).same (w' := w3) (fun g _ hN => sm g hN.2.1)
    exact h2.mono (fun g _ hN => ⟨hN.2.1, by omega, by omega, by omega, by omega, by omega, (fun e => by cases e), hN.2.2.1, hN.2.2.2⟩)
  · have := (owns_lt W.row g e).2
    exact ⟨(W.rl g e).1, by omega, by omega, by omega, by omega, by omega, (fun e => by cases e)⟩
end
end Go.Proofs.YtamajnaeladehaaDoor
