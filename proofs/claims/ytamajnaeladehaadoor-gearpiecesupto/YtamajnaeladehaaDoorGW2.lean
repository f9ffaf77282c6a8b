/- Bytes fed to a Cutter, plainly; what stays where blocks are as they were. -/
import Derived.Test.YtamajnaeladehaaDoorGW1
namespace Go.Proofs.YtamajnaeladehaaDoor
set_option linter.unusedVariables false
set_option linter.unusedSimpArgs false
open Go.RowKit

/-- What bytes that come behind others make: the pieces that are whole, and what is held. -/
def feed (mn me mx : Int) : List UInt8 → List UInt8 → List (List UInt8) × List UInt8
  | hs, [] => ([], hs)
  | hs, x :: r => if endB mn me mx (rollL (hs ++ [x])) (hs.length + 1) then ((hs ++ [x]) :: (feed mn me mx [] r).1, (feed mn me mx [] r).2) else feed mn me mx (hs ++ [x]) r
theorem feed_append (mn me mx : Int) : ∀ (ys zs hs : List UInt8), feed mn me mx hs (ys ++ zs) = ((feed mn me mx hs ys).1 ++ (feed mn me mx (feed mn me mx hs ys).2 zs).1, (feed mn me mx (feed mn me mx hs ys).2 zs).2)
  | [], zs, hs => by rw [List.nil_append, feed]; rfl
  | y :: r, zs, hs => by
    rw [List.cons_append, feed, feed]
    split
    · rw [feed_append mn me mx r zs []]; rfl
    · rw [feed_append mn me mx r zs (hs ++ [y])]
theorem feed_one (mn me mx : Int) (hs : List UInt8) (x : UInt8) : feed mn me mx hs [x] = if endB mn me mx (rollL (hs ++ [x])) (hs.length + 1) then ([hs ++ [x]], []) else ([], hs ++ [x]) := by
  rw [feed]
  split <;> rfl
theorem feed_take (mn me mx : Int) (hs xs : List UInt8) (k : Nat) (h : k < xs.length) : feed mn me mx hs (xs.take (k + 1)) = if endB mn me mx (rollL ((feed mn me mx hs (xs.take k)).2 ++ [xs[k]])) ((feed mn me mx hs (xs.take k)).2.length + 1) then ((feed mn me mx hs (xs.take k)).1 ++ [(feed mn me mx hs (xs.take k)).2 ++ [xs[k]]], []) else ((feed mn me mx hs (xs.take k)).1, (feed mn me mx hs (xs.take k)).2 ++ [xs[k]]) := by
  rw [List.take_succ_eq_append_getElem h, feed_append, feed_one]
  split
  · rfl
  · rw [List.append_nil]
/-- A block is as it was. -/
def Same (w w' : World) (k : Nat) : Prop := w'.heap[k]? = w.heap[k]?
theorem Blk.same {w w' : World} {b : Nat} {cs : Array Value} {t : TypeId} (h : Blk w b cs t) (hs : Same w w' b) : Blk w' b cs t := hs.trans h
theorem EndSt.same {w w' : World} {base bh bn br b4 b5 : Nat} {mn me mx : Int} {h n : Nat} (E : EndSt w base bh bn br b4 b5 mn me mx h n) (h1 : Same w w' bh) (h2 : Same w w' bn) (h3 : Same w w' br) (h4 : Same w w' b4) (h5 : Same w w' b5) : EndSt w' base bh bn br b4 b5 mn me mx h n :=
  ⟨E.hh.same h1, E.hn.same h2, E.hr.same h3, E.h4.same h4, E.h5.same h5, E.apart, E.low⟩
theorem owns_same {w w' : World} {base : Nat} {e : TypeId} {v : Value} {n : Nat} {ys : List Value} (h : w.ownsRow base e 1 v n ys) (hs : ∀ g, v.ownBlock = some g → Same w w' g) : w'.ownsRow base e 1 v n ys := by
  obtain ⟨h0, h1 | ⟨g, cap, cur, rfl, hb, hh, hr⟩⟩ := h
  · exact ⟨h0, .inl h1⟩
  · exact ⟨h0, .inr ⟨g, cap, cur, rfl, hb, (hs g rfl).trans hh, hr⟩⟩
/-- Of the old blocks those alone of which S speaks may be others. -/
structure Ch (w w' : World) (S : Nat → Prop) : Prop where
  os : w'.os = w.os
  tape : w'.tape = w.tape
  output : w'.output = w.output
  size : w.heap.size ≤ w'.heap.size
  block : ∀ k, k < w.heap.size → ¬ S k → Same w w' k
theorem Ch.refl (w : World) (S : Nat → Prop) : Ch w w S := ⟨rfl, rfl, rfl, Nat.le_refl _, fun _ _ _ => rfl⟩
theorem Ch.trans {a b c : World} {S : Nat → Prop} (h : Ch a b S) (k : Ch b c S) : Ch a c S :=
  ⟨k.os.trans h.os, k.tape.trans h.tape, k.output.trans h.output, Nat.le_trans h.size k.size, fun i hi hS => (k.block i (Nat.lt_of_lt_of_le hi h.size) hS).trans (h.block i hi hS)⟩
theorem Ch.mono {a b : World} {S S' : Nat → Prop} (h : Ch a b S) (hs : ∀ k, k < a.heap.size → S k → S' k) : Ch a b S' := ⟨h.os, h.tape, h.output, h.size, fun k hk hn => h.block k hk (fun e => hn (hs k hk e))⟩
theorem Ch.ofBelow {a b : World} (h : Below a.heap.size a b) (S : Nat → Prop) : Ch a b S := ⟨h.os, h.tape, h.output, h.size, fun k hk _ => h.block k hk⟩
theorem Ch.ofGrown {a b : World} {r : Option Nat} (h : a.grownBy b r) : Ch a b (fun k => r = some k) := ⟨h.os, h.tape, h.output, h.size, fun k hk hn => h.block k hk (fun e => hn e.symm)⟩
theorem Ch.ofSet (w : World) (z i : Nat) (v : Value) : Ch w (w.setCell ⟨z, i, none⟩ v) (fun k => k = z) := ⟨rfl, rfl, rfl, by simp, fun k _ hn => heap_setCell_other w _ k v (fun e => hn e)⟩
theorem Ch.ofTurn {a b : World} {x y : Nat} (h : Turn2 a b x y) : Ch a b (fun k => k = x ∨ k = y) := ⟨h.os, h.tape, h.output, by rw [h.size]; exact Nat.le_refl _, fun k _ hn => h.block k (fun e => hn (.inl e)) (fun e => hn (.inr e))⟩
/-- Pieces, each in a row of its own. -/
def Pcs (w : World) (B : Nat) (vals : List Value) (ps : List (List UInt8)) (N : Nat → Prop) : Prop := vals.length = ps.length ∧ ∀ i (h : i < ps.length) v, vals[i]? = some v → OwnsB w B v ps[i] ∧ ∀ g, v.ownBlock = some g → N g
theorem Pcs.same {w w' : World} {B : Nat} {vals : List Value} {ps : List (List UInt8)} {N : Nat → Prop} (h : Pcs w B vals ps N) (hs : ∀ g, g < w.heap.size → N g → Same w w' g) : Pcs w' B vals ps N :=
  ⟨h.1, fun i hi v hv => ⟨owns_same (h.2 i hi v hv).1 (fun g e => hs g (owns_lt (h.2 i hi v hv).1 g e).2 ((h.2 i hi v hv).2 g e)), (h.2 i hi v hv).2⟩⟩
theorem Pcs.mono {w : World} {B : Nat} {vals : List Value} {ps : List (List UInt8)} {N N' : Nat → Prop} (h : Pcs w B vals ps N) (hs : ∀ g, g < w.heap.size → N g → N' g) : Pcs w B vals ps N' :=
  ⟨h.1, fun i hi v hv => ⟨(h.2 i hi v hv).1, fun g e => hs g (owns_lt (h.2 i hi v hv).1 g e).2 ((h.2 i hi v hv).2 g e)⟩⟩
theorem Pcs.snoc {w : World} {B : Nat} {vals : List Value} {ps : List (List UInt8)} {N : Nat → Prop} (h : Pcs w B vals ps N) {v : Value} {p : List UInt8} (ho : OwnsB w B v p) (hn : ∀ g, v.ownBlock = some g → N g) : Pcs w B (vals ++ [v]) (ps ++ [p]) N := by
  refine ⟨by simp [h.1], fun i hi u hu => ?_⟩
  rw [List.length_append, List.length_singleton] at hi
  rcases Nat.lt_or_ge i ps.length with hl | hl
  · rw [List.getElem?_append_left (by rw [h.1]; exact hl)] at hu
    rw [List.getElem_append_left hl]
    exact h.2 i hl u hu
  · have hi2 : i = ps.length := by omega
    subst hi2
    rw [List.getElem?_append_right (by rw [h.1]; exact Nat.le_refl _), h.1, Nat.sub_self] at hu
    have : v = u := by simpa using hu
    subst this
    simp only [List.getElem_concat_length]
    exact ⟨ho, hn⟩
end Go.Proofs.YtamajnaeladehaaDoor
