/- WireAdds: an Enc, the row of all bytes, the rows of what Bytes answered and of what it should be. -/
import Derived.Test.YtinjcefekbpabaaV2
namespace Go.Proofs.Ytinjcefekbpabaa
set_option linter.unusedVariables false
set_option linter.unusedSimpArgs false
open Go.RowKit

def strW (p : Value × List UInt8) : Value := .string ⟨p.2.toArray⟩
structure WA (B : Nat) (w : World) (X : Nat → Prop) (z : Nat) (xs : List UInt8) (va : Value) (ys : List UInt8) (vk : Value) (kv : List Value) (vw : Value) (wv : List Value) (ks : List (Value × List UInt8)) : Prop where
  e1 : EncSt w X z xs
  ra : OwnsB w B va ys
  rk : w.ownsRow B 28 1 vk kv.length kv
  rs : w.ownsRow B 9 1 vw wv.length wv
  xa : ∀ g, va.ownBlock = some g → X g ∧ g ≠ z
  xk : ∀ g, vk.ownBlock = some g → X g ∧ g ≠ z ∧ va.ownBlock ≠ some g
  xw : ∀ g, vw.ownBlock = some g → X g ∧ g ≠ z ∧ va.ownBlock ≠ some g ∧ vk.ownBlock ≠ some g
  kp : ∀ p ∈ ks, Keeps X w p.1 p.2
theorem WA.grown {B : Nat} {w w' : World} {X : Nat → Prop} {z : Nat} {xs ys : List UInt8} {va vk vw : Value} {kv wv : List Value} {ks : List (Value × List UInt8)} {row : Option Nat} (h : WA B w X z xs va ys vk kv vw wv ks) (hg : w.grownBy w' row) (hX : ∀ b, some b = row → X b) (hz : some z ≠ row) (ha : ∀ g, va.ownBlock = some g → some g ≠ row) (hk : ∀ g, vk.ownBlock = some g → some g ≠ row) (hw : ∀ g, vw.ownBlock = some g → some g ≠ row) : WA B w' X z xs va ys vk kv vw wv ks :=
  ⟨h.e1.grown hg hz hX, owns_grown h.ra hg ha, owns_grown h.rk hg hk, owns_grown h.rs hg hw, h.xa, h.xk, h.xw, fun p hp => (h.kp p hp).grown hg hX⟩
theorem WA.below {B : Nat} {w w' : World} {X : Nat → Prop} {z : Nat} {xs ys : List UInt8} {va vk vw : Value} {kv wv : List Value} {ks : List (Value × List UInt8)} (h : WA B w X z xs va ys vk kv vw wv ks) (hb : Below w.heap.size w w') : WA B w' X z xs va ys vk kv vw wv ks :=
  h.grown (row := none) (grownBy_below hb) (fun b e => by cases e) (by simp) (fun _ _ => by simp) (fun _ _ => by simp) (fun _ _ => by simp)
theorem WA.addX {B : Nat} {w w' : World} {X : Nat → Prop} {z : Nat} {xs ys : List UInt8} {va vk vw : Value} {kv wv : List Value} {ks : List (Value × List UInt8)} (h : WA B w X z xs va ys vk kv vw wv ks) (hb : Below w.heap.size w w') (g : Nat) (h1 : w.heap.size ≤ g) (h2 : g < w'.heap.size) : WA B w' (fun b => X b ∨ b = g) z xs va ys vk kv vw wv ks :=
  ⟨h.e1.addX hb g h1 h2, owns_below h.ra hb, owns_below h.rk hb, owns_below h.rs hb, fun b e => ⟨.inl (h.xa b e).1, (h.xa b e).2⟩, fun b e => ⟨.inl (h.xk b e).1, (h.xk b e).2⟩, fun b e => ⟨.inl (h.xw b e).1, (h.xw b e).2⟩,
    fun p hp => ((h.kp p hp).addX g h1).grown (row := none) (grownBy_below hb) (fun b e => by cases e)⟩
/-- A block that may be written to, and that is neither the Enc's nor a row's. -/
theorem WA.other {B : Nat} {w w' : World} {X : Nat → Prop} {z : Nat} {xs ys : List UInt8} {va vk vw : Value} {kv wv : List Value} {ks : List (Value × List UInt8)} (h : WA B w X z xs va ys vk kv vw wv ks) (g : Nat) (hg : w.grownBy w' (some g)) (hX : X g) (hz : g ≠ z) (ha : va.ownBlock ≠ some g) (hk : vk.ownBlock ≠ some g) (hw : vw.ownBlock ≠ some g) : WA B w' X z xs va ys vk kv vw wv ks :=
  h.grown hg (fun b e => by rw [Option.some.inj e]; exact hX) (fun e => hz (Option.some.inj e).symm) (fun b e e2 => ha (by rw [e, e2])) (fun b e e2 => hk (by rw [e, e2])) (fun b e e2 => hw (by rw [e, e2]))
theorem WA.put {B : Nat} {w w' : World} {X : Nat → Prop} {z : Nat} {xs xs' ys : List UInt8} {va vk vw : Value} {kv wv : List Value} {ks : List (Value × List UInt8)} (h : WA B w X z xs va ys vk kv vw wv ks) (he : EncSt w' X z xs') (hg : w.grownBy w' (some z)) : WA B w' X z xs' va ys vk kv vw wv ks :=
  ⟨he, owns_grown h.ra hg (fun g e e2 => (h.xa g e).2 (Option.some.inj e2)), owns_grown h.rk hg (fun g e e2 => (h.xk g e).2.1 (Option.some.inj e2)), owns_grown h.rs hg (fun g e e2 => (h.xw g e).2.1 (Option.some.inj e2)), h.xa, h.xk, h.xw, fun p hp => (h.kp p hp).grown hg (fun b e => by rw [Option.some.inj e]; exact h.e1.mem)⟩
theorem WA.all {B : Nat} {w w' : World} {X : Nat → Prop} {z : Nat} {xs ys ys' : List UInt8} {va va' vk vw : Value} {kv wv : List Value} {ks : List (Value × List UInt8)} (h : WA B w X z xs va ys vk kv vw wv ks) (ho : OwnsB w' B va' ys') (hg : w.grownBy w' va.ownBlock) (hl : va'.ownBlock = va.ownBlock ∨ va'.ownBlock = some w.heap.size) : WA B w' (fun b => X b ∨ va'.ownBlock = some b) z xs va' ys' vk kv vw wv ks := by
  have l1 := h.e1.zlt
  have lk := owns_lt h.rk
  have lw := owns_lt h.rs
  have hn := row_at hl (P := fun g => g ≠ z ∧ vk.ownBlock ≠ some g ∧ vw.ownBlock ≠ some g) (fun g e => ⟨(h.xa g e).2, fun e2 => (h.xk g e2).2.2 e, fun e2 => (h.xw g e2).2.2.1 e⟩) ⟨by omega, fun e => by have := (lk _ e).2; omega, fun e => by have := (lw _ e).2; omega⟩
  exact ⟨h.e1.row hg h.xa hl (fun g e => (owns_lt ho g e).2), ho, owns_grown h.rk hg (fun g e e2 => (h.xk g e).2.2 e2.symm), owns_grown h.rs hg (fun g e e2 => (h.xw g e).2.2.1 e2.symm),
    fun g e => ⟨.inr e, (hn g e).1⟩, fun g e => ⟨.inl (h.xk g e).1, (h.xk g e).2.1, fun e2 => (hn g e2).2.1 e⟩, fun g e => ⟨.inl (h.xw g e).1, (h.xw g e).2.1, (fun e2 => (hn g e2).2.2 e), (h.xw g e).2.2.2⟩,
    fun p hp => (h.kp p hp).row hg (fun g e => (h.xa g e).1) hl⟩
theorem WA.kept {B : Nat} {w w' : World} {X : Nat → Prop} {z : Nat} {xs ys : List UInt8} {va vk vk' vw : Value} {kv kv' wv : List Value} {ks : List (Value × List UInt8)} (h : WA B w X z xs va ys vk kv vw wv ks) (ho : w'.ownsRow B 28 1 vk' kv'.length kv') (hg : w.grownBy w' vk.ownBlock) (hl : vk'.ownBlock = vk.ownBlock ∨ vk'.ownBlock = some w.heap.size) : WA B w' (fun b => X b ∨ vk'.ownBlock = some b) z xs va ys vk' kv' vw wv ks := by
  have l1 := h.e1.zlt
  have la := owns_lt h.ra
  have lw := owns_lt h.rs
  have hn := row_at hl (P := fun g => g ≠ z ∧ va.ownBlock ≠ some g ∧ vw.ownBlock ≠ some g) (fun g e => ⟨(h.xk g e).2.1, (h.xk g e).2.2, fun e2 => (h.xw g e2).2.2.2 e⟩) ⟨by omega, fun e => by have := (la _ e).2; omega, fun e => by have := (lw _ e).2; omega⟩
  exact ⟨h.e1.row hg (fun g e => ⟨(h.xk g e).1, (h.xk g e).2.1⟩) hl (fun g e => (owns_lt ho g e).2), owns_grown h.ra hg (fun g e e2 => (h.xk g e2.symm).2.2 e), ho, owns_grown h.rs hg (fun g e e2 => (h.xw g e).2.2.2 e2.symm),
    fun g e => ⟨.inl (h.xa g e).1, (h.xa g e).2⟩, fun g e => ⟨.inr e, (hn g e).1, (hn g e).2.1⟩, fun g e => ⟨.inl (h.xw g e).1, (h.xw g e).2.1, (h.xw g e).2.2.1, fun e2 => (hn g e2).2.2 e⟩,
    fun p hp => (h.kp p hp).row hg (fun g e => (h.xk g e).1) hl⟩
theorem WA.want {B : Nat} {w w' : World} {X : Nat → Prop} {z : Nat} {xs ys : List UInt8} {va vk vw vw' : Value} {kv wv wv' : List Value} {ks : List (Value × List UInt8)} (h : WA B w X z xs va ys vk kv vw wv ks) (ho : w'.ownsRow B 9 1 vw' wv'.length wv') (hg : w.grownBy w' vw.ownBlock) (hl : vw'.ownBlock = vw.ownBlock ∨ vw'.ownBlock = some w.heap.size) : WA B w' (fun b => X b ∨ vw'.ownBlock = some b) z xs va ys vk kv vw' wv' ks := by
  have l1 := h.e1.zlt
  have la := owns_lt h.ra
  have lk := owns_lt h.rk
  have hn := row_at hl (P := fun g => g ≠ z ∧ va.ownBlock ≠ some g ∧ vk.ownBlock ≠ some g) (fun g e => (h.xw g e).2) ⟨by omega, fun e => by have := (la _ e).2; omega, fun e => by have := (lk _ e).2; omega⟩
  exact ⟨h.e1.row hg (fun g e => ⟨(h.xw g e).1, (h.xw g e).2.1⟩) hl (fun g e => (owns_lt ho g e).2), owns_grown h.ra hg (fun g e e2 => (h.xw g e2.symm).2.2.1 e), owns_grown h.rk hg (fun g e e2 => (h.xw g e2.symm).2.2.2 e), ho,
    fun g e => ⟨.inl (h.xa g e).1, (h.xa g e).2⟩, fun g e => ⟨.inl (h.xk g e).1, (h.xk g e).2⟩, fun g e => ⟨.inr e, hn g e⟩,
    fun p hp => (h.kp p hp).row hg (fun g e => (h.xw g e).1) hl⟩
theorem WA.more {B : Nat} {w : World} {X : Nat → Prop} {z : Nat} {xs ys : List UInt8} {va vk vw : Value} {kv wv : List Value} {ks : List (Value × List UInt8)} (h : WA B w X z xs va ys vk kv vw wv ks) {v : Value} {bs : List UInt8} (hv : Keeps X w v bs) : WA B w X z xs va ys vk kv vw wv (ks ++ [(v, bs)]) :=
  ⟨h.e1, h.ra, h.rk, h.rs, h.xa, h.xk, h.xw, fun p hp => by
    rcases List.mem_append.1 hp with hp | hp
    · exact h.kp p hp
    · rw [List.mem_singleton.1 hp]; exact hv⟩
theorem WA.start (w : World) (B : Nat) : WA B (w.alloc (.cells Try.zeroCells27 27)) (fun b => b = w.heap.size) w.heap.size [] (.slice none 0 0) [] (.slice none 0 0) [] (.slice none 0 0) [] [] :=
  ⟨zeroEnc_st w, owns_nil _ _, ⟨rfl, .inl ⟨rfl, rfl⟩⟩, ⟨rfl, .inl ⟨rfl, rfl⟩⟩, (fun g e => by cases e), (fun g e => by cases e), (fun g e => by cases e), (fun p hp => by cases hp)⟩
/-- What Bytes answers, ahead of what may be written to. -/
theorem WA.bytes {B : Nat} {w w' : World} {X : Nat → Prop} {z : Nat} {xs ys : List UInt8} {va vk vw : Value} {kv wv : List Value} {ks : List (Value × List UInt8)} (h : WA B w X z xs va ys vk kv vw wv ks) (hb : Below w.heap.size w w') {v : Value} {bs : List UInt8} (ho : w'.ownsRow w.heap.size 5 1 v bs.length (bs.map u8c)) : WA B w' X z xs va ys vk kv vw wv (ks ++ [(v, bs)]) :=
  (h.below hb).more (Keeps.made ho h.e1.lt)

theorem addOne {w : World} {cs : Array Value} {bv : Value} {a : AddR} (h : AddIs w cs bv a) : cs.all (·.oneCell') = true := by
  have e : cs = cs.toList.toArray := by simp
  rw [e]
  refine all_oneCell_toArray ?_
  intro v hv
  obtain ⟨i, hi, rfl⟩ := List.mem_iff_getElem.1 hv
  have hs := h.size
  have hget : cs.toList[i]? = some cs.toList[i] := List.getElem?_eq_getElem hi
  generalize cs.toList[i] = v at hget
  rw [Array.getElem?_toList] at hget
  match i, hi, hget with
  | 0, _, hg => rw [h.c0] at hg; cases hg; rfl
  | 1, _, hg => rw [h.c1] at hg; cases hg; rfl
  | 2, _, hg => rw [h.c2] at hg; cases hg; rfl
  | 3, _, hg =>
    rw [h.c3] at hg
    cases hg
    obtain ⟨ao, c, e, _⟩ := h.rd.slice
    rw [e]
    rfl
  | i + 4, hi, hg =>
    have hd : (cs.toList.drop 4)[i]? = some v := by rw [List.getElem?_drop, Nat.add_comm, Array.getElem?_toList]; exact hg
    rw [h.ck] at hd
    obtain ⟨u, _, rfl⟩ := List.mem_map.1 (List.mem_of_getElem? hd)
    rfl
/-- The Add with its bytes laid elsewhere. -/
theorem AddIs.turned {w w' : World} {cs : Array Value} {bv v : Value} {a : AddR} (h : AddIs w cs bv a) (hv : RdA w' v a.B) : AddIs w' (cs.setIfInBounds 3 v) v a :=
  ⟨by rw [Array.size_setIfInBounds]; exact h.size, by rw [Array.getElem?_setIfInBounds_ne (by decide)]; exact h.c0, by rw [Array.getElem?_setIfInBounds_ne (by decide)]; exact h.c1, by rw [Array.getElem?_setIfInBounds_ne (by decide)]; exact h.c2,
    by rw [Array.getElem?_setIfInBounds_self_of_lt (by rw [h.size]; decide)], hv, by rw [Array.toList_setIfInBounds, List.drop_set_of_lt (by decide)]; exact h.ck, h.kl, h.hN⟩
end Go.Proofs.Ytinjcefekbpabaa
