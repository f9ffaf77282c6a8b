/- own: has each list memory of its own? What its walk needs. -/
import Derived.Test.YtbnedlcldfpfdaaEX8
namespace Go.Proofs.Ytbnedlcldfpfdaa
set_option linter.unusedVariables false
set_option linter.unusedSimpArgs false
open Go.RowKit Go.Sort

def mkL (n m : Nat) : List UInt8 := (List.range m).map (mkB n)
theorem mkL_len (n m : Nat) : (mkL n m).length = m := by simp [mkL]
theorem mkL_at (n m k : Nat) (h : k < m) : (mkL n m)[k]? = some (mkB n k) := by simp [mkL, h]
theorem mkL_snoc (n m : Nat) : mkL n (m + 1) = mkL n m ++ [mkB n m] := by unfold mkL; rw [List.range_succ, List.map_append]; rfl
theorem mkL_of {ys : List UInt8} {n m : Nat} (hl : ys.length = m) (h : ∀ k, k < m → ys[k]? = some (mkB n k)) : ys = mkL n m := by
  apply List.ext_getElem?
  intro k
  rcases Nat.lt_or_ge k m with hk | hk
  · rw [h k hk, mkL_at n m k hk]
  · rw [List.getElem?_eq_none (by omega), List.getElem?_eq_none (by rw [mkL_len]; omega)]
/-- Lists, each in a row of its own. -/
structure Ls (W : World) (B n : Nat) (vs : Nat → Value) (ys : Nat → List UInt8) : Prop where
  own : ∀ i, i < n → OwnsB W B (vs i) (ys i)
  apart : ∀ i j, i < n → j < n → i ≠ j → ∀ g, (vs i).ownBlock = some g → (vs j).ownBlock ≠ some g
/-- The row that holds them. -/
structure LRow (W : World) (R n : Nat) (ao : Option Addr) (vs : Nat → Value) : Prop where
  here : ∀ i, i < n → ao = some ⟨R, 0, none⟩
  cel : ∀ i, i < n → W.cell? ⟨R, i, none⟩ = some (vs i)
  off : ∀ i, i < n → (vs i).ownBlock ≠ some R
theorem cell_other {W : World} {a p : Addr} {v : Value} (h : p.block ≠ a.block) : (W.setCell a v).cell? p = W.cell? p := World.cell?_of_block (heap_setCell_other W a p.block v h)
theorem LRow.set {W : World} {R n : Nat} {ao : Option Addr} {vs : Nat → Value} (h : LRow W R n ao vs) (a : Addr) (v : Value) (hne : R ≠ a.block) : LRow (W.setCell a v) R n ao vs :=
  ⟨h.here, fun i hi => by rw [cell_other hne]; exact h.cel i hi, h.off⟩
theorem LRow.below {W W' : World} {R n : Nat} {ao : Option Addr} {vs : Nat → Value} (h : LRow W R n ao vs) (hb : Below W.heap.size W W') : LRow W' R n ao vs :=
  ⟨h.here, fun i hi => (hb.cell (block_lt_of_cell' (h.cel i hi))).trans (h.cel i hi), h.off⟩
theorem LRow.grown {W W' : World} {R n : Nat} {ao : Option Addr} {vs : Nat → Value} {row : Option Nat} (h : LRow W R n ao vs) (hg : W.grownBy W' row) (hne : some R ≠ row) : LRow W' R n ao vs :=
  ⟨h.here, fun i hi => hg.cell (h.cel i hi) hne, h.off⟩
theorem Ls.below {W W' : World} {B n : Nat} {vs : Nat → Value} {ys : Nat → List UInt8} (h : Ls W B n vs ys) (hb : Below W.heap.size W W') : Ls W' B n vs ys := ⟨fun i hi => (h.own i hi).below hb, h.apart⟩
/-- What lies below stays, and so does all that is no cells. -/
structure BK (B : Nat) (w W : World) : Prop where
  b : Below B w W
  k : KeepsOthers w W
theorem keeps_below {w W : World} (hb : Below w.heap.size w W) : KeepsOthers w W := KeepsOthers.of_grownBy (grownBy_below hb (row := none)) (fun _ _ e => by cases e)
theorem BK.refl (B : Nat) (w : World) : BK B w w := ⟨Below.refl _ _, KeepsOthers.refl _⟩
theorem BK.step {B : Nat} {w W W' : World} (h : BK B w W) (hB : B ≤ W.heap.size) (hb : Below W.heap.size W W') : BK B w W' := ⟨h.b.trans (hb.mono hB), h.k.trans (keeps_below hb)⟩
theorem BK.setCell {B : Nat} {w W : World} (h : BK B w W) {p : Addr} (hp : B ≤ p.block) (v : Value) : BK B w (W.setCell p v) := ⟨h.b.setCell hp v, h.k.trans (KeepsOthers.setCell _ _ _)⟩
theorem keeps_own {W W' : World} {B n s : Nat} {e : TypeId} {v : Value} {ys : List Value} (ho : W.ownsRow B e s v n ys) (hg : W.grownBy W' v.ownBlock) : KeepsOthers W W' := KeepsOthers.of_grownBy hg (fun j o e1 e2 => by
  obtain ⟨_, ⟨rfl, _⟩ | ⟨g, cap, cur, rfl, hb, hh, hr⟩⟩ := ho
  · cases e1
  · cases e1
    rw [hh] at e2
    cases e2
    rfl)
theorem BK.own {B n : Nat} {w W W' : World} {e : TypeId} {v : Value} {ys : List Value} (h : BK B w W) (ho : W.ownsRow B e 1 v n ys) (hB : B ≤ W.heap.size) (hg : W.grownBy W' v.ownBlock) : BK B w W' := ⟨own_below h.b ho hB hg, h.k.trans (keeps_own ho hg)⟩
/-- While the lists are marked. -/
structure M1 (w W : World) (B R n : Nat) (ao : Option Addr) (vs : Nat → Value) (len : Nat → Nat) (ys : Nat → List UInt8) (a k : Nat) : Prop where
  ls : Ls W B n vs ys
  lens : ∀ i, i < n → (ys i).length = len i
  mark : ∀ i j, i < n → j < len i → (i < a ∨ i = a ∧ j < k) → (ys i)[j]? = some (mkB i j)
  row : LRow W R n ao vs
  bel : BK B w W
theorem M1.below {w W W' : World} {B R n : Nat} {ao : Option Addr} {vs : Nat → Value} {len : Nat → Nat} {ys : Nat → List UInt8} {a k : Nat} (h : M1 w W B R n ao vs len ys a k) (hB : B ≤ W.heap.size) (hb : Below W.heap.size W W') : M1 w W' B R n ao vs len ys a k :=
  ⟨h.ls.below hb, h.lens, h.mark, h.row.below hb, h.bel.step hB hb⟩
theorem M1.next {w W : World} {B R n : Nat} {ao : Option Addr} {vs : Nat → Value} {len : Nat → Nat} {ys : Nat → List UInt8} {a : Nat} (h : M1 w W B R n ao vs len ys a (len a)) : M1 w W B R n ao vs len ys (a + 1) 0 :=
  ⟨h.ls, h.lens, fun i j hi hj hc => h.mark i j hi hj (by
    rcases hc with h1 | ⟨h1, h2⟩
    · rcases Nat.lt_succ_iff_lt_or_eq.mp h1 with h1 | h1
      · exact .inl h1
      · exact .inr ⟨h1, by rw [← h1]; exact hj⟩
    · omega), h.row, h.bel⟩
theorem M1.set {w W : World} {B R n : Nat} {ao : Option Addr} {vs : Nat → Value} {len : Nat → Nat} {ys : Nat → List UInt8} {a k : Nat} (h : M1 w W B R n ao vs len ys a k) (ha : a < n) (hk : k < len a) (g cap : Nat) (hv : vs a = .slice (some ⟨g, 0, none⟩) (len a) cap) :
    M1 w (W.setCell ⟨g, k, none⟩ (u8c (mkB a k))) B R n ao vs len (fun j => if j = a then (ys a).set k (mkB a k) else ys j) a (k + 1) := by
  have ho := h.ls.own a ha
  rw [hv] at ho
  have hg := (ho.atB k (by rw [h.lens a ha]; exact hk)).2.2
  have hbk : (vs a).ownBlock = some g := by rw [hv]; rfl
  refine ⟨⟨fun i hi => ?_, h.ls.apart⟩, fun i hi => ?_, fun i j hi hj hc => ?_, h.row.set _ _ (fun e => h.row.off a ha (by rw [hbk, e])), h.bel.setCell hg _⟩
  · by_cases e : i = a
    · subst e
      rw [if_pos rfl, hv]
      exact ho.setB k _
    · skip
      rw [if_neg e]
      exact ownsRow_setCell_other (h.ls.own i hi) (h.ls.apart a i ha hi (fun x => e x.symm) g hbk) _
  · skip
    split
    · next e => subst e; rw [List.length_set]; exact h.lens _ hi
    · exact h.lens i hi
  · skip
    by_cases e : i = a
    · subst e
      rw [if_pos rfl]
      by_cases ej : j = k
      · subst ej
        rw [List.getElem?_set_self (by rw [h.lens i hi]; exact hj)]
      · rw [List.getElem?_set_ne (fun x => ej x.symm)]
        exact h.mark i j hi hj (.inr ⟨rfl, by omega⟩)
    · rw [if_neg e]
      exact h.mark i j hi hj (by omega)
end Go.Proofs.Ytbnedlcldfpfdaa
