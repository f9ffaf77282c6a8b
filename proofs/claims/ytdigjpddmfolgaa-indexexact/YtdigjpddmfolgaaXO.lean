/- An index in memory; New; shard. -/
import Derived.Test.YtdigjpddmfolgaaXO0
namespace Go.Proofs.Ytdigjpddmfolgaa
set_option linter.unusedVariables false
set_option linter.unusedSimpArgs false
namespace TX
set_option maxRecDepth 100000
set_option maxHeartbeats 8000000
open Go.RowKit Go.Sort

structure Tab where
  z : Nat
  gy : Nat
  ge : Nat
def ptrV (t : Tab) : Value := .pointer (some ⟨t.z, 0, none⟩)
/-- What a table has of an index. -/
def gsh (f : KY → Option EN) (i : Nat) : KY → Option EN := fun k => if sh k = i then f k else none
theorem gsh_own (f : KY → Option EN) (k : KY) : gsh f (sh k) k = f k := by unfold gsh; rw [if_pos rfl]
theorem gsh_upd (f : KY → Option EN) (k : KY) (o : Option EN) : gsh (upd f k o) (sh k) = upd (gsh f (sh k)) k o := by
  funext q
  unfold gsh upd
  by_cases h : eqK q k = true
  · rw [(eqK_iff q k).1 h]; simp [eqK_self]
  · simp only [h]; rfl
theorem gsh_else (f : KY → Option EN) (k : KY) (o : Option EN) {j : Nat} (hj : j ≠ sh k) : gsh (upd f k o) j = gsh f j := by
  funext q
  unfold gsh
  by_cases h : sh q = j
  · rw [if_pos h, if_pos h, upd_other f o (fun e => hj (by rw [← h, e]))]
  · rw [if_neg h, if_neg h]
def ixC (L : List Tab) : List Value := L.map ptrV ++ List.replicate (16 - L.length) (.pointer none)
/-- An index's block, and its first n tables: together they have what f tells. -/
structure IxL (w : World) (x n : Nat) (L : List Tab) (f : KY → Option EN) (P : Nat) : Prop where
  len : L.length = n
  le : n ≤ 16
  blk : Blk w x (ixC L).toArray IT
  tab : ∀ (i : Nat) (t : Tab), L[i]? = some t → TbM w t.z t.gy t.ge HFN hK (gsh f i) P
  ap : ∀ (i j : Nat) (t u : Tab), L[i]? = some t → L[j]? = some u → i ≠ j → ∀ b, TbB t.z t.gy t.ge b → ¬ TbB u.z u.gy u.ge b
def IxB (x : Nat) (L : List Tab) (b : Nat) : Prop := b = x ∨ ∃ (i : Nat) (t : Tab), L[i]? = some t ∧ TbB t.z t.gy t.ge b
/-- What a call leaves of an index. -/
structure IxN (w w' : World) (x : Nat) (L : List Tab) (f : KY → Option EN) (P : Nat) : Prop where
  ex : ∃ L', IxL w' x 16 L' f P ∧ ∀ b, IxB x L' b → IxB x L b ∨ w.heap.size ≤ b
  fr : Frm w w' (IxB x L)
section
variable {w : World} {x n : Nat} {L : List Tab} {f : KY → Option EN} {P : Nat}
theorem IxL.lt (h : IxL w x n L f P) {b : Nat} (hb : IxB x L b) : b < w.heap.size := by
  rcases hb with rfl | ⟨i, t, h1, h2⟩
  · exact h.blk.lt
  · exact (h.tab i t h1).lt h2
theorem IxL.same {w' : World} (h : IxL w x n L f P) (hs : ∀ b, IxB x L b → w'.heap[b]? = w.heap[b]?) : IxL w' x n L f P :=
  ⟨h.len, h.le, (hs x (.inl rfl)).trans h.blk, fun i t ht => (h.tab i t ht).same (fun b hb => hs b (.inr ⟨i, t, ht, hb⟩)), h.ap⟩
theorem IxL.below {w' : World} (h : IxL w x n L f P) (hb : Below w.heap.size w w') : IxL w' x n L f P := h.same (fun b k => hb.block b (h.lt k))
theorem IxL.notB (h : IxL w x n L f P) {b : Nat} {cs : Array Value} {t : TypeId} (hb : Blk w b cs t) (h0 : t ≠ IT) (h1 : t ≠ TT) (h2 : t ≠ ST) : ¬ IxB x L b := by
  rintro (rfl | ⟨i, u, hu, hk⟩)
  · exact blk_ne hb h.blk h0 rfl
  · exact (h.tab i u hu).notB hb h1 h2 hk
theorem IxL.old (h : IxL w x n L f P) {b : Nat} (hb : w.heap.size ≤ b) : ¬ IxB x L b := fun e => by have := h.lt e; omega
theorem IxL.frm {w' : World} (h : IxL w x n L f P) {S : Nat → Prop} (hf : Frm w w' S) (hS : ∀ b, IxB x L b → ¬ S b) : IxL w' x n L f P := h.same (fun b k => hf.block b (h.lt k) (hS b k))
theorem IxL.more {P' : Nat} (h : IxL w x n L f P) (hp : P ≤ P') : IxL w x n L f P' := ⟨h.len, h.le, h.blk, fun i t ht => (h.tab i t ht).more hp, h.ap⟩
theorem IxL.asN (h : IxL w x 16 L f P) : IxN w w x L f P := ⟨⟨L, h, fun _ e => .inl e⟩, Frm.refl _ _⟩
theorem IxL.nBelow {w' : World} (h : IxL w x 16 L f P) (hb : Below w.heap.size w w') : IxN w w' x L f P := ⟨⟨L, h.below hb, fun _ e => .inl e⟩, Frm.of_below hb⟩
/-- One table has turned. -/
theorem IxL.step {w' : World} (h : IxL w x 16 L f P) {i : Nat} {t : Tab} (hi : L[i]? = some t) {f' : KY → Option EN} {P' : Nat} (hn : TbN w w' t.z t.gy t.ge HFN hK (gsh f' i) P') (hP : P ≤ P') (hf : ∀ j, j ≠ i → gsh f' j = gsh f j) : IxN w w' x L f' P' := by
  obtain ⟨gy', ge', ht', hnew⟩ := hn.ex
  have hil := (List.getElem?_eq_some_iff.1 hi).1
  have oth : ∀ j u, L[j]? = some u → j ≠ i → ∀ b, TbB u.z u.gy u.ge b → w'.heap[b]? = w.heap[b]? := fun j u hu hj b hb =>
    hn.fr.block b ((h.tab j u hu).lt hb) (h.ap j i u t hu hi hj b hb)
  have hx : w'.heap[x]? = w.heap[x]? := hn.fr.block x h.blk.lt ((h.tab i t hi).notB h.blk (by decide) (by decide))
  refine ⟨⟨L.set i ⟨t.z, gy', ge'⟩, ⟨by rw [List.length_set]; exact h.len, h.le, ?_, fun j u hu => ?_, fun j k u v hu hv hjk b hb hc => ?_⟩, fun b hb => ?_⟩, ?_⟩
  · have e : ixC (L.set i ⟨t.z, gy', ge'⟩) = ixC L := by
      unfold ixC
      rw [List.length_set, List.map_set]
      congr 1
      have : ptrV ⟨t.z, gy', ge'⟩ = ptrV t := rfl
      rw [this]
      apply List.ext_getElem?
      intro q
      by_cases hq : i = q
      · subst hq
        rw [List.getElem?_set_self (by simpa using hil), List.getElem?_map, hi]; rfl
      · rw [List.getElem?_set_ne hq]
    rw [e]
    exact hx.trans h.blk
  · by_cases hj : i = j
    · subst hj
      rw [List.getElem?_set_self hil] at hu
      cases hu
      exact ht'
    · rw [List.getElem?_set_ne hj] at hu
      rw [hf j (Ne.symm hj)]
      exact ((h.tab j u hu).same (oth j u hu (Ne.symm hj))).more hP
  · by_cases hj : i = j
    · subst hj
      rw [List.getElem?_set_self hil] at hu
      cases hu
      rw [List.getElem?_set_ne hjk] at hv
      rcases hnew b hb with g | g
      · exact h.ap i k t v hi hv hjk b g hc
      · have := (h.tab k v hv).lt hc; omega
    · rw [List.getElem?_set_ne hj] at hu
      by_cases hk : i = k
      · subst hk
        rw [List.getElem?_set_self hil] at hv
        cases hv
        rcases hnew b hc with g | g
        · exact h.ap j i u t hu hi (Ne.symm hj) b hb g
        · have := (h.tab j u hu).lt hb; omega
      · rw [List.getElem?_set_ne hk] at hv
        exact h.ap j k u v hu hv hjk b hb hc
  · rcases hb with rfl | ⟨j, u, hu, hb⟩
    · exact .inl (.inl rfl)
    · by_cases hj : i = j
      · subst hj
        rw [List.getElem?_set_self hil] at hu
        cases hu
        exact (hnew b hb).imp (fun g => .inr ⟨i, t, hi, g⟩) id
      · rw [List.getElem?_set_ne hj] at hu
        exact .inl (.inr ⟨j, u, hu, hb⟩)
  · exact ⟨hn.fr.os, hn.fr.tape, hn.fr.output, hn.fr.size, fun b hb hS => hn.fr.block b hb (fun e => hS (.inr ⟨i, t, hi, e⟩))⟩
theorem IxN.trans {a b c : World} {L : List Tab} {f g : KY → Option EN} {P Q : Nat} (h : IxN a b x L f P) (k : ∀ L', IxL b x 16 L' f P → IxN b c x L' g Q) : IxN a c x L g Q := by
  obtain ⟨L1, h1, h2⟩ := h.ex
  have kk := k L1 h1
  obtain ⟨L2, k1, k2⟩ := kk.ex
  have hs := h.fr.size
  refine ⟨⟨L2, k1, fun q hq => ?_⟩, h.fr.trans kk.fr (fun i hi e => ?_)⟩
  · rcases k2 q hq with e | e
    · exact h2 q e
    · exact .inr (by omega)
  · rcases h2 i e with g | g
    · exact g
    · omega
theorem IxL.grow {w w1 : World} {n z g : Nat} (h : IxL w x n L (fun _ => none) 0) (hn : n < 16) (hT : TbM w1 z g g HFN hK (fun _ => none) 0) (hz : w.heap.size ≤ z) (hg : w.heap.size ≤ g) (hB : Below w.heap.size w w1) : IxL (w1.setCell ⟨x, n, none⟩ (.pointer (some ⟨z, 0, none⟩))) x (n + 1) (L ++ [⟨z, g, g⟩]) (fun _ => none) 0 := by
  have h1 := h.below hB
  have hxb : ¬ TbB z g g x := hT.notB h1.blk (by decide) (by decide)
  have sm : ∀ b, b ≠ x → (w1.setCell ⟨x, n, none⟩ (.pointer (some ⟨z, 0, none⟩))).heap[b]? = w1.heap[b]? := fun b hb => heap_setCell_other _ _ _ _ hb
  have fresh : ∀ b, TbB z g g b → w.heap.size ≤ b := by
    rintro b (rfl | rfl | rfl) <;> assumption
  have hlen := h.len
  have key : ∀ i t, (L ++ [(⟨z, g, g⟩ : Tab)])[i]? = some t → (i < n ∧ L[i]? = some t) ∨ (i = n ∧ t = ⟨z, g, g⟩) := by
    intro i t ht
    rcases Nat.lt_or_ge i n with hi | hi
    · left
      rw [List.getElem?_append_left (by omega)] at ht
      exact ⟨hi, ht⟩
    · right
      rw [List.getElem?_append_right (by omega)] at ht
      rw [hlen] at ht
      have e : i - n = 0 := by
        rcases Nat.eq_zero_or_pos (i - n) with e | e
        · exact e
        · rw [List.getElem?_eq_none (by simp; omega)] at ht; cases ht
      rw [e] at ht
      simp at ht
      exact ⟨by omega, ht.symm⟩
  refine ⟨by simp [hlen], by omega, ?_, fun i t ht => ?_, fun i j t u ht hu hij b hb hc => ?_⟩
  · have hb := h1.blk.set n (.pointer (some ⟨z, 0, none⟩))
    have e : ((ixC L).toArray.setIfInBounds n (.pointer (some ⟨z, 0, none⟩))) = (ixC (L ++ [⟨z, g, g⟩])).toArray := by
      rw [List.setIfInBounds_toArray]
      congr 1
      unfold ixC
      rw [List.length_append, List.length_singleton, hlen, List.map_append, List.set_append_right _ _ (by simp; omega), List.length_map, hlen, Nat.sub_self, show 16 - n = (16 - (n + 1)) + 1 by omega, List.replicate_succ, List.set_cons_zero, List.append_assoc]
      rfl
    rw [e] at hb
    exact hb
  · rcases key i t ht with ⟨hi, h2⟩ | ⟨rfl, rfl⟩
    · exact (h1.tab i t h2).same (fun b hb => sm b (fun e => by
        subst e
        exact (h1.tab i t h2).notB h1.blk (by decide) (by decide) hb))
    · have e : gsh (fun _ => none) i = fun _ => none := by funext q; unfold gsh; split <;> rfl
      rw [e]
      exact hT.same (fun b hb => sm b (fun e => by subst e; exact hxb hb))
  · rcases key i t ht with ⟨hi, h2⟩ | ⟨rfl, rfl⟩ <;> rcases key j u hu with ⟨hj, h3⟩ | ⟨rfl, rfl⟩
    · exact h.ap i j t u h2 h3 hij b hb hc
    · have := fresh b hc; have := (h.tab i t h2).lt hb; omega
    · have := fresh b hb; have := (h.tab j u h3).lt hc; omega
    · exact hij rfl
end
end TX
end Go.Proofs.Ytdigjpddmfolgaa
