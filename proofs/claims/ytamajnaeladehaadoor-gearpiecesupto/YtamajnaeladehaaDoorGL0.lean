/- Rows of bytes: read in part, written over. -/
import Derived.Test.YtamajnaeladehaaDoorGF10
namespace Go.Proofs.YtamajnaeladehaaDoor
set_option linter.unusedVariables false
set_option linter.unusedSimpArgs false
open Go.RowKit

theorem wpList_append_byte {ops : Array Oper} {rest : List Oper} {o : Oper} {a : Act} {w : World} {Q : Exit → Act → World → Prop} (hgd : o.guard = none) (s x : Operand) (ho : o.op = .call { callee := .builtin .append, args := #[s, x], argTypes := #[24, 24] })
    (base : Nat) (v : Value) (xs : List UInt8) (hs : a.eval s = v) (hown : OwnsB w base v xs) (z c : Nat) (hx : a.eval x = .slice (some ⟨z, 0, none⟩) 1 c) (y : UInt8) (q : Int) (hq : q = y.toNat) (hc : w.cell? ⟨z, 0, none⟩ = some (.int .u8 q)) (hlen : xs.length ≤ 140737488354000) (hbase : base ≤ w.heap.size)
    (h : ∀ v' w', Hid (OwnsB w' base v' (xs ++ [y])) → Hid (w.grownBy w' v.ownBlock) → Hid (v'.ownBlock = v.ownBlock ∨ v'.ownBlock = some w.heap.size) → wpList Tryd.prog ops Q rest (a.put o.dst v') w') : wpList Tryd.prog ops Q (o :: rest) a w := by
  subst hq
  obtain ⟨i0, hi, hz0, hz1, hz2⟩ := info_parts infoU8
  refine wpList_append_own_at w hgd s x 24 ho base 5 i0 (.int .u8 0) 1 1 Tryd.underlying24 hi hz0 hz1 hz2 rfl (by decide) v xs.length (xs.map u8c) hs hown ⟨z, 0, none⟩ 1 c [u8c y] hx rfl ?_ (u8c_one [y]) (by unfold maxLen; omega) (by omega) hbase ?_
  · intro j u hj
    cases j with
    | zero => cases hj; exact hc
    | succ j => simp at hj
  · intro v' w' h1 h2 _ h4
    exact h v' w' (hide (by unfold OwnsB; rw [List.length_append, List.map_append]; exact h1)) (hide h2) (hide h4)

theorem below_drewN (base : Nat) (w : World) (n : Nat) : Below base w (w.drewN n) := ⟨rfl, rfl, rfl, Nat.le_refl _, fun _ _ => rfl⟩
theorem Rd.slice {w : World} {v : Value} {xs : List UInt8} (h : Rd w v xs) : ∃ ao c, v = .slice ao xs.length c ∧ xs.length ≤ maxLen := by
  obtain ⟨ao, c, rfl, h1, h2, _⟩ := h
  exact ⟨ao, c, rfl, Nat.le_trans h1 h2⟩
theorem Rd.at {w : World} {ao : Option Addr} {n c : Nat} {xs : List UInt8} (h : Rd w (.slice ao n c) xs) (k : Nat) (hk : k < xs.length) : ∃ b o, ao = some ⟨b, o, none⟩ ∧ w.cell? ⟨b, o + k, none⟩ = some (.int .u8 (xs[k].toNat : Int)) := by
  rcases h.form with ⟨_, rfl⟩ | ⟨b, o, c', e, hcell⟩
  · simp at hk
  · cases e
    exact ⟨b, o, rfl, hcell k hk⟩
theorem Rd.at' {w : World} {ao : Option Addr} {n c : Nat} {xs : List UInt8} (h : Rd w (.slice ao n c) xs) (k : Nat) (hk : k < xs.length) : ∃ b o, ao = some ⟨b, o, none⟩ ∧ w.cell? ⟨b, o + k, none⟩ = some (.int .u8 ((xs.getD k 0).toNat : Int)) := by
  obtain ⟨b, o, h1, h2⟩ := h.at k hk
  refine ⟨b, o, h1, ?_⟩
  rw [h2, List.getD_eq_getElem?_getD, List.getElem?_eq_getElem hk]; rfl
theorem OwnsB.set {w : World} {base g n cap : Nat} {xs : List UInt8} (h : OwnsB w base (.slice (some ⟨g, 0, none⟩) n cap) xs) (k : Nat) (y : UInt8) : OwnsB (w.setCell ⟨g, k, none⟩ (u8c y)) base (.slice (some ⟨g, 0, none⟩) n cap) (xs.set k y) := by
  obtain ⟨hl, ⟨h1, _⟩ | ⟨g', cap', cur, e, hb, hg, hc, hm, hs, ht⟩⟩ := h
  · cases h1
  · cases e
    refine ⟨by simp, .inr ⟨g, cap, cur.setIfInBounds k (u8c y), by simp, hb, heap_setCell_same w g k cur _ _ hg, by simpa using hc, hm, by simpa using hs, ?_⟩⟩
    rw [Array.toList_setIfInBounds, List.map_set, ← ht, List.take_set, List.length_set]
theorem OwnsB.at {w : World} {base g n cap : Nat} {xs : List UInt8} (h : OwnsB w base (.slice (some ⟨g, 0, none⟩) n cap) xs) (k : Nat) (hk : k < xs.length) : w.cell? ⟨g, k, none⟩ = some (.int .u8 (xs[k].toNat : Int)) ∧ w.frozen? ⟨g, k, none⟩ = false ∧ base ≤ g := by
  obtain ⟨hl, ⟨h1, _⟩ | ⟨g', cap', cur, e, hb, hg, hc, hm, hs, ht⟩⟩ := h
  · cases h1
  · cases e
    have hB : Blk w g cur 5 := hg
    refine ⟨?_, hB.frozen k, hb⟩
    rw [hB.cell, ← Array.getElem?_toList]
    have : (cur.toList.take (xs.length * 1))[k]? = some (u8c xs[k]) := by rw [ht]; simp [List.getElem?_eq_getElem hk]
    rwa [List.getElem?_take_of_lt (by omega)] at this
theorem OwnsB.form {w : World} {base : Nat} {v : Value} {xs : List UInt8} (h : OwnsB w base v xs) (h0 : 0 < xs.length) : ∃ g cap, v = .slice (some ⟨g, 0, none⟩) xs.length cap ∧ base ≤ g ∧ g < w.heap.size ∧ xs.length ≤ cap ∧ cap ≤ maxLen := by
  obtain ⟨hl, ⟨h1, h2⟩ | ⟨g, cap, cur, rfl, hb, hg, hc, hm, hs, ht⟩⟩ := h
  · omega
  · have hB : Blk w g cur 5 := hg
    exact ⟨g, cap, rfl, hb, hB.lt, hc, hm⟩
theorem fill_set (xs : List UInt8) (k : Nat) (y : UInt8) (hk : k < xs.length) : (List.replicate k y ++ xs.drop k).set k y = List.replicate (k + 1) y ++ xs.drop (k + 1) := by
  rw [List.set_append_right _ _ (by simp), List.length_replicate, Nat.sub_self, List.drop_eq_getElem_cons hk, List.set_cons_zero, List.replicate_succ', List.append_assoc]
  rfl
theorem Rd.grown {w w' : World} {b o n c : Nat} {xs : List UInt8} {row : Option Nat} (h : Rd w (.slice (some ⟨b, o, none⟩) n c) xs) (hg : w.grownBy w' row) (hne : some b ≠ row) (hlt : b < w.heap.size) : Rd w' (.slice (some ⟨b, o, none⟩) n c) xs := by
  obtain ⟨ao, c', e, h1, h2, ⟨rfl, _⟩ | ⟨b', o', rfl, hcell⟩⟩ := h
  · cases e
  · cases e
    refine ⟨_, c, rfl, h1, h2, .inr ⟨b, o, rfl, fun i hi => ?_⟩⟩
    rw [← hcell i hi]
    unfold World.cell?
    simp only
    rw [hg.block b hlt hne]
theorem Rd.owned_take {w : World} {base : Nat} {g n cap m c0 : Nat} {zs : List UInt8} (h : OwnsB w base (.slice (some ⟨g, 0, none⟩) n cap) zs) (hm : m ≤ zs.length) (h1 : m ≤ c0) (h2 : c0 ≤ maxLen) : Rd w (.slice (some ⟨g, 0, none⟩) m c0) (zs.take m) := by
  have hl : (zs.take m).length = m := by simp; omega
  refine ⟨some ⟨g, 0, none⟩, c0, by rw [hl], by omega, h2, .inr ⟨g, 0, rfl, fun i hi => ?_⟩⟩
  rw [hl] at hi
  have := (h.at i (by omega)).1
  simpa [u8c] using this
theorem own_is {w : World} {base : Nat} {v : Value} {zs : List UInt8} (h : OwnsB w base v zs) (g : Nat) (e : v.ownBlock = some g) : ∃ n cap, v = .slice (some ⟨g, 0, none⟩) n cap := by
  obtain ⟨hl, ⟨rfl, h2⟩ | ⟨g', cap, cur, rfl, r⟩⟩ := h
  · cases e
  · cases e; exact ⟨_, _, rfl⟩
end Go.Proofs.YtamajnaeladehaaDoor
