/- Rows that are written over and grown beside those that they were. -/
import Derived.Test.YtbohbkjkcpncfaaST3
namespace Go.Proofs.Ytbohbkjkcpncfaa
set_option linter.unusedVariables false
set_option linter.unusedSimpArgs false
open Go.RowKit

/-- append of one byte: the new row lies in the old one, or in a new block, and then nothing was written. -/
theorem wpList_append_byteX {ops : Array Oper} {rest : List Oper} {o : Oper} {a : Act} {w : World} {Q : Exit → Act → World → Prop} (hgd : o.guard = none) (s x : Operand) (ho : o.op = .call { callee := .builtin .append, args := #[s, x], argTypes := #[23, 23] })
    (base : Nat) (v : Value) (xs : List UInt8) (hs : a.eval s = v) (hown : OwnsB w base v xs) (z c : Nat) (hx : a.eval x = .slice (some ⟨z, 0, none⟩) 1 c) (y : UInt8) (q : Int) (hq : q = y.toNat) (hc : w.cell? ⟨z, 0, none⟩ = some (.int .u8 q)) (hlen : xs.length ≤ 140737488354000) (hbase : base ≤ w.heap.size)
    (h : ∀ v' w', Hid (OwnsB w' base v' (xs ++ [y])) → Hid (w.grownBy w' v.ownBlock) → Hid (v'.ownBlock = v.ownBlock ∨ (v'.ownBlock = some w.heap.size ∧ w.grownBy w' none)) → wpList Try.prog ops Q rest (a.put o.dst v') w') : wpList Try.prog ops Q (o :: rest) a w := by
  subst hq
  obtain ⟨i0, hi, hz0, hz1, hz2⟩ := info_parts infoU8
  have hnews : ∀ j u, [u8c y][j]? = some u → w.cell? ((⟨z, 0, none⟩ : Addr).add j) = some u := by
    intro j u hj
    cases j with
    | zero => cases hj; exact hc
    | succ j => simp at hj
  refine wpList_plain hgd fun K hK => ?_
  obtain ⟨v', w', hr, h1, h2, _, h4⟩ := run_append_own_at (P := Try.prog) w base 23 o.type 5 i0 (.int .u8 0) 1 1 Try.underlying23 hi hz0 hz1 hz2 rfl (by decide) v xs.length (xs.map u8c) hown ⟨z, 0, none⟩ 1 c [u8c y] rfl hnews (u8c_one [y]) (by unfold maxLen; omega) (by omega) hbase
  have h5 : v'.ownBlock = v.ownBlock ∨ (v'.ownBlock = some w.heap.size ∧ w.grownBy w' none) := by
    have HC := fun g e => hown.cells (g := g) e
    obtain ⟨hl, ⟨rfl, hn0⟩ | ⟨g, cap, cur, rfl, hbg, hg, hnc, hcm, hcs, htake⟩⟩ := hown
    · have hr2 := run_append_nil (P := Try.prog) w 23 o.type 5 i0 (.int .u8 0) Try.underlying23 hi hz0 ⟨z, 0, none⟩ 1 c [u8c y] (by rw [hz1]; rfl) hnews (by omega) (by omega) (by rw [hz2]; omega)
      rw [hr2] at hr
      cases hr
      exact .inr ⟨rfl, ⟨rfl, rfl, rfl, by simp, fun k hk _ => Below.heap_alloc w.drew _ k hk⟩⟩
    · by_cases hroom : xs.length + 1 ≤ cap
      · have hr2 := run_append_room (P := Try.prog) w 23 o.type 5 i0 Try.underlying23 hi g xs.length cap cur hg ⟨z, 0, none⟩ 1 c [u8c y] (by rw [hz1]; rfl) hnews (u8c_one [y]) hroom (by rw [hz1, hcs]; simp; omega)
        rw [hr2] at hr
        cases hr
        exact .inl rfl
      · have hr2 := run_append_grow (P := Try.prog) w 23 o.type 5 i0 (.int .u8 0) Try.underlying23 hi hz0 ⟨g, 0, none⟩ xs.length cap (xs.map u8c) (by rw [hz1]; simp)
          (HC g rfl) ⟨z, 0, none⟩ 1 c [u8c y] (by rw [hz1]; rfl) hnews (by omega) (by omega) (by rw [hz2]; exact growslice_fits (by omega) (by omega))
        rw [hr2] at hr
        cases hr
        exact .inr ⟨rfl, ⟨rfl, rfl, rfl, by simp, fun k hk _ => Below.heap_alloc w.drew _ k hk⟩⟩
  have hh := h v' w' (hide (by unfold OwnsB; rw [List.length_append, List.map_append]; exact h1)) (hide h2) (hide h5)
  unfold Oper.wp
  simp [execOp, ho, resolve, invoke, builtin, hs, hx, hr, Result.andThen]
  exact hK _ _ hh

theorem OwnsB.set {w : World} {base g n cap : Nat} {xs : List UInt8} (h : OwnsB w base (.slice (some ⟨g, 0, none⟩) n cap) xs) (k : Nat) (y : UInt8) : OwnsB (w.setCell ⟨g, k, none⟩ (u8c y)) base (.slice (some ⟨g, 0, none⟩) n cap) (xs.set k y) := by
  obtain ⟨hl, ⟨h1, _⟩ | ⟨g', cap', cur, e, hb, hg, hc, hm, hs, ht⟩⟩ := h
  · cases h1
  · cases e
    refine ⟨by simp, .inr ⟨g, cap, cur.setIfInBounds k (u8c y), by simp, hb, heap_setCell_same w g k cur _ _ hg, by simpa using hc, hm, by simpa using hs, ?_⟩⟩
    rw [Array.toList_setIfInBounds, List.map_set, ← ht, List.take_set, List.length_set]
theorem OwnsB.at {w : World} {base g n cap : Nat} {xs : List UInt8} (h : OwnsB w base (.slice (some ⟨g, 0, none⟩) n cap) xs) (k : Nat) (hk : k < xs.length) : w.cell? ⟨g, k, none⟩ = some (.int .u8 (xs[k].toNat : Int)) ∧ w.frozen? ⟨g, k, none⟩ = false ∧ base ≤ g := by
  obtain ⟨hl, ⟨h1, _⟩ | ⟨g', cap', cur, e, hb, hg, hc, hm, hs, ht⟩⟩ := h
  · cases h1
  · cases e
    have hB : Blk w g cur 5 := hg
    refine ⟨?_, hB.frozen k, hb⟩
    rw [hB.cell, ← Array.getElem?_toList]
    have : (cur.toList.take (xs.length * 1))[k]? = some (u8c xs[k]) := by rw [ht]; simp [List.getElem?_eq_getElem hk]
    rwa [List.getElem?_take_of_lt (by omega)] at this
theorem OwnsB.form {w : World} {base : Nat} {v : Value} {xs : List UInt8} (h : OwnsB w base v xs) (h0 : 0 < xs.length) : ∃ g cap, v = .slice (some ⟨g, 0, none⟩) xs.length cap ∧ base ≤ g ∧ g < w.heap.size ∧ xs.length ≤ cap ∧ cap ≤ maxLen := by
  obtain ⟨hl, ⟨h1, h2⟩ | ⟨g, cap, cur, rfl, hb, hg, hc, hm, hs, ht⟩⟩ := h
  · omega
  · have hB : Blk w g cur 5 := hg
    exact ⟨g, cap, rfl, hb, hB.lt, hc, hm⟩
theorem fill_set (xs : List UInt8) (k : Nat) (y : UInt8) (hk : k < xs.length) : (List.replicate k y ++ xs.drop k).set k y = List.replicate (k + 1) y ++ xs.drop (k + 1) := by
  rw [List.set_append_right _ _ (by simp), List.length_replicate, Nat.sub_self, List.drop_eq_getElem_cons hk, List.set_cons_zero, List.replicate_succ', List.append_assoc]
  rfl

/-- A row as it was first (m bytes at block g0), and as it has grown. -/
structure Al (B : Nat) (w : World) (g0 m c0 : Nat) (v : Value) (zs : List UInt8) : Prop where
  own : OwnsB w B v zs
  rd : Rd w (.slice (some ⟨g0, 0, none⟩) m c0) (zs.take m)
  lt : g0 < w.heap.size
  le : m ≤ zs.length
  ne : 0 < m
def Foot (g0 : Nat) (v : Value) (b : Nat) : Prop := b = g0 ∨ v.ownBlock = some b
theorem Rd.grown {w w' : World} {b o n c : Nat} {xs : List UInt8} {row : Option Nat} (h : Rd w (.slice (some ⟨b, o, none⟩) n c) xs) (hg : w.grownBy w' row) (hne : some b ≠ row) (hlt : b < w.heap.size) : Rd w' (.slice (some ⟨b, o, none⟩) n c) xs := by
  obtain ⟨ao, c', e, h1, h2, ⟨rfl, _⟩ | ⟨b', o', rfl, hcell⟩⟩ := h
  · cases e
  · cases e
    refine ⟨_, c, rfl, h1, h2, .inr ⟨b, o, rfl, fun i hi => ?_⟩⟩
    rw [← hcell i hi]
    unfold World.cell?
    simp only
    rw [hg.block b hlt hne]
theorem Al.grown {B : Nat} {w w' : World} {g0 m c0 : Nat} {v : Value} {zs : List UInt8} {row : Option Nat} (h : Al B w g0 m c0 v zs) (hg : w.grownBy w' row) (hr : ∀ b, row = some b → ¬ Foot g0 v b) : Al B w' g0 m c0 v zs :=
  ⟨owns_grown h.own hg (fun g e e2 => hr g e2.symm (.inr e)), h.rd.grown hg (fun e => hr g0 e.symm (.inl rfl)) h.lt, Nat.lt_of_lt_of_le h.lt hg.size, h.le, h.ne⟩
theorem Al.below {B : Nat} {w w' : World} {g0 m c0 : Nat} {v : Value} {zs : List UInt8} (h : Al B w g0 m c0 v zs) (hb : Below w.heap.size w w') : Al B w' g0 m c0 v zs := h.grown (row := none) (grownBy_below hb) (fun _ e => by cases e)
theorem Rd.owned_take {w : World} {base : Nat} {g n cap m c0 : Nat} {zs : List UInt8} (h : OwnsB w base (.slice (some ⟨g, 0, none⟩) n cap) zs) (hm : m ≤ zs.length) (h1 : m ≤ c0) (h2 : c0 ≤ maxLen) : Rd w (.slice (some ⟨g, 0, none⟩) m c0) (zs.take m) := by
  have hl : (zs.take m).length = m := by simp; omega
  refine ⟨some ⟨g, 0, none⟩, c0, by rw [hl], by omega, h2, .inr ⟨g, 0, rfl, fun i hi => ?_⟩⟩
  rw [hl] at hi
  have := (h.at i (by omega)).1
  simpa [u8c] using this
theorem own_is {w : World} {base : Nat} {v : Value} {zs : List UInt8} (h : OwnsB w base v zs) (g : Nat) (e : v.ownBlock = some g) : ∃ n cap, v = .slice (some ⟨g, 0, none⟩) n cap := by
  obtain ⟨hl, ⟨rfl, h2⟩ | ⟨g', cap, cur, rfl, r⟩⟩ := h
  · cases e
  · cases e; exact ⟨_, _, rfl⟩
theorem Al.step {B : Nat} {w w' : World} {g0 m c0 : Nat} {v v' : Value} {zs : List UInt8} {y : UInt8} (h : Al B w g0 m c0 v zs) (ho : OwnsB w' B v' (zs ++ [y])) (hg : w.grownBy w' v.ownBlock) (hl : v'.ownBlock = v.ownBlock ∨ (v'.ownBlock = some w.heap.size ∧ w.grownBy w' none)) : Al B w' g0 m c0 v' (zs ++ [y]) := by
  have hle := h.le
  have e1 : (zs ++ [y]).take m = zs.take m := by rw [List.take_append_of_le_length hle]
  refine ⟨ho, ?_, Nat.lt_of_lt_of_le h.lt hg.size, by simp; omega, h.ne⟩
  by_cases hv : v.ownBlock = some g0
  · rcases hl with e | ⟨e, hn⟩
    · rw [hv] at e
      obtain ⟨n, cap, rfl⟩ := own_is ho g0 e
      obtain ⟨ao, c', e2, h1, h2, _⟩ := h.rd
      obtain ⟨_, _, rfl⟩ := (Value.slice.injEq ..).mp e2
      have hml : (zs.take m).length = m := by simp; omega
      exact Rd.owned_take ho (by simp; omega) (by omega) h2
    · rw [e1]; exact h.rd.grown hn (by simp) h.lt
  · rw [e1]; exact h.rd.grown hg (fun e => hv e.symm) h.lt
/-- Two such rows lie apart. -/
def Dis (g0 : Nat) (v : Value) (h0 : Nat) (u : Value) : Prop := ∀ b, Foot g0 v b → ¬ Foot h0 u b
theorem Dis.symm {g0 h0 : Nat} {v u : Value} (h : Dis g0 v h0 u) : Dis h0 u g0 v := fun b h1 h2 => h b h2 h1
theorem Al.foot {B : Nat} {w : World} {g0 m c0 : Nat} {v : Value} {zs : List UInt8} (h : Al B w g0 m c0 v zs) (b : Nat) (hb : Foot g0 v b) : b < w.heap.size := by
  rcases hb with rfl | hb
  · exact h.lt
  · exact (owns_lt h.own b hb).2
theorem Dis.step {g0 h0 N : Nat} {v v' u : Value} (h : Dis g0 v h0 u) (hl : v'.ownBlock = v.ownBlock ∨ v'.ownBlock = some N) (hu : ∀ b, Foot h0 u b → b < N) : Dis g0 v' h0 u := by
  rintro b (rfl | hb) h2
  · exact h _ (.inl rfl) h2
  · rcases hl with e | e
    · exact h b (.inr (e ▸ hb)) h2
    · rw [e] at hb; have := hu b h2; have := Option.some.inj hb; omega
end Go.Proofs.Ytbohbkjkcpncfaa
