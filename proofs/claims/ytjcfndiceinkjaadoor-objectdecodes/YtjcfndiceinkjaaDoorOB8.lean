/- Rows appended to rows of the call's own; a copy of a row with two marks behind it. -/
import Derived.Test.YtjcfndiceinkjaaDoorOB7
namespace Go.Proofs.YtjcfndiceinkjaaDoor
set_option linter.unusedVariables false
set_option linter.unusedSimpArgs false
open Go.RowKit

theorem flat_len (k : Nat) : ∀ L : List (List Value), (∀ c ∈ L, c.length = k) → L.flatten.length = L.length * k
  | [], _ => by simp
  | c :: L, h => by
    rw [List.flatten_cons, List.length_append, h c (List.mem_cons_self ..), flat_len k L (fun x hx => h x (List.mem_cons_of_mem _ hx)), List.length_cons, Nat.succ_mul, Nat.add_comm]
theorem rangeAt_append {w : World} {b o : Nat} {x y : List Value} (h1 : w.rangeAt b o x) (h2 : w.rangeAt b (o + x.length) y) : w.rangeAt b o (x ++ y) := fun j v hj => by
  rcases Nat.lt_or_ge j x.length with h | h
  · rw [List.getElem?_append_left h] at hj; exact h1 j v hj
  · rw [List.getElem?_append_right h] at hj
    have := h2 (j - x.length) v hj
    rwa [show o + x.length + (j - x.length) = o + j by omega] at this
theorem rangeAt_flat {w : World} {b : Nat} (k : Nat) : ∀ (L : List (List Value)) (o : Nat), (∀ c ∈ L, c.length = k) → (∀ i (h : i < L.length), w.rangeAt b (o + i * k) L[i]) → w.rangeAt b o L.flatten
  | [], o, _, _ => fun j v hj => by simp at hj
  | c :: L, o, hk, h => by
    rw [List.flatten_cons]
    refine rangeAt_append (by have := h 0 (by simp); rw [Nat.zero_mul, Nat.add_zero] at this; exact this) ?_
    rw [hk c (List.mem_cons_self ..)]
    refine rangeAt_flat k L (o + k) (fun x hx => hk x (List.mem_cons_of_mem _ hx)) (fun i hi => ?_)
    have := h (i + 1) (by simpa using hi)
    rw [show o + (i + 1) * k = o + k + i * k by rw [Nat.succ_mul]; omega] at this
    exact this
theorem rangeAt_left {w : World} {b o : Nat} {x y : List Value} (h : w.rangeAt b o (x ++ y)) : w.rangeAt b o x := fun j v hj => h j v (by rw [List.getElem?_append_left (List.getElem?_eq_some_iff.1 hj).1]; exact hj)
theorem rangeAt_right {w : World} {b o : Nat} {x y : List Value} (h : w.rangeAt b o (x ++ y)) : w.rangeAt b (o + x.length) y := fun j v hj => by
  have := h (x.length + j) v (by rw [List.getElem?_append_right (by omega), show x.length + j - x.length = j by omega]; exact hj)
  rwa [show o + (x.length + j) = o + x.length + j by omega] at this
theorem rangeAt_each {w : World} {b : Nat} (k : Nat) : ∀ (L : List (List Value)) (o : Nat), (∀ c ∈ L, c.length = k) → w.rangeAt b o L.flatten → ∀ i (h : i < L.length), w.rangeAt b (o + i * k) L[i]
  | [], o, _, _, i, hi => by simp at hi
  | c :: L, o, hk, h, 0, _ => by
    rw [List.flatten_cons] at h
    simpa using rangeAt_left h
  | c :: L, o, hk, h, i + 1, hi => by
    rw [List.flatten_cons] at h
    have h2 := rangeAt_right h
    rw [hk c (List.mem_cons_self ..)] at h2
    have := rangeAt_each k L (o + k) (fun x hx => hk x (List.mem_cons_of_mem _ hx)) h2 i (by simpa using hi)
    rw [show o + k + i * k = o + (i + 1) * k by rw [Nat.succ_mul]; omega] at this
    exact this
/-- What append needs to know of an element's type. -/
structure Elem (ts te : TypeId) (k by' : Nat) : Prop where
  u : Tryd.prog.underlying ts = some (.slice te)
  i : ∃ (i0 : TypeInfo) (z : Value), Tryd.prog.info? te = some i0 ∧ i0.zero = some z ∧ i0.size = k ∧ i0.bytes = by' ∧ z.cells.size = k
  k0 : 0 < k
theorem elem_nil_nil {ts te : TypeId} {k by' : Nat} (E : Elem ts te k by') (w : World) (ty : TypeId) : (Builtin.append_ #[ts, ts] ty #[.slice none 0 0, .slice none 0 0]).run Tryd.prog w = .ok (.slice none 0 0) w := by
  have hu := E.u
  obtain ⟨i0, z, h1, h2, h3, h4, h5⟩ := E.i
  have hs : ∀ w, (sizeOf te).run Tryd.prog w = .ok k w := fun w => by simp [sizeOf, run_typeInfo w h1, h3]
  simp [Builtin.append_, go_sem, run_underlying hu, hs]
theorem elem_own_nil {ts te : TypeId} {k by' : Nat} (E : Elem ts te k by') (w : World) (ty : TypeId) (g n cap : Nat) (h : n ≤ cap) : (Builtin.append_ #[ts, ts] ty #[.slice (some ⟨g, 0, none⟩) n cap, .slice none 0 0]).run Tryd.prog w = .ok (.slice (some ⟨g, 0, none⟩) n cap) w := by
  have hu := E.u
  obtain ⟨i0, z, h1, h2, h3, h4, h5⟩ := E.i
  have hs : ∀ w, (sizeOf te).run Tryd.prog w = .ok k w := fun w => by simp [sizeOf, run_typeInfo w h1, h3]
  simp [Builtin.append_, go_sem, run_underlying hu, hs, h]
theorem wpList_append_row {ts te : TypeId} {k by' : Nat} (E : Elem ts te k by') {ops : Array Oper} {rest : List Oper} {o : Oper} {a : Act} {w : World} {Q : Exit → Act → World → Prop} (hgd : o.guard = none) (s x : Operand) (ho : o.op = .call { callee := .builtin .append, args := #[s, x], argTypes := #[ts, ts] })
    (base : Nat) (v u : Value) (n : Nat) (xs : List Value) (L : List (List Value)) (hs : a.eval s = v) (hown : w.ownsRow base te k v n xs) (hx : a.eval x = u) (hrd : RowR w u k L) (hk : ∀ c ∈ L, c.length = k) (h1 : ∀ c ∈ L, ∀ y ∈ c, y.oneCell' = true) (hlen : n + L.length ≤ 9223372036854775807) (hby : (n + L.length) * by' ≤ 140737488355328) (hbase : base ≤ w.heap.size)
    (h : ∀ v' w', Hid (w'.ownsRow base te k v' (n + L.length) (xs ++ L.flatten)) → Hid (w.grownBy w' v.ownBlock) → Hid (v'.ownBlock = v.ownBlock ∨ v'.ownBlock = some w.heap.size) → wpList Tryd.prog ops Q rest (a.put o.dst v') w') : wpList Tryd.prog ops Q (o :: rest) a w := by
  obtain ⟨i0, z, g1, g2, g3, g4, g5⟩ := E.i
  have one : ∀ y ∈ L.flatten, y.oneCell' = true := by
    intro y hy
    obtain ⟨c, hc, hy⟩ := List.mem_flatten.1 hy
    exact h1 c hc y hy
  have go : ∀ (ad : Addr) (m c : Nat), u = .slice (some ad) m c → m = L.length → (∀ j q, L.flatten[j]? = some q → w.cell? (ad.add j) = some q) → wpList Tryd.prog ops Q (o :: rest) a w := by
    intro ad m c e hm hn
    subst e
    subst hm
    refine wpList_append_own_at w hgd s x ts ho base te i0 z k by' E.u g1 g2 g3 g4 g5 E.k0 v n xs hs hown ad L.length c L.flatten hx (flat_len k L hk) hn one (by unfold maxLen; omega) hby hbase ?_
    intro v' w' e1 e2 _ e4
    exact h v' w' (hide e1) (hide e2) (hide e4)
  obtain ⟨ao, c, rfl, hl, hc0, hL⟩ := hrd
  cases ao with
  | none =>
    obtain rfl : c = 0 := hc0 rfl
    obtain rfl : L = [] := by
      rcases hL with h | ⟨b, o', e, _⟩
      · exact h
      · cases e
    have hh := h v w (hide (by simpa using hown)) (hide ⟨rfl, rfl, rfl, Nat.le_refl _, fun _ _ _ => rfl⟩) (hide (.inl rfl))
    refine wpList_plain hgd fun K hK => ?_
    obtain ⟨_, ⟨rfl, _⟩ | ⟨g, cap, cur, rfl, _, _, hc, _⟩⟩ := hown
    · have hrun := elem_nil_nil E w o.type
      unfold Oper.wp
      simp only [List.length_nil] at hx
      simp [execOp, ho, resolve, invoke, builtin, hs, hx, hrun, Result.andThen]
      exact hK _ _ hh
    · have hrun := elem_own_nil E w o.type g n cap hc
      unfold Oper.wp
      simp only [List.length_nil] at hx
      simp [execOp, ho, resolve, invoke, builtin, hs, hx, hrun, Result.andThen]
      exact hK _ _ hh
  | some ad =>
    refine go ad L.length c rfl rfl ?_
    rcases hL with rfl | ⟨b, o', e, hr⟩
    · intro j q hj; simp at hj
    · obtain rfl := Option.some.inj e
      have := rangeAt_flat k L o' hk hr
      intro j q hj
      rw [Addr.add_mid]
      exact this j q hj
/-- A copy of a row, in memory from B on, with marks behind it. -/
def CopyRow (B : Nat) (w : World) (v : Value) (k : Nat) (L : List (List Value)) (M : List Value) : Prop :=
  ∃ g cap, v = .slice (some ⟨g, 0, none⟩) L.length cap ∧ B ≤ g ∧ L.length + 2 ≤ cap ∧ cap ≤ 9223372036854775807 ∧ w.rangeAt g 0 (L.flatten ++ M)
theorem CopyRow.row {B : Nat} {w : World} {v : Value} {k : Nat} {L : List (List Value)} {M : List Value} (h : CopyRow B w v k L M) (hk : ∀ c ∈ L, c.length = k) : RowR w v k L := by
  obtain ⟨g, cap, h1, _, h2, h3, h4⟩ := h
  exact ⟨_, cap, h1, by omega, (fun e => nomatch e), .inr ⟨g, 0, rfl, rangeAt_each k L 0 hk (rangeAt_left h4)⟩⟩
theorem CopyRow.below {B : Nat} {w w' : World} {v : Value} {k : Nat} {L : List (List Value)} {M : List Value} (h : CopyRow B w v k L M) (hb : Below w.heap.size w w') : CopyRow B w' v k L M := by
  obtain ⟨g, cap, h1, h0, h2, h3, h4⟩ := h
  exact ⟨g, cap, h1, h0, h2, h3, rangeAt_below h4 hb⟩
theorem copyRow_own {B n : Nat} {w : World} {te : TypeId} {v : Value} {k : Nat} {L : List (List Value)} {M : List Value} (h : w.ownsRow B te k v (L.length + 2) (L.flatten ++ M)) (hm : L.length + 2 ≤ 9223372036854775807) : ∃ g cap, v = .slice (some ⟨g, 0, none⟩) (L.length + 2) cap ∧ L.length + 2 ≤ cap ∧ CopyRow B w (.slice (some ⟨g, 0, none⟩) L.length cap) k L M := by
  obtain ⟨h0, ⟨_, h1⟩ | ⟨g, cap, cur, e1, hg, hr, hc, hmx, hs, ht⟩⟩ := h
  · omega
  · refine ⟨g, cap, e1, hc, g, cap, rfl, hg, hc, hmx, fun j v hj => ?_⟩
    rw [Nat.zero_add]
    have hB : Blk w g cur te := hr
    rw [hB.cell, ← Array.getElem?_toList]
    rw [← ht] at hj
    have hjl : j < (cur.toList.take ((L.length + 2) * k)).length := (List.getElem?_eq_some_iff.1 hj).1
    rw [List.length_take] at hjl
    rwa [List.getElem?_take, if_pos (by omega)] at hj
end Go.Proofs.YtjcfndiceinkjaaDoor
