/- The document's filter with its room; rows of ints and of bools of one's own. -/
import Derived.Test.YtbemmhngadpjcaaFP5
import Derived.Test.YtbemmhngadpjcaaWR1
import Derived.Test.YtbemmhngadpjcaaFI8
namespace Go.Proofs.Ytbemmhngadpjcaa
set_option linter.unusedVariables false
set_option linter.unusedSimpArgs false
open Go.RowKit

/-- The document's filter at block z: its bits at the start of block g, with room c. -/
structure RB (w : World) (z g c h : Nat) (bs : List Bool) : Prop where
  zb : Blk w z #[.slice (some ⟨g, 0, none⟩) bs.length c, .int .i64 h] 71
  gb : ∃ cur, Blk w g cur 4 ∧ bs.length ≤ c ∧ cur.size = c ∧ cur.toList.take bs.length = bs.map Value.bool
  hn : 64 ≤ bs.length ∧ bs.length ≤ 1048576
  hh : 1 ≤ h ∧ h ≤ 16
theorem take_at {cur : Array Value} {bs : List Bool} (ht : cur.toList.take bs.length = bs.map Value.bool) (i : Nat) (hi : i < bs.length) : cur[i]? = some (.bool bs[i]) := by
  rw [← Array.getElem?_toList]
  have : (cur.toList.take bs.length)[i]? = some (.bool bs[i]) := by rw [ht]; simp [List.getElem?_eq_getElem hi]
  rw [List.getElem?_take_of_lt hi] at this
  exact this
theorem RB.rf {w : World} {z g c h : Nat} {bs : List Bool} (f : RB w z g c h bs) : RF w z g c h bs := by
  obtain ⟨cur, hB, _, _, ht⟩ := f.gb
  exact ⟨f.zb, fun i hi => by rw [hB.cell]; exact take_at ht i hi, f.hn, f.hh⟩
theorem RB.frozen {w : World} {z g c h : Nat} {bs : List Bool} (f : RB w z g c h bs) (i : Nat) : w.frozen? ⟨g, i, none⟩ = false := by
  obtain ⟨cur, hB, _⟩ := f.gb
  exact hB.frozen i
theorem RB.glt {w : World} {z g c h : Nat} {bs : List Bool} (f : RB w z g c h bs) : g < w.heap.size := by
  obtain ⟨cur, hB, _⟩ := f.gb
  exact hB.lt
theorem RB.below {w w' : World} {z g c h : Nat} {bs : List Bool} (f : RB w z g c h bs) (hb : Below w.heap.size w w') : RB w' z g c h bs := by
  obtain ⟨cur, hB, r⟩ := f.gb
  exact ⟨f.zb.below hb f.zb.lt, ⟨cur, hB.below hb hB.lt, r⟩, f.hn, f.hh⟩
theorem RB.grown {w w' : World} {z g c h : Nat} {bs : List Bool} {row : Option Nat} (f : RB w z g c h bs) (hb : w.grownBy w' row) (h1 : some z ≠ row) (h2 : some g ≠ row) : RB w' z g c h bs := by
  obtain ⟨cur, hB, r⟩ := f.gb
  exact ⟨f.zb.grown hb h1, ⟨cur, hB.grown hb h2, r⟩, f.hn, f.hh⟩
theorem blk_ne {w : World} {a b : Nat} {cs ds : Array Value} {s t : TypeId} (h1 : Blk w a cs s) (h2 : Blk w b ds t) (hne : s ≠ t) : a ≠ b := fun e => by
  unfold Blk at h1 h2
  rw [e, h2] at h1
  have := Obj.cells.inj (Option.some.inj h1)
  exact hne this.2.1.symm
theorem RB.ne {w : World} {z g c h : Nat} {bs : List Bool} (f : RB w z g c h bs) : z ≠ g := by
  obtain ⟨cur, hB, _⟩ := f.gb
  exact blk_ne f.zb hB (by decide)
theorem RB.setB {w : World} {z g c h : Nat} {bs : List Bool} (f : RB w z g c h bs) (k : Nat) (b : Bool) : RB (w.setCell ⟨g, k, none⟩ (.bool b)) z g c h (bs.set k b) := by
  have hne := f.ne
  obtain ⟨cur, hB, h1, h2, h3⟩ := f.gb
  refine ⟨?_, ⟨_, hB.set k (.bool b), by rw [List.length_set]; exact h1, by rw [Array.size_setIfInBounds]; exact h2, ?_⟩, by rw [List.length_set]; exact f.hn, f.hh⟩
  · rw [List.length_set]
    exact f.zb.setOther _ _ hne
  · rw [Array.toList_setIfInBounds, List.map_set, ← h3, List.take_set, List.length_set]
theorem RFil.rb {w : World} {z g h : Nat} {bs : List Bool} (f : RFil w z g h bs) (hn : 64 ≤ bs.length ∧ bs.length ≤ 1048576) (hh : 1 ≤ h ∧ h ≤ 16) : RB w z g bs.length h bs :=
  ⟨f.zb, ⟨_, f.gb, Nat.le_refl _, by simp, by rw [List.take_of_length_le (by simp)]⟩, hn, hh⟩
/-! Rows of ints. -/
def i64c (n : Nat) : Value := .int .i64 (n : Int)
theorem infoI64 : (Try.prog.info? 3).map (fun i => (i.zero, i.size, i.bytes)) = some (some (.int .i64 0), 1, 8) := by kernel_rfl
def OwnsI (w : World) (base : Nat) (v : Value) (xs : List Nat) : Prop := w.ownsRow base 3 1 v xs.length (xs.map i64c)
theorem owns_grown_below {w w' : World} {base : Nat} {e : TypeId} {v : Value} {n : Nat} {ys : List Value} (h : w.ownsRow base e 1 v n ys) (hg : w.grownBy w' v.ownBlock) (hB : base ≤ w.heap.size) : Below base w w' :=
  ⟨hg.os, hg.tape, hg.output, hg.size, fun k hk => hg.block k (by omega) (fun e => by have := (owns_lt h k e.symm).1; omega)⟩
theorem wpList_append_int {ops : Array Oper} {rest : List Oper} {o : Oper} {a : Act} {w : World} {Q : Exit → Act → World → Prop} (hgd : o.guard = none) (s x : Operand) (ho : o.op = .call { callee := .builtin .append, args := #[s, x], argTypes := #[99, 99] })
    (base : Nat) (v : Value) (xs : List Nat) (hs : a.eval s = v) (hown : OwnsI w base v xs) (z c : Nat) (hx : a.eval x = .slice (some ⟨z, 0, none⟩) 1 c) (y : Nat) (hc : w.cell? ⟨z, 0, none⟩ = some (.int .i64 (y : Int))) (hlen : xs.length + 1 ≤ 17592186044000) (hbase : base ≤ w.heap.size)
    (h : ∀ v' w', Hid (OwnsI w' base v' (xs ++ [y])) → Hid (Below base w w') → wpList Try.prog ops Q rest (a.put o.dst v') w') : wpList Try.prog ops Q (o :: rest) a w := by
  obtain ⟨i0, hi, hz0, hz1, hz2⟩ := info_parts infoI64
  refine wpList_append_own_at w hgd s x 99 ho base 3 i0 (.int .i64 0) 1 8 Try.underlying99 hi hz0 hz1 hz2 rfl (by decide) v xs.length (xs.map i64c) hs hown ⟨z, 0, none⟩ 1 c [i64c y] hx rfl ?_ (by intro v hv; simp at hv; subst hv; rfl) (by unfold maxLen; omega) (by omega) hbase ?_
  · intro j u hj
    cases j with
    | zero => cases hj; exact hc
    | succ j => simp at hj
  · intro v' w' h1 h2 _ h4
    exact h v' w' (hide (by unfold OwnsI; rw [List.length_append, List.map_append]; exact h1)) (hide (owns_grown_below hown h2 hbase))
theorem owns_get {w : World} {base g n cap k : Nat} {e : TypeId} {ys : List Value} (h : w.ownsRow base e 1 (.slice (some ⟨g, 0, none⟩) n cap) n ys) (hk : k < ys.length) : w.cell? ⟨g, k, none⟩ = some ys[k] ∧ w.frozen? ⟨g, k, none⟩ = false := by
  obtain ⟨hl, ⟨h1, _⟩ | ⟨g', cap', cur, e', hb, hg, hc, hm, hs, ht⟩⟩ := h
  · cases h1
  · cases e'
    have hB : Blk w g cur e := hg
    refine ⟨?_, hB.frozen k⟩
    rw [hB.cell, ← Array.getElem?_toList]
    have : (cur.toList.take (n * 1))[k]? = some ys[k] := by rw [ht]; exact List.getElem?_eq_getElem hk
    rw [List.getElem?_take_of_lt (by omega)] at this
    exact this
theorem OwnsI.form {w : World} {base : Nat} {v : Value} {xs : List Nat} (h : OwnsI w base v xs) : ∃ ao cap, v = .slice ao xs.length cap ∧ (0 < xs.length → ∃ g, ao = some ⟨g, 0, none⟩) := by
  obtain ⟨hl, ⟨rfl, h2⟩ | ⟨g, cap, cur, rfl, r⟩⟩ := h
  · exact ⟨none, 0, by rw [h2], fun h => by omega⟩
  · exact ⟨some ⟨g, 0, none⟩, cap, rfl, fun _ => ⟨g, rfl⟩⟩
theorem OwnsI.at {w : World} {base g n cap : Nat} {xs : List Nat} (h : OwnsI w base (.slice (some ⟨g, 0, none⟩) n cap) xs) (k : Nat) (hk : k < xs.length) : w.cell? ⟨g, k, none⟩ = some (.int .i64 (xs[k] : Int)) := by
  have h' : w.ownsRow base 3 1 (.slice (some ⟨g, 0, none⟩) n cap) n (xs.map i64c) := by
    have := h
    unfold OwnsI at this
    obtain ⟨hl, ⟨h1, _⟩ | ⟨g', cap', cur, e', r⟩⟩ := this
    · cases h1
    · cases e'
      exact h
  have := (owns_get h' (k := k) (by simpa using hk)).1
  rw [this]
  simp [i64c]
/-! Rows of bools. -/
def OwnsO (w : World) (base : Nat) (v : Value) (xs : List Bool) : Prop := w.ownsRow base 4 1 v xs.length (xs.map Value.bool)
theorem wpList_append_bool {ops : Array Oper} {rest : List Oper} {o : Oper} {a : Act} {w : World} {Q : Exit → Act → World → Prop} (hgd : o.guard = none) (s x : Operand) (ho : o.op = .call { callee := .builtin .append, args := #[s, x], argTypes := #[69, 69] })
    (base : Nat) (v : Value) (xs : List Bool) (hs : a.eval s = v) (hown : OwnsO w base v xs) (z c : Nat) (hx : a.eval x = .slice (some ⟨z, 0, none⟩) 1 c) (y : Bool) (hc : w.cell? ⟨z, 0, none⟩ = some (.bool y)) (hlen : xs.length + 1 ≤ 17592186044000) (hbase : base ≤ w.heap.size)
    (h : ∀ v' w', Hid (OwnsO w' base v' (xs ++ [y])) → Hid (Below base w w') → wpList Try.prog ops Q rest (a.put o.dst v') w') : wpList Try.prog ops Q (o :: rest) a w := by
  obtain ⟨i0, hi, hz0, hz1, hz2⟩ := info_parts infoBo
  refine wpList_append_own_at w hgd s x 69 ho base 4 i0 (.bool false) 1 1 Try.underlying69 hi hz0 hz1 hz2 rfl (by decide) v xs.length (xs.map Value.bool) hs hown ⟨z, 0, none⟩ 1 c [.bool y] hx rfl ?_ (by intro v hv; simp at hv; subst hv; rfl) (by unfold maxLen; omega) (by omega) hbase ?_
  · intro j u hj
    cases j with
    | zero => cases hj; exact hc
    | succ j => simp at hj
  · intro v' w' h1 h2 _ h4
    exact h v' w' (hide (by unfold OwnsO; rw [List.length_append, List.map_append]; exact h1)) (hide (owns_grown_below hown h2 hbase))
theorem OwnsO.parts {w : World} {base : Nat} {v : Value} {xs : List Bool} (h : OwnsO w base v xs) (h0 : 0 < xs.length) : ∃ g c, v = .slice (some ⟨g, 0, none⟩) xs.length c ∧ base ≤ g ∧ ∃ cur, Blk w g cur 4 ∧ xs.length ≤ c ∧ cur.size = c ∧ cur.toList.take xs.length = xs.map Value.bool := by
  obtain ⟨hl, ⟨_, h2⟩ | ⟨g, cap, cur, rfl, hb, hg, hc, hm, hs, ht⟩⟩ := h
  · omega
  · exact ⟨g, cap, rfl, hb, cur, hg, hc, by omega, by rw [← ht, Nat.mul_one]⟩
end Go.Proofs.Ytbemmhngadpjcaa
