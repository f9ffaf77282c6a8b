/- Rows of bytes. -/
import Derived.Test.YtbemmhngadpjcaaWD3
import Derived.Maps.AppendAt
namespace Go.Proofs.Ytbemmhngadpjcaa
set_option linter.unusedVariables false
set_option linter.unusedSimpArgs false
open Go.RowKit

theorem append_nil_nil (w : World) (ty : TypeId) : (Builtin.append_ #[49, 49] ty #[.slice none 0 0, .slice none 0 0]).run Try.prog w = .ok (.slice none 0 0) w := by
  have hu := Try.underlying49
  simp [Builtin.append_, go_sem, hu]
theorem append_own_nil (w : World) (ty : TypeId) (g n cap : Nat) (h : n ≤ cap) : (Builtin.append_ #[49, 49] ty #[.slice (some ⟨g, 0, none⟩) n cap, .slice none 0 0]).run Try.prog w = .ok (.slice (some ⟨g, 0, none⟩) n cap) w := by
  have hu := Try.underlying49
  have hs : (sizeOf 5).run Try.prog w = .ok 1 w := by kernel_rfl
  simp [Builtin.append_, go_sem, hu, hs, h]
/-- A row of the call's own that holds these bytes. -/
def OwnsB (w : World) (base : Nat) (v : Value) (xs : List UInt8) : Prop := w.ownsRow base 5 1 v xs.length (xs.map u8c)
theorem owns_grown {w w' : World} {base : Nat} {e : TypeId} {v : Value} {n : Nat} {ys : List Value} {row : Option Nat} (h : w.ownsRow base e 1 v n ys) (hg : w.grownBy w' row) (hne : ∀ g, v.ownBlock = some g → some g ≠ row) : w'.ownsRow base e 1 v n ys := by
  obtain ⟨h0, h1 | ⟨g, cap, cur, rfl, hb, hh, hr⟩⟩ := h
  · exact ⟨h0, .inl h1⟩
  · have hlt : g < w.heap.size := Blk.lt (cs := cur) (t := e) hh
    exact ⟨h0, .inr ⟨g, cap, cur, rfl, hb, (hg.block g hlt (hne g rfl)).trans hh, hr⟩⟩
theorem owns_lt {w : World} {base : Nat} {e : TypeId} {v : Value} {n : Nat} {ys : List Value} (h : w.ownsRow base e 1 v n ys) (g : Nat) (hg : v.ownBlock = some g) : base ≤ g ∧ g < w.heap.size := by
  obtain ⟨h0, ⟨rfl, _⟩ | ⟨g', cap, cur, rfl, hb, hh, hr⟩⟩ := h
  · cases hg
  · cases hg
    exact ⟨hb, Blk.lt (cs := cur) (t := e) hh⟩
theorem owns_below {w w' : World} {base : Nat} {e : TypeId} {v : Value} {n : Nat} {ys : List Value} (h : w.ownsRow base e 1 v n ys) (hb : Below w.heap.size w w') : w'.ownsRow base e 1 v n ys :=
  owns_grown (row := none) h (grownBy_below hb) (fun _ _ => by simp)

/-- append of bytes to a row of the call's own: where the new row lies. -/
theorem wpList_append_rdX {ops : Array Oper} {rest : List Oper} {o : Oper} {a : Act} {w : World} {Q : Exit → Act → World → Prop} (hgd : o.guard = none) (s x : Operand) (ho : o.op = .call { callee := .builtin .append, args := #[s, x], argTypes := #[49, 49] })
    (base : Nat) (v u : Value) (xs ys : List UInt8) (hs : a.eval s = v) (hown : w.ownsRow base 5 1 v xs.length (xs.map u8c)) (hx : a.eval x = u) (hrd : RdA w u ys) (hlen : xs.length + ys.length ≤ 140737488355000) (hbase : base ≤ w.heap.size)
    (h : ∀ v' w', Hid (OwnsB w' base v' (xs ++ ys)) → Hid (w.grownBy w' v.ownBlock) → Hid (v'.ownBlock = v.ownBlock ∨ v'.ownBlock = some w.heap.size) → wpList Try.prog ops Q rest (a.put o.dst v') w') : wpList Try.prog ops Q (o :: rest) a w := by
  obtain ⟨i0, hi, hz0, hz1, hz2⟩ := info_parts infoU8
  have go : ∀ (ad : Addr) (m c : Nat), u = .slice (some ad) m c → m = ys.length → (∀ j q, (ys.map u8c)[j]? = some q → w.cell? (ad.add j) = some q) → wpList Try.prog ops Q (o :: rest) a w := by
    intro ad m c e hm hn
    subst e
    subst hm
    refine wpList_append_own_at w hgd s x 49 ho base 5 i0 (.int .u8 0) 1 1 Try.underlying49 hi hz0 hz1 hz2 rfl (by decide) v xs.length (xs.map u8c) hs hown ad ys.length c (ys.map u8c) hx (by simp) hn (u8c_one ys) (by unfold maxLen; omega) (by omega) hbase ?_
    intro v' w' h1 h2 _ h4
    exact h v' w' (hide (by unfold OwnsB; rw [List.length_append, List.map_append]; exact h1)) (hide h2) (hide h4)
  rcases hrd with hrd | ⟨ad, rfl, rfl⟩
  · rcases hrd.form with ⟨rfl, rfl⟩ | ⟨b, o', c, e, hcell⟩
    · have hh := h v w (hide (by unfold OwnsB; simpa using hown)) (hide ⟨rfl, rfl, rfl, Nat.le_refl _, fun _ _ _ => rfl⟩) (hide (.inl rfl))
      refine wpList_plain hgd fun K hK => ?_
      obtain ⟨_, ⟨rfl, _⟩ | ⟨g, cap, cur, rfl, _, _, hc, _⟩⟩ := hown
      · have hrun := append_nil_nil w o.type
        unfold Oper.wp
        simp [execOp, ho, resolve, invoke, builtin, hs, hx, hrun, Result.andThen]
        exact hK _ _ hh
      · have hrun := append_own_nil w o.type g xs.length cap hc
        unfold Oper.wp
        simp [execOp, ho, resolve, invoke, builtin, hs, hx, hrun, Result.andThen]
        exact hK _ _ hh
    · exact go ⟨b, o', none⟩ ys.length c e rfl (Rd_news hcell)
  · exact go ad 0 0 rfl rfl (fun j q hj => by simp at hj)


theorem conv_rdA (w : World) (v : Value) (xs : List UInt8) (h : RdA w v xs) : (convert 49 9 v).run Try.prog w = .ok (.string ⟨xs.toArray⟩) w := by
  rcases h with h | ⟨a, rfl, rfl⟩
  · exact conv_rd w v xs h
  · kernel_rfl

theorem Rd_owned {w : World} {base : Nat} {v : Value} {xs : List UInt8} (h : w.ownsRow base 5 1 v xs.length (xs.map u8c)) : Rd w v xs := by
  obtain ⟨h0, ⟨rfl, hn⟩ | ⟨g, cap, cur, rfl, hb, hg, hc, hm, hs, ht⟩⟩ := h
  · obtain rfl : xs = [] := List.eq_nil_of_length_eq_zero hn
    exact Rd_none w
  · refine ⟨some ⟨g, 0, none⟩, cap, rfl, hc, hm, .inr ⟨g, 0, rfl, fun i hi => ?_⟩⟩
    have hB : Blk w g cur 5 := hg
    rw [Nat.zero_add, hB.cell, ← Array.getElem?_toList]
    have : (cur.toList.take (xs.length * 1))[i]? = some (u8c xs[i]) := by rw [ht]; simp [List.getElem?_eq_getElem hi]
    rw [List.getElem?_take_of_lt (by omega)] at this
    exact this

theorem own_cell {w : World} {base g n cap : Nat} {ys : List Value} (h : w.ownsRow base 5 1 (.slice (some ⟨g, 0, none⟩) n cap) n ys) (hall : ∀ y ∈ ys, ∃ q, y = .int .u8 q) (k : Nat) (hk : k < n) :
    (∃ q, w.cell? ⟨g, k, none⟩ = some (.int .u8 q)) ∧ w.frozen? ⟨g, k, none⟩ = false ∧ base ≤ g := by
  obtain ⟨hl, ⟨h1, _⟩ | ⟨g', cap', cur, e, hb, hg, hc, hm, hs, ht⟩⟩ := h
  · cases h1
  · cases e
    have hB : Blk w g cur 5 := hg
    have hlt : k < ys.length := by omega
    obtain ⟨q, hq⟩ := hall ys[k] (List.getElem_mem hlt)
    refine ⟨⟨q, ?_⟩, hB.frozen k, hb⟩
    rw [hB.cell, ← Array.getElem?_toList]
    have : (cur.toList.take (n * 1))[k]? = some (.int .u8 q) := by rw [ht, List.getElem?_eq_getElem hlt, hq]
    rwa [List.getElem?_take_of_lt (by omega)] at this
theorem own_set {w : World} {base g n cap : Nat} {ys : List Value} (h : w.ownsRow base 5 1 (.slice (some ⟨g, 0, none⟩) n cap) n ys) (hall : ∀ y ∈ ys, ∃ q, y = .int .u8 q) (k : Nat) (hk : k < n) (q : Int) :
    ∃ ys', (w.setCell ⟨g, k, none⟩ (.int .u8 q)).ownsRow base 5 1 (.slice (some ⟨g, 0, none⟩) n cap) n ys' ∧ (∀ y ∈ ys', ∃ q, y = .int .u8 q) := by
  obtain ⟨hl, ⟨h1, _⟩ | ⟨g', cap', cur, e, hb, hg, hc, hm, hs, ht⟩⟩ := h
  · cases h1
  · cases e
    refine ⟨ys.set k (.int .u8 q), ⟨by simpa using hl, .inr ⟨g, cap, cur.setIfInBounds k (.int .u8 q), rfl, hb, heap_setCell_same w g k cur _ _ hg, hc, hm, by simpa using hs, ?_⟩⟩, ?_⟩
    · rw [Array.toList_setIfInBounds, ← ht, List.take_set]
    · intro y hy
      rcases List.mem_or_eq_of_mem_set hy with h | h
      · exact hall y h
      · exact ⟨q, h⟩
end Go.Proofs.Ytbemmhngadpjcaa
