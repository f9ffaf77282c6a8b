/- Rows of floats; the place of the least of some rates. -/
import Derived.Test.YtbemmhngadpjcabGE0
import Derived.Laws.FloatArith
import Derived.Laws.Cover2
import Derived.Maps.AppendAt
import Derived.Deep.OwnRows
namespace Go.Proofs.Ytbemmhngadpjcab
set_option linter.unusedVariables false
set_option linter.unusedSimpArgs false
open Go.RowKit Go.Sort Ieee

def NAN : Nat := 9221120237041090561
theorem Below.step {a b c : World} (h : Below a.heap.size a b) (k : Below b.heap.size b c) : Below a.heap.size a c := h.trans (k.mono h.size)
@[go_sem] theorem run_store_float (P : Program) (w : World) (a : Addr) (m : Mode) (k : FloatKind) (b : Nat) : (store a (.float k b) m).run P w = stored P w a (.float k b) m := run_store P w a _ m rfl
/-- A slice of floats that can be read. -/
def RdF (w : World) (v : Value) (xs : List Nat) : Prop :=
  ∃ ao c, v = .slice ao xs.length c ∧ xs.length ≤ 9223372036854775807 ∧ (0 < xs.length → ∃ b o, ao = some ⟨b, o, none⟩ ∧ ∀ k (h : k < xs.length), w.cell? ⟨b, o + k, none⟩ = some (.float .f64 xs[k]))
theorem RdF.below {w w' : World} {v : Value} {xs : List Nat} (h : RdF w v xs) (hb : Below w.heap.size w w') : RdF w' v xs := by
  obtain ⟨ao, c, e, hl, hf⟩ := h
  refine ⟨ao, c, e, hl, fun h0 => ?_⟩
  obtain ⟨b, o, e2, hc⟩ := hf h0
  exact ⟨b, o, e2, fun k hk => (hb.cell (World.block_lt_of_cell? w _ (hc k hk))).trans (hc k hk)⟩
/-- A slice of bools that can be read. -/
def RdZ (w : World) (v : Value) (xs : List Bool) : Prop :=
  ∃ ao c, v = .slice ao xs.length c ∧ xs.length ≤ 9223372036854775807 ∧ (0 < xs.length → ∃ b o, ao = some ⟨b, o, none⟩ ∧ ∀ k (h : k < xs.length), w.cell? ⟨b, o + k, none⟩ = some (.bool xs[k]))
theorem RdZ.below {w w' : World} {v : Value} {xs : List Bool} (h : RdZ w v xs) (hb : Below w.heap.size w w') : RdZ w' v xs := by
  obtain ⟨ao, c, e, hl, hf⟩ := h
  refine ⟨ao, c, e, hl, fun h0 => ?_⟩
  obtain ⟨b, o, e2, hc⟩ := hf h0
  exact ⟨b, o, e2, fun k hk => (hb.cell (World.block_lt_of_cell? w _ (hc k hk))).trans (hc k hk)⟩
def f64c (n : Nat) : Value := .float .f64 n
theorem infoF64 : (Try.prog.info? 24).map (fun i => (i.zero, i.size, i.bytes)) = some (some (.float .f64 0), 1, 8) := by kernel_rfl
theorem f64c_one (xs : List Nat) : ∀ v ∈ xs.map f64c, v.oneCell' = true := by
  intro v hv
  obtain ⟨u, _, rfl⟩ := List.mem_map.1 hv
  rfl
def OwnsF (w : World) (base : Nat) (v : Value) (xs : List Nat) : Prop := w.ownsRow base 24 1 v xs.length (xs.map f64c)
theorem ownsF_ge {w : World} {base : Nat} {v : Value} {xs : List Nat} (h : OwnsF w base v xs) (g : Nat) (hg : v.ownBlock = some g) : base ≤ g := by
  obtain ⟨h0, ⟨rfl, _⟩ | ⟨g', cap, cur, rfl, hb, hh, hr⟩⟩ := h
  · cases hg
  · cases hg
    exact hb
theorem OwnsF.below {w w' : World} {base : Nat} {v : Value} {xs : List Nat} (h : OwnsF w base v xs) (hb : Below w.heap.size w w') : OwnsF w' base v xs := by
  obtain ⟨h0, h1 | ⟨g, cap, cur, rfl, hb', hh, hr⟩⟩ := h
  · exact ⟨h0, .inl h1⟩
  · have hlt : g < w.heap.size := Blk.lt (cs := cur) (t := 24) hh
    exact ⟨h0, .inr ⟨g, cap, cur, rfl, hb', (hb.block g hlt).trans hh, hr⟩⟩
theorem OwnsF.rdF {w : World} {base : Nat} {v : Value} {xs : List Nat} (h : OwnsF w base v xs) : RdF w v xs := by
  obtain ⟨hl, ⟨rfl, h2⟩ | ⟨g, cap, cur, rfl, hb, hg, hc, hm, hs, ht⟩⟩ := h
  · exact ⟨none, 0, by rw [h2], by omega, fun h => by omega⟩
  · refine ⟨some ⟨g, 0, none⟩, cap, rfl, by unfold maxLen at hm; omega, fun h0 => ⟨g, 0, rfl, fun k hk => ?_⟩⟩
    have hB : Blk w g cur 24 := hg
    rw [Nat.zero_add, hB.cell, ← Array.getElem?_toList]
    have : (cur.toList.take (xs.length * 1))[k]? = some (f64c xs[k]) := by rw [ht]; simp [List.getElem?_eq_getElem hk]
    rw [List.getElem?_take_of_lt (by omega)] at this
    exact this
theorem grown_below {w w' : World} {base : Nat} {v : Value} {xs : List Nat} (h : OwnsF w base v xs) (hg : w.grownBy w' v.ownBlock) (hB : base ≤ w.heap.size) : Below base w w' :=
  ⟨hg.os, hg.tape, hg.output, hg.size, fun k hk => hg.block k (by omega) (fun e => by have := ownsF_ge h k e.symm; omega)⟩
/-- One more float, onto a row of one's own. -/
theorem wpList_append_oneF {ops : Array Oper} {rest : List Oper} {o : Oper} {a : Act} {w : World} {Q : Exit → Act → World → Prop} (hgd : o.guard = none) (s x : Operand) (ho : o.op = .call { callee := .builtin .append, args := #[s, x], argTypes := #[22, 22] })
    (base : Nat) (v : Value) (xs : List Nat) (hs : a.eval s = v) (hown : OwnsF w base v xs) (z c : Nat) (hx : a.eval x = .slice (some ⟨z, 0, none⟩) 1 c) (q : Nat) (hc : w.cell? ⟨z, 0, none⟩ = some (.float .f64 q)) (hlen : xs.length + 1 ≤ 17592186044416) (hbase : base ≤ w.heap.size)
    (h : ∀ v' w', Hid (OwnsF w' base v' (xs ++ [q])) → Hid (Below base w w') → wpList Try.prog ops Q rest (a.put o.dst v') w') : wpList Try.prog ops Q (o :: rest) a w := by
  obtain ⟨i0, hi, hz0, hz1, hz2⟩ := info_parts infoF64
  have hnews : ∀ j u, [Value.float .f64 q][j]? = some u → w.cell? ((⟨z, 0, none⟩ : Addr).add j) = some u := by
    intro j u hj
    cases j with
    | zero => cases hj; exact hc
    | succ j => simp at hj
  have h1c : ∀ u ∈ [Value.float .f64 q], u.oneCell' = true := by intro v hv; simp at hv; subst hv; rfl
  refine wpList_append_own_at w hgd s x 22 ho base 24 i0 (.float .f64 0) 1 8 Try.underlying22 hi hz0 hz1 hz2 rfl (by decide) v xs.length (xs.map f64c) hs hown ⟨z, 0, none⟩ 1 c [.float .f64 q] hx rfl hnews h1c (by unfold maxLen; omega) (by omega) hbase ?_
  intro v' w' h1 h2 _ _
  exact h v' w' (hide (by unfold OwnsF; rw [List.length_append, List.map_append]; exact h1)) (hide (grown_below hown h2 hbase))
theorem append_nilF (w : World) (ty : TypeId) (c : Nat) : (Builtin.append_ #[22, 22] ty #[.slice none 0 0, .slice none 0 c]).run Try.prog w = .ok (.slice none 0 0) w := by
  obtain ⟨i0, hi, hz0, hz1, hz2⟩ := info_parts infoF64
  simp [Builtin.append_, run_underlying Try.underlying22, sizeOf, typeInfo, hi, Builtin.lenOf, Builtin.firstCells, loadCells, loadCellsFrom]
theorem wpList_append_copyF {ops : Array Oper} {rest : List Oper} {o : Oper} {a : Act} {w : World} {Q : Exit → Act → World → Prop} (hgd : o.guard = none) (s x : Operand) (ho : o.op = .call { callee := .builtin .append, args := #[s, x], argTypes := #[22, 22] })
    (u : Value) (ys : List Nat) (hs : a.eval s = .slice none 0 0) (hx : a.eval x = u) (hrd : RdF w u ys) (hlen : ys.length ≤ 17592186044416)
    (h : ∀ v' w', Hid (OwnsF w' w.heap.size v' ys) → Hid (Below w.heap.size w w') → wpList Try.prog ops Q rest (a.put o.dst v') w') : wpList Try.prog ops Q (o :: rest) a w := by
  obtain ⟨i0, hi, hz0, hz1, hz2⟩ := info_parts infoF64
  obtain ⟨ao, c, rfl, hl, hf⟩ := hrd
  have go : ∀ (ad : Addr), ao = some ad → (∀ j q, (ys.map f64c)[j]? = some q → w.cell? (ad.add j) = some q) → wpList Try.prog ops Q (o :: rest) a w := by
    intro ad e hn
    subst e
    refine wpList_append_own_at w hgd s x 22 ho w.heap.size 24 i0 (.float .f64 0) 1 8 Try.underlying22 hi hz0 hz1 hz2 rfl (by decide) (.slice none 0 0) 0 [] hs (World.ownsRow_nil _ _ _ _) ad ys.length c (ys.map f64c) hx (by simp) hn (f64c_one ys) (by unfold maxLen; omega) (by omega) (Nat.le_refl _) ?_
    intro v' w' h1 h2 _ _
    refine h v' w' (hide (by unfold OwnsF; simpa using h1)) (hide ⟨h2.os, h2.tape, h2.output, h2.size, fun k hk => h2.block k hk (by simp [Value.ownBlock])⟩)
  rcases Nat.eq_zero_or_pos ys.length with h0 | h0
  · obtain rfl : ys = [] := List.eq_nil_of_length_eq_zero h0
    cases ao with
    | none =>
      have hh := h (.slice none 0 0) w (hide (World.ownsRow_nil _ _ _ _)) (hide (Below.refl _ _))
      refine wpList_plain hgd fun K hK => ?_
      have hrun := append_nilF w o.type c
      unfold Oper.wp
      simp [execOp, ho, resolve, invoke, builtin, hs, hx, hrun, Result.andThen]
      exact hK _ _ hh
    | some ad => exact go ad rfl (fun j q hj => by simp at hj)
  · obtain ⟨b, o', e, hc⟩ := hf h0
    refine go _ e (fun j q hj => ?_)
    have hjl : j < ys.length := by
      rcases Nat.lt_or_ge j ys.length with h | h
      · exact h
      · simp [List.getElem?_eq_none (show (ys.map f64c).length ≤ j by simpa using h)] at hj
    rw [Addr.add_mid, hc j hjl]
    simpa [List.getElem?_eq_getElem hjl, f64c] using hj
/-! What the least is -/
def isNan (x : Nat) : Bool := double.order x x != some .eq
def ltF (x y : Nat) : Bool := double.order x y == some .lt
/-- The place of the least of the first k; none: -1. -/
def bestK (L : List Nat) : Nat → Option Nat
  | 0 => none
  | k + 1 => if isNan (L[k]?.getD 0) then bestK L k else match bestK L k with
    | none => some k
    | some j => if ltF (L[k]?.getD 0) (L[j]?.getD 0) then some k else some j
def bestI (o : Option Nat) : Int := match o with
  | none => -1
  | some j => j
theorem bestK_lt (L : List Nat) : ∀ k j, bestK L k = some j → j < k
  | 0, j, h => by cases h
  | k + 1, j, h => by
    rw [bestK] at h
    split at h
    · have := bestK_lt L k j h; omega
    · split at h
      · cases h; omega
      · next j' e =>
        have := bestK_lt L k j' e
        split at h <;> cases h <;> omega
end Go.Proofs.Ytbemmhngadpjcab
