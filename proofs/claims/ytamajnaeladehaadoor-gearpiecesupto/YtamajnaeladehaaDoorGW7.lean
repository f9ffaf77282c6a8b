/- A row of slices of bytes put behind another; parts. -/
import Derived.Test.YtamajnaeladehaaDoorGW6
namespace Go.Proofs.YtamajnaeladehaaDoor
set_option linter.unusedVariables false
set_option linter.unusedSimpArgs false
open Go.RowKit

theorem appendSl_nil_nil (w : World) (ty : TypeId) : (Builtin.append_ #[42, 42] ty #[.slice none 0 0, .slice none 0 0]).run Tryd.prog w = .ok (.slice none 0 0) w := by
  have hu := Tryd.underlying42
  simp [Builtin.append_, go_sem, hu]
theorem appendSl_own_nil (w : World) (ty : TypeId) (g n cap : Nat) (h : n ≤ cap) : (Builtin.append_ #[42, 42] ty #[.slice (some ⟨g, 0, none⟩) n cap, .slice none 0 0]).run Tryd.prog w = .ok (.slice (some ⟨g, 0, none⟩) n cap) w := by
  have hu := Tryd.underlying42
  have hs : (sizeOf 24).run Tryd.prog w = .ok 1 w := by kernel_rfl
  simp [Builtin.append_, go_sem, hu, hs, h]
theorem own_cellV {w : World} {base : Nat} {e : TypeId} {g n c : Nat} {ys : List Value} (h : w.ownsRow base e 1 (.slice (some ⟨g, 0, none⟩) n c) n ys) : ∀ j u, ys[j]? = some u → w.cell? ⟨g, j, none⟩ = some u := by
  intro j u hj
  obtain ⟨hl, ⟨e1, _⟩ | ⟨g', cap, cur, e1, _, hh, _, _, hs, ht⟩⟩ := h
  · cases e1
  · cases e1
    have h1 : j < ys.length := by
      rcases Nat.lt_or_ge j ys.length with q | q
      · exact q
      · rw [List.getElem?_eq_none q] at hj; cases hj
    rw [← ht, List.getElem?_take_of_lt (by omega)] at hj
    unfold World.cell?
    simp only [hh]
    simpa using hj
theorem wpList_append_sls {ops : Array Oper} {rest : List Oper} {o : Oper} {a : Act} {w : World} {Q : Exit → Act → World → Prop} (hgd : o.guard = none) (s x : Operand) (ho : o.op = .call { callee := .builtin .append, args := #[s, x], argTypes := #[42, 42] })
    (base base' : Nat) (v u : Value) (n m : Nat) (vals news : List Value) (hs : a.eval s = v) (hown : w.ownsRow base 24 1 v n vals) (hx : a.eval x = u) (hu : w.ownsRow base' 24 1 u m news) (h1 : ∀ q ∈ news, q.oneCell' = true) (hlen : n + m ≤ 5864062014000) (hbase : base ≤ w.heap.size)
    (h : ∀ v' w', Hid (w'.ownsRow base 24 1 v' (n + m) (vals ++ news)) → Hid (w.grownBy w' v.ownBlock) → wpList Tryd.prog ops Q rest (a.put o.dst v') w') : wpList Tryd.prog ops Q (o :: rest) a w := by
  obtain ⟨i0, hi, hz0, hz1, hz2⟩ := info_parts infoSl
  have hu' := hu
  obtain ⟨hnl, ⟨rfl, rfl⟩ | ⟨g, cap, cur, rfl, _, _, _⟩⟩ := hu
  · obtain rfl : news = [] := List.eq_nil_of_length_eq_zero (by omega)
    have hh := h v w (hide (by simpa using hown)) (hide ⟨rfl, rfl, rfl, Nat.le_refl _, fun _ _ _ => rfl⟩)
    refine wpList_plain hgd fun K hK => ?_
    obtain ⟨_, ⟨rfl, _⟩ | ⟨g, cap, cur, rfl, _, _, hc, _⟩⟩ := hown
    · have hrun := appendSl_nil_nil w o.type
      unfold Oper.wp
      simp [execOp, ho, resolve, invoke, builtin, hs, hx, hrun, Result.andThen]
      exact hK _ _ hh
    · have hrun := appendSl_own_nil w o.type g n cap hc
      unfold Oper.wp
      simp [execOp, ho, resolve, invoke, builtin, hs, hx, hrun, Result.andThen]
      exact hK _ _ hh
  · refine wpList_append_own_at w hgd s x 42 ho base 24 i0 (.slice none 0 0) 1 24 Tryd.underlying42 hi hz0 hz1 hz2 rfl (by decide) v n vals hs hown ⟨g, 0, none⟩ m cap news hx (by omega) ?_ h1 (by unfold maxLen; omega) (by omega) hbase ?_
    · intro j q hj
      have := own_cellV hu' j q hj
      rw [show (⟨g, 0, none⟩ : Addr).add j = ⟨g, j, none⟩ by cases j <;> simp [Addr.add]]
      exact this
    · intro v' w' h1 h2 _ _
      exact h v' w' (hide h1) (hide h2)
theorem Pcs.one {w : World} {B : Nat} {vals : List Value} {ps : List (List UInt8)} {N : Nat → Prop} (h : Pcs w B vals ps N) : ∀ q ∈ vals, q.oneCell' = true := by
  intro q hq
  obtain ⟨i, hi, rfl⟩ := List.mem_iff_getElem.mp hq
  obtain ⟨ao, c, e, -⟩ := own_formB (h.2 i (by rw [← h.1]; exact hi) _ (List.getElem?_eq_getElem hi)).1
  rw [e]
  rfl
theorem RdA.block {w : World} {v : Value} {xs : List UInt8} (h : RdA w v xs) (hp : 0 < xs.length) (b o l c : Nat) (e : v = .slice (some ⟨b, o, none⟩) l c) : b < w.heap.size := by
  obtain ⟨b', o', c', e', hc⟩ := h.at 0 hp
  rw [e] at e'
  obtain ⟨e1, _, _⟩ := (Value.slice.injEq ..).mp e'
  cases e1
  exact World.block_lt_of_cell? w _ hc
/-- A row of slices of bytes. -/
def Parts (w : World) (ap : Option Addr) (ps : List (List UInt8)) : Prop := ∀ i (h : i < ps.length), ∃ b o v, ap = some ⟨b, o, none⟩ ∧ w.cell? ⟨b, o + i, none⟩ = some v ∧ RdA w v ps[i]
theorem block_lt_of_cell {w : World} {a : Addr} {v : Value} (h : w.cell? a = some v) : a.block < w.heap.size := World.block_lt_of_cell? w _ h
theorem Parts.below {w w' : World} {ap : Option Addr} {ps : List (List UInt8)} (h : Parts w ap ps) (hb : Below w.heap.size w w') : Parts w' ap ps := by
  intro i hi
  obtain ⟨b, o, v, e, hc, hr⟩ := h i hi
  exact ⟨b, o, v, e, by rw [hb.cell (block_lt_of_cell hc)]; exact hc, hr.below hb⟩
/-- The first i parts, joined. -/
def joinTo (ps : List (List UInt8)) (i : Nat) : List UInt8 := (ps.take i).flatten
theorem joinTo_zero (ps : List (List UInt8)) : joinTo ps 0 = [] := rfl
theorem joinTo_succ (ps : List (List UInt8)) (i : Nat) (h : i < ps.length) : joinTo ps (i + 1) = joinTo ps i ++ ps[i] := by
  unfold joinTo
  rw [List.take_succ_eq_append_getElem h, List.flatten_append]; simp
theorem joinTo_mono (ps : List (List UInt8)) (i j : Nat) (h : i ≤ j) : (joinTo ps i).length ≤ (joinTo ps j).length := by
  unfold joinTo
  have : ps.take j = ps.take i ++ (ps.take j).drop i := by
    conv => lhs; rw [← List.take_append_drop i (ps.take j)]
    rw [List.take_take, Nat.min_eq_left h]
  rw [this, List.flatten_append, List.length_append]; omega
theorem Parts.part {w : World} {ap : Option Addr} {ps : List (List UInt8)} (h : Parts w ap ps) (i : Nat) (hi : i < ps.length) : ∃ b o ao c, ap = some ⟨b, o, none⟩ ∧ ps[i].length ≤ 9223372036854775807 ∧ (∀ b' o', ao = some ⟨b', o', none⟩ → 0 < ps[i].length → b' < w.heap.size) ∧ ∀ W, Below w.heap.size w W → W.cell? ⟨b, o + i, none⟩ = some (.slice ao ps[i].length c) ∧ RdA W (.slice ao ps[i].length c) ps[i] := by
  obtain ⟨b, o, v, e, hc, hr⟩ := h i hi
  obtain ⟨ao, c, rfl, hl⟩ := hr.slice
  refine ⟨b, o, ao, c, e, hl, fun b' o' e2 hp => ?_, fun W hW => ⟨by rw [hW.cell (block_lt_of_cell hc)]; exact hc, hr.below hW⟩⟩
  subst e2
  exact hr.block hp b' o' _ _ rfl
end Go.Proofs.YtamajnaeladehaaDoor
