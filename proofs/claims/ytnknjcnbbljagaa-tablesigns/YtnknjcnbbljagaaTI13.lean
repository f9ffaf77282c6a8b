/- Rows of ints; pairs. -/
import Derived.Test.YtnknjcnbbljagaaTI12
import Derived.Maps.OwnIn
import Derived.Maps.AppendAt
import Derived.Lib.OwnKind
import Derived.LoopN
namespace Go.Proofs.Ytnknjcnbbljagaa
set_option linter.unusedVariables false
set_option linter.unusedSimpArgs false
set_option maxRecDepth 100000
open Go.RowKit
attribute [local go_sem] Oper.semAt_some

def i64c (n : Int) : Value := .int .i64 n
theorem infoI64 : (Try.prog.info? 3).map (fun i => (i.zero, i.size, i.bytes)) = some (some (.int .i64 0), 1, 8) := by kernel_rfl
/-- A row of the call's own that holds these ints. -/
def OwnsI (w : World) (base : Nat) (v : Value) (xs : List Int) : Prop := w.ownsRow base 3 1 v xs.length (xs.map i64c)
theorem OwnsI.below {w w' : World} {base : Nat} {v : Value} {xs : List Int} (h : OwnsI w base v xs) (hb : Below w.heap.size w w') : OwnsI w' base v xs := owns_below h hb
theorem OwnsI.form {w : World} {base : Nat} {v : Value} {xs : List Int} (h : OwnsI w base v xs) : ∃ ao cap, v = .slice ao xs.length cap ∧ (0 < xs.length → ∃ g, ao = some ⟨g, 0, none⟩) := by
  obtain ⟨hl, ⟨rfl, h2⟩ | ⟨g, cap, cur, rfl, r⟩⟩ := h
  · exact ⟨none, 0, by rw [h2], fun h => by omega⟩
  · exact ⟨some ⟨g, 0, none⟩, cap, rfl, fun _ => ⟨g, rfl⟩⟩
theorem OwnsI.at {w : World} {base g n cap : Nat} {xs : List Int} (h : OwnsI w base (.slice (some ⟨g, 0, none⟩) n cap) xs) (k : Nat) (hk : k < xs.length) : w.cell? ⟨g, k, none⟩ = some (.int .i64 xs[k]) := by
  obtain ⟨hl, ⟨h1, _⟩ | ⟨g', cap', cur, e, hb, hg, hc, hm, hs, ht⟩⟩ := h
  · cases h1
  · cases e
    have hB : Blk w g cur 3 := hg
    rw [hB.cell, ← Array.getElem?_toList]
    have : (cur.toList.take (xs.length * 1))[k]? = some (i64c xs[k]) := by rw [ht]; simp [List.getElem?_eq_getElem hk]
    rw [List.getElem?_take_of_lt (by omega)] at this
    exact this
theorem own_type {w : World} {B s n : Nat} {e : TypeId} {v : Value} {ys : List Value} (ho : w.ownsRow B e s v n ys) : ∀ r, v.ownBlock = some r → ∃ (cs : Array Value) (t : TypeId) (fz : Nat × Nat), w.heap[r]? = some (Obj.cells cs t fz) ∧ t = e := fun r hr => by
  obtain ⟨c, fz, k1⟩ := Go.Lib.ownsRow_kind ho r hr
  exact ⟨c, e, fz, k1, rfl⟩
theorem blk_own_ne {w : World} {B b s : Nat} {cs : Array Value} {t e : TypeId} {v : Value} {n : Nat} {ys : List Value} (hb : Blk w b cs t) (ho : w.ownsRow B e s v n ys) (hte : t ≠ e) : ∀ g, v.ownBlock = some g → g ≠ b := by
  intro g hg he
  obtain ⟨c, t', fz, h1, rfl⟩ := own_type ho g hg
  rw [he] at h1
  unfold Blk at hb
  rw [hb] at h1
  cases h1
  exact hte rfl
theorem OwnsI.grown {w w' : World} {base : Nat} {v : Value} {xs : List Int} {row : Option Nat} (h : OwnsI w base v xs) (hg : w.grownBy w' row) (hne : ∀ g, v.ownBlock = some g → some g ≠ row) : OwnsI w' base v xs := by
  obtain ⟨h0, h1 | ⟨g, cap, cur, rfl, hb, hh, hx⟩⟩ := h
  · exact ⟨h0, .inl h1⟩
  · exact ⟨h0, .inr ⟨g, cap, cur, rfl, hb, (hg.block g (Array.getElem?_eq_some_iff.1 hh).1 (hne g rfl)).trans hh, hx⟩⟩
/-- A list of ints appended to a row of one's own. -/
theorem wpListIn_append_ints {F : Fence} {nF : Nat} {ops : Array Oper} {rest : List Oper} {o : Oper} {a : Act} {w : World} {Q : Exit → Act → World → Prop} (hgd : o.guard = none) (s x : Operand) (ho : o.op = .call { callee := .builtin .append, args := #[s, x], argTypes := #[40, 40] })
    (base : Nat) (v : Value) (xs : List Int) (hs : a.eval s = v) (hown : OwnsI w base v xs) (z m c : Nat) (hx : a.eval x = .slice (some ⟨z, 0, none⟩) m c) (ys : List Int) (hm : ys.length = m) (hc : Blk w z (ys.map i64c).toArray 3) (hlen : xs.length + m ≤ 17592186044416) (hbase : base ≤ w.heap.size)
    (h : ∀ v' w', Hid (OwnsI w' base v' (xs ++ ys)) → Hid (w.grownBy w' v.ownBlock) → Hid (v'.ownBlock = v.ownBlock ∨ v'.ownBlock = some w.heap.size) → wpListIn F nF Try.prog ops Q rest (a.put o.dst v') w') : wpListIn F nF Try.prog ops Q (o :: rest) a w := by
  obtain ⟨i0, hi, hz0, hz1, hz2⟩ := info_parts infoI64
  refine wpListIn_append_own_at (w := w) hgd s x 40 ho base 3 i0 (.int .i64 0) 1 8 Try.underlying40 hi hz0 hz1 hz2 rfl (by decide) v xs.length (xs.map i64c) hs hown ⟨z, 0, none⟩ m c (ys.map i64c) hx (by simp [hm]) ?_ ?_ (by unfold maxLen; omega) (by omega) hbase ?_
  · intro j u hj
    rw [Addr.add_mid, hc.cell]
    simpa using hj
  · intro u hu
    obtain ⟨q, _, rfl⟩ := List.mem_map.1 hu
    rfl
  · intro v' w' h1 h2 _ h4
    exact h v' w' (hide (by unfold OwnsI; rw [List.length_append, List.map_append, hm]; exact h1)) (hide h2) (hide h4)
def flat (l : List (Int × Int)) : List Int := l.flatMap (fun x => [x.1, x.2])
theorem flat_len (l : List (Int × Int)) : (flat l).length = 2 * l.length := by
  induction l with
  | nil => rfl
  | cons x l ih => simp [flat, List.flatMap_cons] at ih ⊢; omega
theorem flat_snoc (l : List (Int × Int)) (x : Int × Int) : flat (l ++ [x]) = flat l ++ [x.1, x.2] := by simp [flat]
/-- The first so many pairs, if there are as many and more than none are asked for; else all. -/
def stopL (stop : Int) (P : List (Int × Int)) : List (Int × Int) := if 0 < stop ∧ stop ≤ (P.length : Int) then P.take stop.toNat else P
def PrsC (w : World) (L : List Int) (e : Ending) (w' : World) : Prop := ∃ v, e = .returned v ∧ OwnsI w' w.heap.size v L ∧ Below w.heap.size w w'
/-- Between two rounds. -/
structure PrS (w : World) (b3 b5 : Nat) (stop : Int) (T : TB) (pre : List (Int × Int)) (W : World) : Prop where
  out : ∃ v, Blk W b5 #[v] 40 ∧ OwnsI W (w.heap.size + 1) v (flat pre)
  stp : Blk W b3 #[.int .i64 stop] 3
  pf : pre <+: T.prs
  bel : Below w.heap.size w W
theorem owns_kept {W W' : World} {base n s : Nat} {e : TypeId} {v : Value} {ys : List Value} {row : Option Nat} (h : W.ownsRow base e s v n ys) (hg : W.grownBy W' row) (hr : ∀ r, row = some r → ∃ o : Obj, W.heap[r]? = some o ∧ o.isCells = false) : W'.ownsRow base e s v n ys := by
  obtain ⟨h0, h1 | ⟨g, cap, cur, rfl, hb, hh, hx⟩⟩ := h
  · exact ⟨h0, .inl h1⟩
  · exact ⟨h0, .inr ⟨g, cap, cur, rfl, hb, (grownBy_keeps_cells hg hr hh rfl).trans hh, hx⟩⟩
theorem Blk.keptRow {W W' : World} {b : Nat} {cs : Array Value} {t : TypeId} {row : Option Nat} (h : Blk W b cs t) (hg : W.grownBy W' row) (hr : ∀ r, row = some r → ∃ o : Obj, W.heap[r]? = some o ∧ o.isCells = false) : Blk W' b cs t :=
  (grownBy_keeps_cells hg hr h rfl).trans h
theorem PrS.ownFrom {w : World} {B b3 b5 : Nat} {stop : Int} {T : TB} (hB : w.heap.size ≤ B) : OwnFrom B (fun pre W => PrS w b3 b5 stop T pre W) :=
  fun s A C row h hg hr => by
    have hr2 : ∀ r, row = some r → ∃ o : Obj, A.heap[r]? = some o ∧ o.isCells = false := fun r e => (hr r e).2
    obtain ⟨v, h1, h2⟩ := h.out
    exact ⟨⟨v, h1.keptRow hg hr2, owns_kept h2 hg hr2⟩, h.stp.keptRow hg hr2, h.pf, ownFrom_below (β := List (Int × Int)) (Nat.le_refl _) hB s A C row h.bel hg hr⟩
theorem leave1 {fn : Func} {t : Tmp} {R : Ending → World → Prop} (hres : fn.results = #[.tmp t]) {tmps : Array Value} {W : World} {D : Nat} {v : Value} (e1 : W.heap[D]? = some (.deferred (some []))) (hv : tmps.getD t undef = v) (hR : R (.returned v) (W.putObj D (.deferred none))) :
    bodyPostM Fence.wide 5 Try.prog fn R .ret { tmps := tmps, defers := [{ target := .collected D, args := #[] }] } W := by
  refine ⟨by simp, .inl ⟨_, _, rfl, run_takeDeferred e1, ?_⟩⟩
  have hv' : tmps[t]?.getD undef = v := by simpa using hv
  exact ⟨v, by simp [results, hres, hv'], hR⟩
end Go.Proofs.Ytnknjcnbbljagaa
