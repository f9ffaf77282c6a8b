/- GearPieces: what its walk needs. -/
import Derived.Test.YtamajnaeladehaaDoorGP2
import Derived.Test.YtamajnaeladehaaDoorGP4
import Derived.Test.YtamajnaeladehaaDoorRQ1
import Derived.Maps.OwnIn
import Derived.LoopN
namespace Go.Proofs.YtamajnaeladehaaDoor
set_option linter.unusedVariables false
set_option linter.unusedSimpArgs false
open Go.RowKit Go.Sort
attribute [local go_sem] Oper.semAt_some

theorem aggBool (w : World) : (isAgg 4).run Tryd.prog w = .ok false w := by kernel_rfl
theorem load_bool {w : World} {a : Addr} {v : Value} (hc : w.cell? a = some v) : (loadVar 4 a).run Tryd.prog w = .ok v w := by
  simp [loadVar, Sem.run_bind, aggBool, Result.andThen, go_sem, hc]
theorem asg2 {F : Fence} {n : Nat} {P : Program} {o1 o2 : Oper} {i j : Nat} {x1 x2 : Operand} (g1 : o1.guard = none) (g2 : o2.guard = none) (h1 : o1.op = .assign x1) (h2 : o2.op = .assign x2) (a : Act) (W0 : World) (K : Act → World → Prop)
    (hK : K ((a.put o1.dst (a.eval x1)).put o2.dst ((a.put o1.dst (a.eval x1)).eval x2)) W0) : ((Code.region i #[o1] false).seq (Code.region j #[o2] false)).wpIn F n P (Exit.then K (fun _ _ _ => False)) a W0 := by
  refine wpIn_seq (wpIn_region_lit (l := [o1]) (BigFrame.wpListIn_want (by simp [Region.wanted, g1]) fun K1 hK1 => BigFrame.wpIn_assign x1 h1 (hK1 _ _ ?_)))
  refine wpIn_region_lit (l := [o2]) (BigFrame.wpListIn_want (by simp [Region.wanted, g2]) fun K2 hK2 => BigFrame.wpIn_assign x2 h2 (hK2 _ _ ?_))
  exact hK
theorem Blk.keptRow {W W' : World} {b : Nat} {cs : Array Value} {t : TypeId} {row : Option Nat} (h : Blk W b cs t) (hg : W.grownBy W' row) (hr : ∀ r, row = some r → ∃ o : Obj, W.heap[r]? = some o ∧ o.isCells = false) : Blk W' b cs t :=
  (grownBy_keeps_cells hg hr h rfl).trans h
theorem blk_ownFrom {β : Type} (B b : Nat) (t : TypeId) (f : β → Array Value) : OwnFrom B (fun s W => Blk W b (f s) t) :=
  fun s A C row hs hg hr => Blk.keptRow hs hg (fun r e => (hr r e).2)
theorem snoc_len {α : Type} (l : List α) (x : α) : (l ++ [x]).length = l.length + 1 := by simp
theorem owns_kept {W W' : World} {base n : Nat} {e : TypeId} {v : Value} {ys : List Value} {row : Option Nat} (h : W.ownsRow base e 1 v n ys) (hg : W.grownBy W' row) (hr : ∀ r, row = some r → ∃ o : Obj, W.heap[r]? = some o ∧ o.isCells = false) : W'.ownsRow base e 1 v n ys := by
  obtain ⟨h0, h1 | ⟨g, cap, cur, rfl, hb, hh, hx⟩⟩ := h
  · exact ⟨h0, .inl h1⟩
  · exact ⟨h0, .inr ⟨g, cap, cur, rfl, hb, (grownBy_keeps_cells hg hr hh rfl).trans hh, hx⟩⟩
theorem OwnsB.blk_ge {W : World} {B : Nat} {v : Value} {xs : List UInt8} (h : OwnsB W B v xs) (g : Nat) (hg : v.ownBlock = some g) : B ≤ g ∧ g < W.heap.size := owns_lt h g hg
theorem Below.step {w w1 w2 : World} (h : Below w.heap.size w w1) (k : Below w1.heap.size w1 w2) : Below w.heap.size w w2 := h.trans (k.mono h.size)
theorem walkNotNil (o : Option (Nat × Nat)) (W : World) : (binOp .eql 40 (walkV o) .nilFunc).run Tryd.prog W = .ok (.bool false) W := by
  cases o with
  | none => kernel_rfl
  | some p => obtain ⟨z, y⟩ := p; kernel_rfl
theorem walkGuard (o : Option (Nat × Nat)) (op : BinOp) (x y : Operand) (W : World) : (eqGuard op 40 x y (walkV o) .nilFunc).run Tryd.prog W = .ok () W := by
  cases o with
  | none => cases op <;> kernel_rfl
  | some p => obtain ⟨z, y⟩ := p; cases op <;> kernel_rfl
theorem pcFit_put (mn me mx : Int) (bs : List UInt8) (pre : List Rec) (x : Rec) (A B : World) (l : Nat) (o o' : Obj) (h : pcFit mn me mx bs pre x A B) (hl : A.heap[l]? = some o) (ho : o.isCells = false) : pcFit mn me mx bs pre x (A.putObj l o') (B.putObj l o') := by
  obtain ⟨h1, h2, h3, h4⟩ := h
  refine ⟨h1, h2, h3, ?_⟩
  rw [World.putObj_size]
  obtain ⟨hz, ⟨e1, e2⟩ | ⟨g, cap, cur, e, hb, hg, hr⟩⟩ := h4
  · exact ⟨hz, .inl ⟨e1, e2⟩⟩
  · have hlt : l < A.heap.size := (Array.getElem?_eq_some_iff.1 hl).1
    refine ⟨hz, .inr ⟨g, cap, cur, e, hb, ?_, hr⟩⟩
    rw [World.putObj_heap_other (by omega)]
    exact hg
theorem Ls.grown {W W' : World} {B n : Nat} {vs : Nat → Value} {ys : Nat → List UInt8} {row : Option Nat} (h : Ls W B n vs ys) (hg : W.grownBy W' row) (hne : ∀ i, i < n → ∀ g, (vs i).ownBlock = some g → some g ≠ row) : Ls W' B n vs ys :=
  ⟨fun i hi => OwnsB.grown (h.own i hi) hg (hne i hi), h.apart⟩
/-- Between two bodies: the box of the lists, the lists so far, each in a row of its own; what lay at w7 stays. -/
structure KSt (w7 W : World) (b13 : Nat) (vl : Value) (c : Nat) (lvs : Nat → Value) (ys : Nat → List UInt8) : Prop where
  lbox : Blk W b13 #[vl] 42
  lists : W.ownsRow w7.heap.size 24 1 vl c ((List.range c).map lvs)
  ls : Ls W w7.heap.size c lvs ys
  len : ∀ i, i < c → (ys i).length ≤ 4194304
  bel : Below w7.heap.size w7 W
section
variable {w7 W W' : World} {b13 : Nat} {vl : Value} {c : Nat} {lvs : Nat → Value} {ys : Nat → List UInt8}
theorem KSt.below (h : KSt w7 W b13 vl c lvs ys) (hb : Below W.heap.size W W') : KSt w7 W' b13 vl c lvs ys :=
  ⟨h.lbox.below hb h.lbox.lt, owns_below h.lists hb, h.ls.below hb, h.len, Below.step h.bel hb⟩
/-- Another block of cells is written. -/
theorem KSt.other {b : Nat} {cs : Array Value} {ty : TypeId} (h : KSt w7 W b13 vl c lvs ys) (hg : W.grownBy W' (some b)) (hk : Blk W b cs ty) (hl : w7.heap.size ≤ b) (h2 : b13 ≠ b) (t1 : ty ≠ 24) (t2 : ty ≠ 5) : KSt w7 W' b13 vl c lvs ys :=
  ⟨h.lbox.grown hg (fun e => h2 (Option.some.inj e)), owns_grown h.lists hg (fun g hg' e => blk_own_ne hk h.lists t1 g hg' (Option.some.inj e)),
    h.ls.grown hg (fun i hi g hg' e => blk_own_ne hk (h.ls.own i hi) t2 g hg' (Option.some.inj e)), h.len, h.bel.trans (below_grownBy (B := w7.heap.size) hg hl h.bel.size)⟩
/-- A list more. -/
theorem KSt.add {W2 : World} {M : Nat} {vx vl' : Value} {y : List UInt8} (h : KSt w7 W b13 vl c lvs ys) (hx : OwnsB W M vx y) (hM : ∀ i, i < c → ∀ g, (lvs i).ownBlock = some g → g < M) (h7 : w7.heap.size ≤ M) (hy : y.length ≤ 4194304) (hl : w7.heap.size ≤ b13)
    (ho : W2.ownsRow w7.heap.size 24 1 vl' (c + 1) ((List.range c).map lvs ++ [vx])) (hg : (W.alloc (.cells #[vx] 24)).grownBy W2 vl.ownBlock) :
    KSt w7 (W2.setCell ⟨b13, 0, none⟩ vl') b13 vl' (c + 1) (fun i => if i = c then vx else lvs i) (fun i => if i = c then y else ys i) := by
  have hal : Below W.heap.size W (W.alloc (.cells #[vx] 24)) := (Below.refl _ _).alloc (Nat.le_refl _) _
  have h1 := h.below hal
  have hx1 := hx.below hal
  have ls1 : Ls (W.alloc (.cells #[vx] 24)) w7.heap.size (c + 1) (fun i => if i = c then vx else lvs i) (fun i => if i = c then y else ys i) := by
    refine ⟨fun i hi => ?_, fun i j hi hj hne g e1 e2 => ?_⟩
    · by_cases e : i = c
      · simp only [e, if_true]; exact own_lower hx1 h7
      · simp only [e, if_false]; exact h1.ls.own i (by omega)
    · by_cases ei : i = c
      · simp only [ei, if_true] at e1
        by_cases ej : j = c
        · exact hne (by omega)
        · simp only [ej, if_false] at e2
          have k1 := hM j (by omega) g e2
          have k2 := (OwnsB.blk_ge hx g e1).1
          omega
      · simp only [ei, if_false] at e1
        by_cases ej : j = c
        · simp only [ej, if_true] at e2
          have k1 := hM i (by omega) g e1
          have k2 := (OwnsB.blk_ge hx g e2).1
          omega
        · simp only [ej, if_false] at e2
          exact h1.ls.apart i j (by omega) (by omega) hne g e1 e2
  have lb2 := h1.lbox.grown hg (fun e => blk_own_ne h1.lbox h1.lists (by decide) b13 e.symm rfl)
  have ls2 := ls1.grown hg (fun i hi g hg' e => own_own_ne (ls1.own i hi) h1.lists (by decide) g hg' e.symm)
  have bel2 := own_below h1.bel h1.lists h1.bel.size hg
  have hg3 := grownBy_set W2 b13 0 vl'
  refine ⟨lb2.set 0 _, ?_, ls2.grown hg3 (fun i hi g hg' e => blk_own_ne lb2 (ls2.own i hi) (by decide) g hg' (Option.some.inj e)), fun i hi => ?_, bel2.setCell (p := ⟨b13, 0, none⟩) hl _⟩
  · rw [List.range_succ, List.map_append]
    have e : (List.range c).map (fun i => if i = c then vx else lvs i) = (List.range c).map lvs := by
      apply List.map_congr_left
      intro i hi
      rw [if_neg (by have := List.mem_range.1 hi; omega)]
    rw [e]
    have := owns_grown ho hg3 (fun g hg' e => blk_own_ne lb2 ho (by decide) g hg' (Option.some.inj e))
    simpa using this
  · by_cases e : i = c
    · simp only [e, if_true]; exact hy
    · simp only [e, if_false]; exact h.len i (by omega)
theorem KSt.ownFrom {β : Type} {B : Nat} {w7 : World} {b13 : Nat} {c : β → Nat} (hB : w7.heap.size ≤ B) : OwnFrom B (fun (s : β) W => ∃ vl lvs ys, KSt w7 W b13 vl (c s) lvs ys) :=
  fun s A C row ⟨vl, lvs, ys, h⟩ hg hr => by
    have hr2 : ∀ r, row = some r → ∃ o : Obj, A.heap[r]? = some o ∧ o.isCells = false := fun r e => (hr r e).2
    exact ⟨vl, lvs, ys, h.lbox.keptRow hg hr2, owns_kept h.lists hg hr2, ⟨fun i hi => owns_kept (h.ls.own i hi) hg hr2, h.ls.apart⟩, h.len, ownFrom_below (β := β) (Nat.le_refl _) hB s A C row h.bel hg hr⟩
theorem KSt.lrow {al : Option Addr} {n cl : Nat} (h : KSt w7 W b13 (.slice al n cl) c lvs ys) : ∃ R, LRow W R c al lvs := by
  obtain ⟨hl, ⟨e1, e2⟩ | ⟨g, cap, cur, e1, hb, hh, hr⟩⟩ := h.lists
  · exact ⟨0, fun i hi => by omega, fun i hi => by omega, fun i hi => by omega⟩
  · obtain ⟨rfl, -, rfl⟩ := (Value.slice.injEq ..).mp e1
    refine ⟨g, fun _ _ => rfl, fun i hi => ?_, fun i hi e => ?_⟩
    · obtain ⟨L, e, hc⟩ := rowL_at (W := W) (B := w7.heap.size) (e := 24) (ao := some ⟨g, 0, none⟩) (c := cl) (n := c) (ys := (List.range c).map lvs) (by
        have := h.lists
        obtain ⟨h1, h2⟩ := this
        exact ⟨h1, .inr ⟨g, cl, cur, rfl, hb, hh, hr⟩⟩) i (lvs i) (by simp [hi])
      cases e
      exact hc
    · exact own_own_ne (h.ls.own i hi) h.lists (by decide) g e rfl
end
theorem first_one {mn me mx : Int} {bs : List UInt8} {k k' : Nat} (h1 : ∀ j, j < k → okP mn me mx bs j) (h2 : ¬ okP mn me mx bs k) (h3 : ∀ j, j < k' → okP mn me mx bs j) (h4 : ¬ okP mn me mx bs k') : k = k' := by
  rcases Nat.lt_trichotomy k k' with h | h | h
  · exact absurd (h3 k h) h2
  · exact h
  · exact absurd (h1 k' h) h4
theorem keepR_of {w7 W W' : World} {lo : Nat} (h : Below w7.heap.size w7 W) (h' : Below w7.heap.size w7 W') (hs : W.heap.size ≤ W'.heap.size) : KeepR lo w7.heap.size W W' := ⟨hs, fun k _ hk => (h'.block k hk).trans (h.block k hk).symm⟩
/-- The marks of the rounds' deferred calls. -/
def AllD (DL : List Nat) (W : World) : Prop := ∀ D ∈ DL, W.heap[D]? = some (.deferred (some []))
theorem AllD.keep {DL : List Nat} {W W' : World} (h : AllD DL W) (k : KeepsOthers W W') : AllD DL W' := fun D hD => k.same D _ (h D hD) rfl
theorem AllD.below {DL : List Nat} {W W' : World} (h : AllD DL W) (hb : Below W.heap.size W W') : AllD DL W' := h.keep (keeps_below hb)
theorem AllD.ownFrom {β : Type} {B : Nat} {DL : List Nat} (hB : ∀ D ∈ DL, D < B) : OwnFrom B (fun (_ : β) W => AllD DL W) :=
  fun s A C row h hg hr D hD => by
    have h1 := h D hD
    have hlt : D < A.heap.size := (Array.getElem?_eq_some_iff.1 h1).1
    rw [hg.block D hlt (fun e => by have := (hr D e.symm).1; have := hB D hD; omega)]
    exact h1
theorem inBlock_exit {Q : Exit → Act → World → Prop} {a : Act} {w : World} (id : Nat) (h : Q .normal a w) : Exit.inBlock id Q (.exit id) a w := by
  simp only [Exit.inBlock, if_true]
  exact h
theorem leave3c {fn : Func} {t : Tmp} {b : Nat} (hres : fn.results = #[.cell t 4]) {tmps : Array Value} {W w : World} {D1 D2 D3 : Nat} (h : AllD [D3, D2, D1] W) (h12 : D1 ≠ D2) (h13 : D1 ≠ D3) (h23 : D2 ≠ D3) (hv : tmps.getD t undef = .pointer (some ⟨b, 0, none⟩)) (hk : Blk W b #[.bool true] 4) (hB : Below w.heap.size w W) (l1 : w.heap.size ≤ D1) (l2 : w.heap.size ≤ D2) (l3 : w.heap.size ≤ D3) :
    bodyPostM Fence.wide 5 Tryd.prog fn (fun e w' => e = .returned (.bool true) ∧ Below w.heap.size w w') .ret { tmps := tmps, defers := [{ target := .collected D3, args := #[] }, { target := .collected D2, args := #[] }, { target := .collected D1, args := #[] }] } W := by
  have e3 := h D3 (by simp)
  have e2 : (W.putObj D3 (.deferred none)).heap[D2]? = some (.deferred (some [])) := (World.putObj_heap_other h23).trans (h D2 (by simp))
  have e1 : ((W.putObj D3 (.deferred none)).putObj D2 (.deferred none)).heap[D1]? = some (.deferred (some [])) := (World.putObj_heap_other h12).trans ((World.putObj_heap_other h13).trans (h D1 (by simp)))
  have hn : ∀ D, W.heap[D]? = some (.deferred (some [])) → b ≠ D := fun D hD e => by
    have h0 : W.heap[b]? = some _ := hk
    rw [e, hD] at h0
    cases h0
  refine ⟨by simp, .inl ⟨_, _, rfl, run_takeDeferred e3, ?_⟩⟩
  refine ⟨by simp, .inl ⟨_, _, rfl, run_takeDeferred e2, ?_⟩⟩
  refine ⟨by simp, .inl ⟨_, _, rfl, run_takeDeferred e1, ?_⟩⟩
  have hk3 : Blk (((W.putObj D3 (.deferred none)).putObj D2 (.deferred none)).putObj D1 (.deferred none)) b #[.bool true] 4 := (World.putObj_heap_other (hn D1 (h D1 (by simp)))).trans ((World.putObj_heap_other (hn D2 (h D2 (by simp)))).trans ((World.putObj_heap_other (hn D3 (h D3 (by simp)))).trans hk))
  refine ⟨_, results_cell (p := t) (ty := 4) hres _ _ ⟨b, 0, none⟩ hv (.bool true) (load_bool (hk3.cell 0)), ?_⟩
  exact ⟨rfl, below_put (below_put (below_put hB D3 _ l3) D2 _ l2) D1 _ l1⟩
theorem wpListIn_append_list {F : Fence} {nF : Nat} {ops : Array Oper} {rest : List Oper} {o : Oper} {a : Act} {w : World} {Q : Exit → Act → World → Prop} (hgd : o.guard = none) (s x : Operand) (ho : o.op = .call { callee := .builtin .append, args := #[s, x], argTypes := #[42, 42] })
    (base : Nat) (v : Value) (n : Nat) (ys : List Value) (hs : a.eval s = v) (hown : w.ownsRow base 24 1 v n ys) (z c : Nat) (hx : a.eval x = .slice (some ⟨z, 0, none⟩) 1 c) (y : Value) (hy : y.oneCell' = true) (hc : w.cell? ⟨z, 0, none⟩ = some y) (hlen : n ≤ 1000000000000) (hbase : base ≤ w.heap.size)
    (h : ∀ v' w', Hid (w'.ownsRow base 24 1 v' (n + 1) (ys ++ [y])) → Hid (w.grownBy w' v.ownBlock) → Hid (v'.ownBlock = v.ownBlock ∨ v'.ownBlock = some w.heap.size) → wpListIn F nF Tryd.prog ops Q rest (a.put o.dst v') w') : wpListIn F nF Tryd.prog ops Q (o :: rest) a w := by
  obtain ⟨i0, hi, hz0, hz1, hz2⟩ := info_parts infoSl
  refine wpListIn_append_own_at (w := w) hgd s x 42 ho base 24 i0 _ 1 24 Tryd.underlying42 hi hz0 hz1 hz2 rfl (by decide) v n ys hs hown ⟨z, 0, none⟩ 1 c [y] hx rfl ?_ ?_ (by unfold maxLen; omega) (by omega) hbase ?_
  · intro j u hj
    cases j with
    | zero => cases hj; exact hc
    | succ j => simp at hj
  · intro u hu
    simp only [List.mem_cons, List.not_mem_nil, or_false] at hu
    rw [hu]; exact hy
  · intro v' w' h1 h2 _ h4
    exact h v' w' (hide h1) (hide h2) (hide h4)
theorem cutP {P G : Prop} (f : P → G) (h : P) : G := f h
theorem owns_below_at {w w' : World} {base : Nat} {v : Value} {xs : List Int} (h : OwnsI w base v xs) (hb : Below w.heap.size w w') : OwnsI w' base v xs := h.below hb
end Go.Proofs.YtamajnaeladehaaDoor
