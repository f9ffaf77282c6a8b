/- goes: what its walk needs. -/
import Derived.Test.YtbnedlcldfpfdaaEX17t
import Derived.Test.YtbnedlcldfpfdaaEX12
import Derived.Test.YtbnedlcldfpfdaaRW2
import Derived.Maps.OwnIn
import Derived.LoopN
namespace Go.Proofs.Ytbnedlcldfpfdaa
set_option linter.unusedVariables false
set_option linter.unusedSimpArgs false
open Go.RowKit Go.Sort Go.Shelf

theorem ownsS_ge' {w : World} {B s : Nat} {e : TypeId} {v : Value} {n : Nat} {ys : List Value} (ho : w.ownsRow B e s v n ys) : ∀ g, v.ownBlock = some g → B ≤ g := by
  intro g hg
  obtain ⟨_, ⟨rfl, _⟩ | ⟨g', cap, cur, rfl, hb, _⟩⟩ := ho
  · cases hg
  · cases hg; exact hb
/-- Between two bodies: ok's box, the lists' box, the lists so far, each in a row of its own; what lay at w7 stays. -/
structure GSt (w7 W : World) (b12 b13 : Nat) (vl : Value) (c : Nat) (lvs : Nat → Value) (ys : Nat → List UInt8) : Prop where
  okb : Blk W b12 #[.bool true] 4
  lbox : Blk W b13 #[vl] 31
  lists : W.ownsRow w7.heap.size 22 1 vl c ((List.range c).map lvs)
  ls : Ls W w7.heap.size c lvs ys
  len : ∀ i, i < c → (ys i).length ≤ 65535
  bel : Below w7.heap.size w7 W
section
variable {w7 W W' : World} {b12 b13 : Nat} {vl : Value} {c : Nat} {lvs : Nat → Value} {ys : Nat → List UInt8}
theorem GSt.below (h : GSt w7 W b12 b13 vl c lvs ys) (hb : Below W.heap.size W W') : GSt w7 W' b12 b13 vl c lvs ys :=
  ⟨h.okb.below hb h.okb.lt, h.lbox.below hb h.lbox.lt, owns_below h.lists hb, h.ls.below hb, h.len, Below.step h.bel hb⟩
theorem Ls.grown {W W' : World} {B n : Nat} {vs : Nat → Value} {ys : Nat → List UInt8} {row : Option Nat} (h : Ls W B n vs ys) (hg : W.grownBy W' row) (hne : ∀ i, i < n → ∀ g, (vs i).ownBlock = some g → some g ≠ row) : Ls W' B n vs ys :=
  ⟨fun i hi => OwnsB.grown (h.own i hi) hg (hne i hi), h.apart⟩
/-- Another block of cells is written. -/
theorem GSt.other {b : Nat} {cs : Array Value} {ty : TypeId} (h : GSt w7 W b12 b13 vl c lvs ys) (hg : W.grownBy W' (some b)) (hk : Blk W b cs ty) (hl : w7.heap.size ≤ b) (h1 : b12 ≠ b) (h2 : b13 ≠ b) (t1 : ty ≠ 22) (t2 : ty ≠ 5) : GSt w7 W' b12 b13 vl c lvs ys :=
  ⟨h.okb.grown hg (fun e => h1 (Option.some.inj e)), h.lbox.grown hg (fun e => h2 (Option.some.inj e)), owns_grown h.lists hg (fun g hg' e => blk_own_ne hk h.lists t1 g hg' (Option.some.inj e)),
    h.ls.grown hg (fun i hi g hg' e => blk_own_ne hk (h.ls.own i hi) t2 g hg' (Option.some.inj e)), h.len, h.bel.trans (below_grownBy (B := w7.heap.size) hg hl h.bel.size)⟩
theorem GSt.setOk (h : GSt w7 W b12 b13 vl c lvs ys) (hne : b13 ≠ b12) (hl : w7.heap.size ≤ b12) : GSt w7 (W.setCell ⟨b12, 0, none⟩ (.bool true)) b12 b13 vl c lvs ys := by
  have hg := grownBy_set W b12 0 (.bool true)
  exact ⟨h.okb.set 0 _, h.lbox.grown hg (fun e => hne (Option.some.inj e)), owns_grown h.lists hg (fun g hg' e => blk_own_ne h.okb h.lists (by decide) g hg' (Option.some.inj e)),
    h.ls.grown hg (fun i hi g hg' e => blk_own_ne h.okb (h.ls.own i hi) (by decide) g hg' (Option.some.inj e)), h.len, h.bel.setCell (p := ⟨b12, 0, none⟩) hl _⟩
/-- A list more. -/
theorem GSt.add {W2 : World} {M : Nat} {vx vl' : Value} {y : List UInt8} (h : GSt w7 W b12 b13 vl c lvs ys) (hx : OwnsB W M vx y) (hM : ∀ i, i < c → ∀ g, (lvs i).ownBlock = some g → g < M) (h7 : w7.heap.size ≤ M) (hy : y.length ≤ 65535) (hne : b12 ≠ b13) (hl : w7.heap.size ≤ b13)
    (ho : W2.ownsRow w7.heap.size 22 1 vl' (c + 1) ((List.range c).map lvs ++ [vx])) (hg : (W.alloc (.cells #[vx] 22)).grownBy W2 vl.ownBlock) :
    GSt w7 (W2.setCell ⟨b13, 0, none⟩ vl') b12 b13 vl' (c + 1) (fun i => if i = c then vx else lvs i) (fun i => if i = c then y else ys i) := by
  have hal : Below W.heap.size W (W.alloc (.cells #[vx] 22)) := (Below.refl _ _).alloc (Nat.le_refl _) _
  have h1 := h.below hal
  have hx1 := hx.below hal
  have ls1 : Ls (W.alloc (.cells #[vx] 22)) w7.heap.size (c + 1) (fun i => if i = c then vx else lvs i) (fun i => if i = c then y else ys i) := by
    refine ⟨fun i hi => ?_, fun i j hi hj hne g e1 e2 => ?_⟩
    · by_cases e : i = c
      · simp only [e, if_true]; exact own_lower hx1 h7
      · simp only [e, if_false]; exact h1.ls.own i (by omega)
    · by_cases ei : i = c
      · simp only [ei, if_true] at e1
        by_cases ej : j = c
        · exact hne (by omega)
        · simp only [ej, if_false] at e2
          have k1 := hM j (by omega) g e2
          have k2 := (OwnsB.blk_ge hx g e1).1
          omega
      · simp only [ei, if_false] at e1
        by_cases ej : j = c
        · simp only [ej, if_true] at e2
          have k1 := hM i (by omega) g e1
          have k2 := (OwnsB.blk_ge hx g e2).1
          omega
        · simp only [ej, if_false] at e2
          exact h1.ls.apart i j (by omega) (by omega) hne g e1 e2
  have ok2 := h1.okb.grown hg (fun e => blk_own_ne h1.okb h1.lists (by decide) b12 e.symm rfl)
  have lb2 := h1.lbox.grown hg (fun e => blk_own_ne h1.lbox h1.lists (by decide) b13 e.symm rfl)
  have ls2 := ls1.grown hg (fun i hi g hg' e => own_own_ne (ls1.own i hi) h1.lists (by decide) g hg' e.symm)
  have bel2 := own_below h1.bel h1.lists h1.bel.size hg
  have hg3 := grownBy_set W2 b13 0 vl'
  refine ⟨ok2.grown hg3 (fun e => hne (Option.some.inj e)), lb2.set 0 _, ?_, ls2.grown hg3 (fun i hi g hg' e => blk_own_ne lb2 (ls2.own i hi) (by decide) g hg' (Option.some.inj e)), fun i hi => ?_, bel2.setCell (p := ⟨b13, 0, none⟩) hl _⟩
  · rw [List.range_succ, List.map_append]
    have e : (List.range c).map (fun i => if i = c then vx else lvs i) = (List.range c).map lvs := by
      apply List.map_congr_left
      intro i hi
      rw [if_neg (by have := List.mem_range.1 hi; omega)]
    rw [e]
    have := owns_grown ho hg3 (fun g hg' e => blk_own_ne lb2 ho (by decide) g hg' (Option.some.inj e))
    simpa using this
  · by_cases e : i = c
    · simp only [e, if_true]; exact hy
    · simp only [e, if_false]; exact h.len i (by omega)
theorem GSt.ownFrom {β : Type} {B : Nat} {w7 : World} {b12 b13 : Nat} {c : β → Nat} (hB : w7.heap.size ≤ B) : OwnFrom B (fun (s : β) W => ∃ vl lvs ys, GSt w7 W b12 b13 vl (c s) lvs ys) :=
  fun s A C row ⟨vl, lvs, ys, h⟩ hg hr => by
    have hr2 : ∀ r, row = some r → ∃ o : Obj, A.heap[r]? = some o ∧ o.isCells = false := fun r e => (hr r e).2
    exact ⟨vl, lvs, ys, h.okb.keptRow hg hr2, h.lbox.keptRow hg hr2, owns_kept h.lists hg hr2, ⟨fun i hi => owns_kept (h.ls.own i hi) hg hr2, h.ls.apart⟩, h.len, ownFrom_below (β := β) (Nat.le_refl _) hB s A C row h.bel hg hr⟩
end
/-- Behind the rounds: ok, the lists. -/
structure GE (B : Nat) (W : World) (b12 b13 : Nat) (vl : Value) (c : Nat) (lvs : Nat → Value) (ys : Nat → List UInt8) : Prop where
  okb : Blk W b12 #[.bool true] 4
  lbox : Blk W b13 #[vl] 31
  lists : W.ownsRow B 22 1 vl c ((List.range c).map lvs)
  ls : Ls W B c lvs ys
  len : ∀ i, i < c → (ys i).length ≤ 65535
section
variable {B : Nat} {W W' : World} {b12 b13 : Nat} {vl : Value} {c : Nat} {lvs : Nat → Value} {ys : Nat → List UInt8}
theorem GE.below (h : GE B W b12 b13 vl c lvs ys) (hb : Below W.heap.size W W') : GE B W' b12 b13 vl c lvs ys :=
  ⟨h.okb.below hb h.okb.lt, h.lbox.below hb h.lbox.lt, owns_below h.lists hb, h.ls.below hb, h.len⟩
theorem GSt.ge {w7 : World} {z : Nat} (h : GSt w7 W b12 b13 vl c lvs ys) (hg : W.grownBy W' (some z)) (hz : z < w7.heap.size) (h1 : w7.heap.size ≤ b12) (h2 : w7.heap.size ≤ b13) : GE w7.heap.size W' b12 b13 vl c lvs ys :=
  ⟨h.okb.grown hg (fun e => by have := Option.some.inj e; omega), h.lbox.grown hg (fun e => by have := Option.some.inj e; omega), owns_grown h.lists hg (fun g hg' e => by have := ownsS_ge' h.lists g hg'; have := Option.some.inj e; omega),
    h.ls.grown hg (fun i hi g hg' e => by have := (OwnsB.blk_ge (h.ls.own i hi) g hg').1; have := Option.some.inj e; omega), h.len⟩
theorem GE.ownFrom {β : Type} {B' : Nat} : OwnFrom B' (fun (_ : β) W => GE B W b12 b13 vl c lvs ys) :=
  fun s A C row h hg hr => by
    have hr2 : ∀ r, row = some r → ∃ o : Obj, A.heap[r]? = some o ∧ o.isCells = false := fun r e => (hr r e).2
    exact ⟨h.okb.keptRow hg hr2, h.lbox.keptRow hg hr2, owns_kept h.lists hg hr2, ⟨fun i hi => owns_kept (h.ls.own i hi) hg hr2, h.ls.apart⟩, h.len⟩
theorem GE.lrow {al : Option Addr} {n cl : Nat} (h : GE B W b12 b13 (.slice al n cl) c lvs ys) : ∃ R, LRow W R c al lvs := by
  obtain ⟨hl, ⟨e1, e2⟩ | ⟨g, cap, cur, e1, hb, hh, hr⟩⟩ := h.lists
  · exact ⟨0, fun i hi => by omega, fun i hi => by omega, fun i hi => by omega⟩
  · obtain ⟨rfl, -, rfl⟩ := (Value.slice.injEq ..).mp e1
    refine ⟨g, fun _ _ => rfl, fun i hi => ?_, fun i hi e => ?_⟩
    · obtain ⟨L, e, hc⟩ := rowL_at (W := W) (B := B) (e := 22) (ao := some ⟨g, 0, none⟩) (c := cl) (n := c) (ys := (List.range c).map lvs) (by
        have := h.lists
        obtain ⟨h1, h2⟩ := this
        exact ⟨h1, .inr ⟨g, cl, cur, rfl, hb, hh, hr⟩⟩) i (lvs i) (by simp [hi])
      cases e
      exact hc
    · exact own_own_ne (h.ls.own i hi) h.lists (by decide) g e rfl
end
theorem grownBy.lift {w W : World} {row : Option Nat} (h : Below w.heap.size w W) : w.grownBy W row := grownBy_below h
theorem first_one {bs : List UInt8} {k k' : Nat} (h1 : ∀ j, j < k → okR bs j) (h2 : ¬ okR bs k) (h3 : ∀ j, j < k' → okR bs j) (h4 : ¬ okR bs k') : k = k' := by
  rcases Nat.lt_trichotomy k k' with h | h | h
  · exact absurd (h3 k h) h2
  · exact h
  · exact absurd (h1 k' h) h4
theorem body_len (bs : List UInt8) (j : Nat) : (bodyR bs j).length ≤ 65535 := by
  unfold bodyR
  exact upk_blen _
theorem recC_len (bs : List UInt8) (vs : Nat → Value) : ∀ k, (recC bs vs k).length = k * 2
  | 0 => rfl
  | k + 1 => by rw [recC, List.length_append, recC_len bs vs k]; simp; omega
theorem recC_at (bs : List UInt8) (vs : Nat → Value) (j : Nat) : ∀ k, j < k → (recC bs vs k)[j * 2]? = some (.int .i64 ((plc bs j : Nat) : Int)) ∧ (recC bs vs k)[j * 2 + 1]? = some (vs j)
  | 0, h => by omega
  | k + 1, h => by
    rw [recC]
    rcases Nat.lt_or_ge j k with hj | hj
    · obtain ⟨h1, h2⟩ := recC_at bs vs j k hj
      have hl := recC_len bs vs k
      exact ⟨by rw [List.getElem?_append_left (by omega)]; exact h1, by rw [List.getElem?_append_left (by omega)]; exact h2⟩
    · obtain rfl : j = k := by omega
      have hl := recC_len bs vs j
      constructor
      · rw [List.getElem?_append_right (by omega), hl, Nat.sub_self]; rfl
      · rw [List.getElem?_append_right (by omega), hl, show j * 2 + 1 - j * 2 = 1 by omega]; rfl
theorem OwnsRec.form {w : World} {base : Nat} {ao : Option Addr} {c : Nat} {bs : List UInt8} {vs : Nat → Value} {k : Nat} (h : OwnsRec w base (.slice ao k c) bs vs k) (h0 : 0 < k) : ∃ g, ao = some ⟨g, 0, none⟩ := by
  obtain ⟨hl, ⟨e, e2⟩ | ⟨g, cap, cur, e, _⟩⟩ := h
  · omega
  · cases e; exact ⟨g, rfl⟩
theorem OwnsRec.at {w : World} {base g c : Nat} {bs : List UInt8} {vs : Nat → Value} {k : Nat} (h : OwnsRec w base (.slice (some ⟨g, 0, none⟩) k c) bs vs k) (j : Nat) (hj : j < k) : w.cell? ⟨g, j * 2, none⟩ = some (.int .i64 ((plc bs j : Nat) : Int)) ∧ w.cell? ⟨g, j * 2 + 1, none⟩ = some (vs j) := by
  have hc := World.ownsRow.cells (g := g) h rfl
  obtain ⟨h1, h2⟩ := recC_at bs vs j k hj
  have a := hc _ _ h1
  have b := hc _ _ h2
  rw [Addr.add_mid, Nat.zero_add] at a b
  exact ⟨a, b⟩
theorem ownsS_grown {w w' : World} {base s : Nat} {e : TypeId} {v : Value} {n : Nat} {ys : List Value} {row : Option Nat} (h : w.ownsRow base e s v n ys) (hg : w.grownBy w' row) (hne : ∀ g, v.ownBlock = some g → some g ≠ row) : w'.ownsRow base e s v n ys := by
  obtain ⟨h0, h1 | ⟨g, cap, cur, rfl, hb, hh, hr⟩⟩ := h
  · exact ⟨h0, .inl h1⟩
  · have hlt : g < w.heap.size := Blk.lt (cs := cur) (t := e) hh
    exact ⟨h0, .inr ⟨g, cap, cur, rfl, hb, (hg.block g hlt (hne g rfl)).trans hh, hr⟩⟩
theorem ownsS_below {w w' : World} {base s : Nat} {e : TypeId} {v : Value} {n : Nat} {ys : List Value} (h : w.ownsRow base e s v n ys) (hb : Below w.heap.size w w') : w'.ownsRow base e s v n ys := ownsS_grown (row := none) h (grownBy_below hb) (fun _ _ => by simp)
theorem blk_ownS_ne {w : World} {B b s : Nat} {cs : Array Value} {t e : TypeId} {v : Value} {n : Nat} {ys : List Value} (hb : Blk w b cs t) (ho : w.ownsRow B e s v n ys) (hte : t ≠ e) : ∀ g, v.ownBlock = some g → g ≠ b := by
  intro g hg e1
  subst e1
  obtain ⟨_, ⟨rfl, _⟩ | ⟨g', cap, cur, rfl, _, hh, _⟩⟩ := ho
  · cases hg
  · cases hg
    unfold Blk at hb
    rw [hh] at hb
    have := Obj.cells.inj (Option.some.inj hb)
    exact hte this.2.1.symm
theorem ownsS_ge {w : World} {B s : Nat} {e : TypeId} {v : Value} {n : Nat} {ys : List Value} (ho : w.ownsRow B e s v n ys) : ∀ g, v.ownBlock = some g → B ≤ g := by
  intro g hg
  obtain ⟨_, ⟨rfl, _⟩ | ⟨g', cap, cur, rfl, hb, _⟩⟩ := ho
  · cases hg
  · cases hg; exact hb
theorem keepR_of {w7 W W' : World} {lo : Nat} (h : Below w7.heap.size w7 W) (h' : Below w7.heap.size w7 W') (hs : W.heap.size ≤ W'.heap.size) : KeepR lo w7.heap.size W W' := ⟨hs, fun k _ hk => (h'.block k hk).trans (h.block k hk).symm⟩
/-- The marks of the rounds' deferred calls. -/
def AllD (DL : List Nat) (W : World) : Prop := ∀ D ∈ DL, W.heap[D]? = some (.deferred (some []))
theorem AllD.keep {DL : List Nat} {W W' : World} (h : AllD DL W) (k : KeepsOthers W W') : AllD DL W' := fun D hD => k.same D _ (h D hD) rfl
theorem AllD.below {DL : List Nat} {W W' : World} (h : AllD DL W) (hb : Below W.heap.size W W') : AllD DL W' := h.keep (keeps_below hb)
theorem AllD.ownFrom {β : Type} {B : Nat} {DL : List Nat} (hB : ∀ D ∈ DL, D < B) : OwnFrom B (fun (_ : β) W => AllD DL W) :=
  fun s A C row h hg hr D hD => by
    have h1 := h D hD
    have hlt : D < A.heap.size := (Array.getElem?_eq_some_iff.1 h1).1
    rw [hg.block D hlt (fun e => by have := (hr D e.symm).1; have := hB D hD; omega)]
    exact h1
theorem inBlock_exit {Q : Exit → Act → World → Prop} {a : Act} {w : World} (id : Nat) (h : Q .normal a w) : Exit.inBlock id Q (.exit id) a w := by
  simp only [Exit.inBlock, if_true]
  exact h
theorem leave3 {fn : Func} {t : Tmp} (hres : fn.results = #[.tmp t]) {tmps : Array Value} {W w : World} {D1 D2 D3 : Nat} (h : AllD [D3, D2, D1] W) (h12 : D1 ≠ D2) (h13 : D1 ≠ D3) (h23 : D2 ≠ D3) (hv : tmps.getD t undef = .bool true) (hB : Below w.heap.size w W) (l1 : w.heap.size ≤ D1) (l2 : w.heap.size ≤ D2) (l3 : w.heap.size ≤ D3) :
    bodyPostM Fence.wide 5 Try.prog fn (TrueC w) .ret { tmps := tmps, defers := [{ target := .collected D3, args := #[] }, { target := .collected D2, args := #[] }, { target := .collected D1, args := #[] }] } W := by
  have e3 := h D3 (by simp)
  have e2 : (W.putObj D3 (.deferred none)).heap[D2]? = some (.deferred (some [])) := (World.putObj_heap_other h23).trans (h D2 (by simp))
  have e1 : ((W.putObj D3 (.deferred none)).putObj D2 (.deferred none)).heap[D1]? = some (.deferred (some [])) := (World.putObj_heap_other h12).trans ((World.putObj_heap_other h13).trans (h D1 (by simp)))
  refine ⟨by simp, .inl ⟨_, _, rfl, run_takeDeferred e3, ?_⟩⟩
  refine ⟨by simp, .inl ⟨_, _, rfl, run_takeDeferred e2, ?_⟩⟩
  refine ⟨by simp, .inl ⟨_, _, rfl, run_takeDeferred e1, ?_⟩⟩
  refine ⟨.bool true, ?_, rfl, below_put (below_put (below_put hB D3 _ l3) D2 _ l2) D1 _ l1⟩
  have hv' : tmps[t]?.getD undef = .bool true := by simpa using hv
  simp [results, hres, hv']
theorem wpListIn_append_list {F : Fence} {nF : Nat} {ops : Array Oper} {rest : List Oper} {o : Oper} {a : Act} {w : World} {Q : Exit → Act → World → Prop} (hgd : o.guard = none) (s x : Operand) (ho : o.op = .call { callee := .builtin .append, args := #[s, x], argTypes := #[31, 31] })
    (base : Nat) (v : Value) (n : Nat) (ys : List Value) (hs : a.eval s = v) (hown : w.ownsRow base 22 1 v n ys) (z c : Nat) (hx : a.eval x = .slice (some ⟨z, 0, none⟩) 1 c) (y : Value) (hy : y.oneCell' = true) (hc : w.cell? ⟨z, 0, none⟩ = some y) (hlen : n ≤ 1000000000000) (hbase : base ≤ w.heap.size)
    (h : ∀ v' w', Hid (w'.ownsRow base 22 1 v' (n + 1) (ys ++ [y])) → Hid (w.grownBy w' v.ownBlock) → Hid (v'.ownBlock = v.ownBlock ∨ v'.ownBlock = some w.heap.size) → wpListIn F nF Try.prog ops Q rest (a.put o.dst v') w') : wpListIn F nF Try.prog ops Q (o :: rest) a w := by
  obtain ⟨i0, hi, hz0, hz1, hz2⟩ := info_parts infoSl
  refine wpListIn_append_own_at (w := w) hgd s x 31 ho base 22 i0 _ 1 24 Try.underlying31 hi hz0 hz1 hz2 rfl (by decide) v n ys hs hown ⟨z, 0, none⟩ 1 c [y] hx rfl ?_ ?_ (by unfold maxLen; omega) (by omega) hbase ?_
  · intro j u hj
    cases j with
    | zero => cases hj; exact hc
    | succ j => simp at hj
  · intro u hu
    simp only [List.mem_cons, List.not_mem_nil, or_false] at hu
    rw [hu]; exact hy
  · intro v' w' h1 h2 _ h4
    exact h v' w' (hide h1) (hide h2) (hide h4)
end Go.Proofs.Ytbnedlcldfpfdaa
