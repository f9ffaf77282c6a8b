/- Next: its state between two rounds; steps within a round. -/
import Derived.Test.YtdigjpddmfolgaaIC1
namespace Go.Proofs.Ytdigjpddmfolgaa
set_option linter.unusedVariables false
set_option linter.unusedSimpArgs false
namespace TX
open Go.RowKit
set_option maxRecDepth 100000

section
variable {F : Fence} {n : Nat} {ops : Array Oper} {rest : List Oper} {op : Oper} {a : Act} {w : World} {Q : Exit → Act → World → Prop}
theorem setCells_sz (b : Nat) : ∀ (vs : List Value) (o : Nat) (w : World), (w.setCells b o vs).heap.size = w.heap.size
  | [], _, _ => rfl
  | v :: vs, o, w => by
    show ((w.setCell ⟨b, o, none⟩ v).setCells b (o + 1) vs).heap.size = _
    rw [setCells_sz b vs]; simp
/-- A value of some cells is stored into memory that has just been laid. -/
theorem wpListIn_putX {t : TypeId} {m : Nat} (hgd : op.guard = none) (x y : Operand) (ho : op.op = .store t x y) (z : Nat) (hx : a.eval x = .pointer (some ⟨z, 0, none⟩)) (w0 : World) (old cs : Array Value) (hw : w = w0.alloc (.cells old t)) (hz : z = w0.heap.size) (hy : a.eval y = .agg cs)
    (h0 : old.size = m) (h1 : cs.size = m) (hi : (Try.prog.info? t).map (·.size) = some m) (hc : ∀ v ∈ cs.toList, v.oneCell' = true)
    (h : ∀ w', Hid (Blk w' z cs t) → Below w0.heap.size w0 w' → w'.heap.size = w0.heap.size + 1 → wpListIn F n Try.prog ops Q rest (a.put op.dst undef) w') : wpListIn F n Try.prog ops Q (op :: rest) a w := by
  subst hw hz
  have hk := Blk.made w0 old t
  obtain ⟨k1, k2⟩ := setCells_blk hk cs (by rw [h0, h1])
  refine wpListIn_plain hgd fun K' hK' => ?_
  unfold Oper.wpIn
  refine ⟨by simp [Oper.about, ho], ?_⟩
  have hr : (execOp a.eval op).run Try.prog (w0.alloc (.cells old t)) = .ok .skip ((w0.alloc (.cells old t)).setCells w0.heap.size 0 cs.toList) := by
    have hst := run_storeAt_mid (P := Try.prog) (w0.alloc (.cells old t)) w0.heap.size 0 t cs (there_row hk 0 _ (by rw [h0, h1]; omega)) (by rw [h1]; exact hi) (by have := all_oneCell_toArray hc; simpa using this)
    simp only [execOp, ho, hx, hy, Sem.run_bind, hst, Result.andThen_ok, Sem.run_pure]
  rw [Oper.semAt_plain F _ _ (by rw [ho]; intro c hc'; cases hc'), hr]
  exact hK' _ _ (h _ (hide k1) (below_grownBy (grownBy_trans (World.grownBy_alloc _ _ _) k2) (Nat.le_refl _) (Nat.le_refl _)) (by rw [setCells_sz]; simp))
theorem wpListIn_putK (hgd : op.guard = none) (x y : Operand) (ho : op.op = .store KT x y) (z : Nat) (hx : a.eval x = .pointer (some ⟨z, 0, none⟩)) (w0 : World) (hw : w = w0.alloc (.cells (kA kZ) KT)) (hz : z = w0.heap.size) (k : KY) (hy : a.eval y = kV k)
    (h : ∀ w', Hid (KB w' z k) → Below w0.heap.size w0 w' → w'.heap.size = w0.heap.size + 1 → wpListIn F n Try.prog ops Q rest (a.put op.dst undef) w') : wpListIn F n Try.prog ops Q (op :: rest) a w :=
  wpListIn_putX (m := 32) hgd x y ho z hx w0 (kA kZ) (kA k) hw hz hy (kA_size _) (kA_size _) iK (kC_one k) h
theorem wpListIn_putE (hgd : op.guard = none) (x y : Operand) (ho : op.op = .store ET x y) (z : Nat) (hx : a.eval x = .pointer (some ⟨z, 0, none⟩)) (w0 : World) (hw : w = w0.alloc (.cells (eA eZ) ET)) (hz : z = w0.heap.size) (e : EN) (hy : a.eval y = eV e)
    (h : ∀ w', Hid (EB w' z e) → Below w0.heap.size w0 w' → w'.heap.size = w0.heap.size + 1 → wpListIn F n Try.prog ops Q rest (a.put op.dst undef) w') : wpListIn F n Try.prog ops Q (op :: rest) a w :=
  wpListIn_putX (m := 4) hgd x y ho z hx w0 (eA eZ) (eA e) hw hz hy (eA_size _) (eA_size _) iE (eC_one e) h
/-- A key with its entry is built, is stored. -/
theorem wpListIn_bdKD (hgd : op.guard = none) (x y : Operand) (ho : op.op = .build KDT #[(0, x), (1, y)]) (k : KY) (e : EN) (hx : a.eval x = kV k) (hy : a.eval y = eV e)
    (h : wpListIn F n Try.prog ops Q rest (a.put op.dst (kdV (k, e))) w) : wpListIn F n Try.prog ops Q (op :: rest) a w := by
  refine wpListIn_plain hgd fun K' hK' => ?_
  unfold Oper.wpIn
  refine ⟨by simp [Oper.about, ho], ?_⟩
  rw [Oper.semAt_plain F _ _ (by rw [ho]; intro c hc'; cases hc'), run_bdKD ho k e hx hy w]
  exact hK' _ _ h
theorem run_stoKD {ev : Operand → Value} (x y : Operand) (ho : op.op = .store KDT x y) (b : Nat) (hx : ev x = .pointer (some ⟨b, 0, none⟩)) (u v : KY × EN) (hy : ev y = kdV v) (hb : Blk w b (kdA u) KDT) : (execOp ev op).run Try.prog w = .ok .skip (w.setCells b 0 (kdC v)) := by
  simp only [execOp, ho, hx, hy, Sem.run_bind, run_stKD hb v, Result.andThen_ok, Sem.run_pure]
theorem wpListIn_stKD (hgd : op.guard = none) (x y : Operand) (ho : op.op = .store KDT x y) (b : Nat) (hx : a.eval x = .pointer (some ⟨b, 0, none⟩)) (u v : KY × EN) (hy : a.eval y = kdV v) (hb : Blk w b (kdA u) KDT)
    (h : ∀ w', Hid (Blk w' b (kdA v) KDT) → Hid (w.grownBy w' (some b)) → wpListIn F n Try.prog ops Q rest (a.put op.dst undef) w') : wpListIn F n Try.prog ops Q (op :: rest) a w := by
  refine wpListIn_plain hgd fun K' hK' => ?_
  unfold Oper.wpIn
  refine ⟨by simp [Oper.about, ho], ?_⟩
  rw [Oper.semAt_plain F _ _ (by rw [ho]; intro c hc'; cases hc'), run_stoKD x y ho b hx u v hy hb]
  exact hK' _ _ (h _ (hide (KD.put hb v).1) (hide (KD.put hb v).2))
theorem wpList_stKD (hgd : op.guard = none) (x y : Operand) (ho : op.op = .store KDT x y) (b : Nat) (hx : a.eval x = .pointer (some ⟨b, 0, none⟩)) (u v : KY × EN) (hy : a.eval y = kdV v) (hb : Blk w b (kdA u) KDT)
    (h : ∀ w', Hid (Blk w' b (kdA v) KDT) → Hid (w.grownBy w' (some b)) → wpList Try.prog ops Q rest (a.put op.dst undef) w') : wpList Try.prog ops Q (op :: rest) a w :=
  wpList_skip _ hgd (run_stoKD x y ho b hx u v hy hb) (h _ (hide (KD.put hb v).1) (hide (KD.put hb v).2))
end
theorem zero_K (W : World) : (zeroValue KT).run Try.prog W = .ok (.agg (kA kZ)) W := by kernel_rfl
theorem Blk.kept {W W' : World} {b : Nat} {cs : Array Value} {t : TypeId} {row : Option Nat} (h : Blk W b cs t) (hg : W.grownBy W' row) (hr : ∀ r, row = some r → ∃ o : Obj, W.heap[r]? = some o ∧ o.isCells = false) : Blk W' b cs t :=
  h.grown hg (fun e => by
    obtain ⟨o, h1, h2⟩ := hr b e.symm
    have h3 := h
    unfold Blk at h3
    rw [h3] at h1
    cases h1
    cases h2)
/-- Between two rounds. -/
structure NxS (w : World) (N : Nat) (aft : KY) (any : Bool) (Ds : List Nat) (fo : Option (KY × EN)) (W : World) : Prop where
  kb : KB W N aft
  ab : Blk W (N + 1) #[.bool any] BT
  rb : Blk W (N + 2) (kdA kdZ) KDT
  lb : Blk W (N + 3) (kdA (fo.getD kdZ)) KDT
  fb : Blk W (N + 4) #[.bool fo.isSome] BT
  bel : Below N w W
  nd : Ds.Nodup
  df : ∀ D ∈ Ds, N ≤ D ∧ W.heap[D]? = some (.deferred (some []))
section
variable {w W W' : World} {N : Nat} {aft : KY} {any : Bool} {Ds : List Nat} {fo : Option (KY × EN)}
theorem NxS.sz (h : NxS w N aft any Ds fo W) : N + 5 ≤ W.heap.size := by have := Blk.lt h.fb; omega
theorem NxS.below (h : NxS w N aft any Ds fo W) (hb : Below W.heap.size W W') : NxS w N aft any Ds fo W' :=
  ⟨h.kb.below hb, h.ab.below hb h.ab.lt, h.rb.below hb h.rb.lt, h.lb.below hb h.lb.lt, h.fb.below hb h.fb.lt, h.bel.trans (hb.mono (by have := h.sz; omega)), h.nd, fun D hD => ⟨(h.df D hD).1, heap_grows hb (h.df D hD).2⟩⟩
theorem NxS.kept {C : Nat} {row : Option Nat} (h : NxS w N aft any Ds fo W) (hC : N ≤ C) (hg : W.grownBy W' row) (hr : ∀ r, row = some r → C ≤ r ∧ ∃ o : Obj, W.heap[r]? = some o ∧ o.isCells = false) (hD : ∀ D ∈ Ds, row ≠ some D) : NxS w N aft any Ds fo W' := by
  have hr2 : ∀ r, row = some r → ∃ o : Obj, W.heap[r]? = some o ∧ o.isCells = false := fun r e => (hr r e).2
  have hs := h.sz
  exact ⟨Blk.kept h.kb hg hr2, Blk.kept h.ab hg hr2, Blk.kept h.rb hg hr2, Blk.kept h.lb hg hr2, Blk.kept h.fb hg hr2,
    ⟨hg.os.trans h.bel.os, hg.tape.trans h.bel.tape, hg.output.trans h.bel.output, Nat.le_trans h.bel.size hg.size, fun i hi => (hg.block i (by omega) (fun e => by have := (hr i e.symm).1; omega)).trans (h.bel.block i hi)⟩,
    h.nd, fun D hDm => ⟨(h.df D hDm).1, (hg.block D (Array.getElem?_eq_some_iff.1 (h.df D hDm).2).1 (fun e => hD D hDm e.symm)).trans (h.df D hDm).2⟩⟩
theorem NxS.own {S : List (KY × EN) → KY → EN → Prop} {C : Nat} (hC : N ≤ C) (hD : ∀ D ∈ Ds, D < C) : OwnFrom C (fun pre W => ∃ fo, NxS w N aft any Ds fo W ∧ Lst aft any (S pre) fo) :=
  fun s A B row ⟨fo, h, h0⟩ hg hr => ⟨fo, h.kept hC hg hr (fun D hm e => by have := (hr D e).1; have := hD D hm; omega), h0⟩
theorem NxS.putLoop (h : NxS w N aft any Ds fo W) {l : Nat} {q : Loop} (hl : W.heap[l]? = some (.loop q)) (o' : Obj) (hN : N ≤ l) : NxS w N aft any Ds fo (W.putObj l o') :=
  h.kept hN (grownBy_putObj' W l o') (fun r e => by cases e; exact ⟨Nat.le_refl _, _, hl, rfl⟩) (fun D hm e => by
    have := (h.df D hm).2
    rw [← Option.some.inj e, hl] at this
    cases this)
/-- Another one is the least so far. -/
theorem NxS.take (h : NxS w N aft any Ds fo W) (x : KY × EN) {w4 : World} (h1 : Blk w4 (N + 3) (kdA x) KDT) (hg : W.grownBy w4 (some (N + 3))) :
    Blk w4 (N + 4) #[.bool fo.isSome] BT ∧ NxS w N aft any Ds (some x) (w4.setCell ⟨N + 4, 0, none⟩ (.bool true)) ∧ KeepsLD W (w4.setCell ⟨N + 4, 0, none⟩ (.bool true)) ∧ KeepT tys W (w4.setCell ⟨N + 4, 0, none⟩ (.bool true)) := by
  have hs := h.sz
  have ne3 : ∀ b, b ≠ N + 3 → some b ≠ some (N + 3) := fun b hb e => hb (Option.some.inj e)
  have ne4 : ∀ b, b ≠ N + 4 → some b ≠ some (N + 4) := fun b hb e => hb (Option.some.inj e)
  have hf := h.fb.grown hg (ne3 _ (by omega))
  have hg2 := grownBy_set w4 (N + 4) 0 (.bool true)
  have dne : ∀ D ∈ Ds, D ≠ N + 3 ∧ D ≠ N + 4 := fun D hD => by
    have h2 := (h.df D hD).2
    refine ⟨fun e => ?_, fun e => ?_⟩
    · have h3 := h.lb
      unfold Blk at h3
      rw [e, h3] at h2
      cases h2
    · have h3 := h.fb
      unfold Blk at h3
      rw [e, h3] at h2
      cases h2
  have kl : KeepsLD W w4 := KeepsLD.grown hg (fun q e => by have h3 := h.lb; unfold Blk at h3; rw [h3] at e; cases e) (fun q e => by have h3 := h.lb; unfold Blk at h3; rw [h3] at e; cases e)
  have kl2 : KeepsLD w4 (w4.setCell ⟨N + 4, 0, none⟩ (.bool true)) := KeepsLD.grown hg2 (fun q e => by have h3 := hf; unfold Blk at h3; rw [h3] at e; cases e) (fun q e => by have h3 := hf; unfold Blk at h3; rw [h3] at e; cases e)
  refine ⟨hf, ⟨(Blk.grown h.kb hg (ne3 _ (by omega))).grown hg2 (ne4 _ (by omega)), (h.ab.grown hg (ne3 _ (by omega))).grown hg2 (ne4 _ (by omega)), (h.rb.grown hg (ne3 _ (by omega))).grown hg2 (ne4 _ (by omega)), h1.grown hg2 (ne4 _ (by omega)), hf.set 0 (.bool true), ?_, h.nd, fun D hD => ⟨(h.df D hD).1, kl2.df _ _ (kl.df _ _ (h.df D hD).2)⟩⟩, kl.trans kl2, ?_⟩
  · refine ⟨hg2.os.trans (hg.os.trans h.bel.os), hg2.tape.trans (hg.tape.trans h.bel.tape), hg2.output.trans (hg.output.trans h.bel.output), Nat.le_trans h.bel.size (Nat.le_trans hg.size hg2.size), fun i hi => ?_⟩
    have hsz := hg.size
    exact ((hg2.block i (by omega) (ne4 _ (by omega))).trans (hg.block i (by omega) (ne3 _ (by omega)))).trans (h.bel.block i hi)
  · exact (KeepT.grown hg (fun r e => by cases e; exact ⟨_, _, _, h.lb, by decide⟩)).trans (KeepT.grown hg2 (fun r e => by cases e; exact ⟨_, _, _, hf, by decide⟩))
end
/-- Ahead of the walk. -/
structure NxA (w : World) (N : Nat) (aft : KY) (any : Bool) (W : World) : Prop where
  kb : KB W N aft
  ab : Blk W (N + 1) #[.bool any] BT
  rb : Blk W (N + 2) (kdA kdZ) KDT
  lb : Blk W (N + 3) (kdA kdZ) KDT
  bel : Below N w W
  sz : W.heap.size = N + 4
theorem nxA_made (w : World) (aft : KY) (any : Bool) : NxA w w.heap.size aft any ((((w.alloc (.cells (kA aft) KT)).alloc (.cells #[.bool any] BT)).alloc (.cells (kdA kdZ) KDT)).alloc (.cells (kdA kdZ) KDT)) := by
  have b2 := Blk.made (w.alloc (.cells (kA aft) KT)) #[.bool any] BT
  have b3 := Blk.made ((w.alloc (.cells (kA aft) KT)).alloc (.cells #[.bool any] BT)) (kdA kdZ) KDT
  have b4 := Blk.made (((w.alloc (.cells (kA aft) KT)).alloc (.cells #[.bool any] BT)).alloc (.cells (kdA kdZ) KDT)) (kdA kdZ) KDT
  simp only [World.size_alloc, Nat.add_assoc, Nat.reduceAdd] at b2 b3 b4
  refine ⟨(((Blk.made w (kA aft) KT).alloc _).alloc _).alloc _, (b2.alloc _).alloc _, b3.alloc _, b4, ?_, by simp⟩
  exact ((((Below.refl _ w).alloc (Nat.le_refl _) _).alloc (by simp) _).alloc (by simp; omega) _).alloc (by simp; omega) _
theorem NxA.begin {w W : World} {N : Nat} {aft : KY} {any : Bool} (h : NxA w N aft any W) : NxS w N aft any [] none (W.alloc (.cells #[.bool false] BT)) := by
  have hb := Blk.made W #[.bool false] BT
  rw [h.sz] at hb
  have hs := h.sz
  exact ⟨Blk.alloc h.kb _, h.ab.alloc _, h.rb.alloc _, h.lb.alloc _, hb, h.bel.alloc (by omega) _, List.nodup_nil, fun D hD => by cases hD⟩
theorem name_worldInK' {F : Fence} {n : Nat} {P : Program} {c : Code} {a : Act} {w : World} {Q : World → Exit → Act → World → Prop} (R : World → Prop) (h : R w) (k : ∀ W, R W → c.wpIn F n P (Q W) a W) : c.wpIn F n P (Q w) a w := k w h
/-- What Next leaves. -/
def NxtC (w : World) (aft : KY) (any : Bool) (f : KY → Option EN) (e : Ending) (w' : World) : Prop :=
  (∃ fo : Option (KY × EN), e = .returned (.tuple #[kdV (fo.getD kdZ), .bool fo.isSome]) ∧ Lst aft any (fun k e => f k = some e) fo) ∧ Below w.heap.size w w'
theorem loadKD {w : World} {b : Nat} {x : KY × EN} (h : Blk w b (kdA x) KDT) : (loadVar KDT ⟨b, 0, none⟩).run Try.prog w = .ok (kdV x) w :=
  run_loadVar_mid (P := Try.prog) w b 0 KDT (kdC x) _ (Blk.range h) Try.underlying57 rfl (by rw [kdC_len]; exact iKD)
theorem nx_end {fn : Func} (hres : fn.results = #[.cell 6 KDT, .tmp 7]) {tmps : Array Value} {w w1 w4 : World} {N : Nat} {aft : KY} {any : Bool} {Ds : List Nat} {fo : Option (KY × EN)} {f : KY → Option EN} (hS : NxS w N aft any Ds fo w1) (h4 : Blk w4 (N + 2) (kdA (fo.getD kdZ)) KDT) (hg : w1.grownBy w4 (some (N + 2)))
    (h6 : tmps.getD 6 undef = .pointer (some ⟨N + 2, 0, none⟩)) (h7 : tmps.getD 7 undef = .bool fo.isSome) (hN : N = w.heap.size) (hL : Lst aft any (fun k e => f k = some e) fo) : bodyPostM Fence.wide 5 Try.prog fn (NxtC w aft any f) .ret { tmps := tmps, defers := marks Ds } w4 := by
  have hs := hS.sz
  have hne : ∀ D ∈ Ds, D ≠ N + 2 := fun D hD e => by
    have h2 := (hS.df D hD).2
    have h3 := hS.rb
    unfold Blk at h3
    rw [e, h3] at h2
    cases h2
  refine leave_marks (N := N) w Ds w4 hS.nd (fun D hD => ⟨(hS.df D hD).1, ?_⟩) ?_ (fun W' hb hs => ?_)
  · exact (hg.block D (Array.getElem?_eq_some_iff.1 (hS.df D hD).2).1 (fun e => hne D hD (Option.some.inj e))).trans (hS.df D hD).2
  · exact ⟨hg.os.trans hS.bel.os, hg.tape.trans hS.bel.tape, hg.output.trans hS.bel.output, Nat.le_trans hS.bel.size hg.size, fun i hi => (hg.block i (by omega) (fun e => by have := Option.some.inj e; omega)).trans (hS.bel.block i hi)⟩
  · have hr : Blk W' (N + 2) (kdA (fo.getD kdZ)) KDT := (hs (N + 2) (fun h => hne _ h rfl)).trans h4
    refine ⟨_, results_cell_tmp hres tmps W' ⟨N + 2, 0, none⟩ h6 (kdV (fo.getD kdZ)) (.bool fo.isSome) h7 (loadKD hr), ⟨fo, rfl, hL⟩, ?_⟩
    rw [← hN]
    exact hb
end TX
end Go.Proofs.Ytdigjpddmfolgaa
