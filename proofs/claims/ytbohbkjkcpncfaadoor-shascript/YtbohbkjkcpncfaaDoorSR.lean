/- Statements that draw their order and make or write a whole array: the steps. -/
import Derived.Test.YtbohbkjkcpncfaaDoorSA
import Derived.Deep.RegionHeld3
namespace Go.Proofs.YtbohbkjkcpncfaaDoor
set_option linter.unusedVariables false
set_option linter.unusedSimpArgs false
open Go.RowKit

theorem wpAnyH_mono {P : Program} {md : Region.Mode} {ops : Array Oper} {Q : Exit → Act → World → Prop} {S S' : World → Prop} (hs : ∀ w, S' w → S w) :
    ∀ (fuel : Nat) (listed : Array Bool) (a : Act) (w : World), wpAnyH P md ops Q S' fuel listed a w → wpAnyH P md ops Q S fuel listed a w
  | 0, _, _, _, h => h
  | fuel + 1, _, _, _, h => ⟨h.1, fun i hi => wpOp_mono (fun a' w' h' => ⟨hs w' h'.1, wpAnyH_mono hs fuel _ a' w' h'.2⟩) (h.2 i hi)⟩
theorem step_enterE {op : Oper} {a : Act} {w : World} {K : Act → World → Prop} {Q : Exit → Act → World → Prop} (f : FuncId) (args : Array Value) (hr : (execOp a.eval op).run Tryd.prog w = .ok (.enter f args) w) (R : Value → World → Prop) (hc : Calls Tryd.prog f args w fun e w' => ∃ V, e = .returned V ∧ R V w') (h : ∀ V w', R V w' → K (a.put op.dst V) w') : op.wp Tryd.prog a w K Q := by
  unfold Oper.wp
  rw [hr]
  refine Calls.mono hc ?_
  rintro e w' ⟨V, rfl, hR⟩
  exact h V w' hR
theorem step_runE {op : Oper} {a : Act} {w : World} {K : Act → World → Prop} {Q : Exit → Act → World → Prop} (v : Value) (w' : World) (hr : (execOp a.eval op).run Tryd.prog w = .ok (.value v) w') (h : K (a.put op.dst v) w') : op.wp Tryd.prog a w K Q := by
  unfold Oper.wp
  rw [hr]
  exact h
theorem wanted_none {o : Oper} {y : _} (h : o.guard = none) : Region.wanted o y = true := by simp [Region.wanted, h]
theorem ev_same (a : Act) (t : Tmp) (v : Value) (h : t < a.tmps.size) : (a.put (some t) v).eval (.tmp t) = v := by simp [Act.put, Act.eval, h]
theorem ev_other (a : Act) (s t : Tmp) (v : Value) (h : s ≠ t) : (a.put (some s) v).eval (.tmp t) = a.eval (.tmp t) := by simp [Act.put, Act.eval, h]
theorem sz_put (a : Act) (s : Tmp) (v : Value) : (a.put (some s) v).tmps.size = a.tmps.size := by simp [Act.put]
theorem wanted_some {ops : Array Oper} {o : Oper} {a : Act} {j : Nat} {b : Bool} {t : Tmp} (hg : o.guard = some (j, b)) (hd : (ops[j]?).bind (·.dst) = some t) (he : a.eval (.tmp t) = .bool b) (hz : t < a.tmps.size) : Region.wanted o (yielded ops a.tmps) = true := by
  have h1 : a.tmps[t]? = some (.bool b) := by
    rw [Array.getElem?_eq_getElem hz]
    simpa [Act.eval, hz] using he
  simp [Region.wanted, hg, yielded, hd, h1]
theorem step_skipE {op : Oper} {a : Act} {w : World} {K : Act → World → Prop} {Q : Exit → Act → World → Prop} (w' : World) (hr : (execOp a.eval op).run Tryd.prog w = .ok .skip w') (h : K (a.put op.dst undef) w') : op.wp Tryd.prog a w K Q := by
  unfold Oper.wp
  rw [hr]
  exact h
theorem run_load {op : Oper} {ev : Operand → Value} {t : TypeId} {x : Operand} {p v : Value} {w : World} (ho : op.op = .load t x) (hx : ev x = p) (hl : (Instr.loadAt t p).run Tryd.prog w = .ok v w) : (execOp ev op).run Tryd.prog w = .ok (.value v) w := by
  simp only [execOp, ho, hx, Sem.run_bind, hl, Result.andThen_ok, Sem.run_pure]
theorem run_slice {op : Oper} {ev : Operand → Value} {t : TypeId} {x : Operand} {p v : Value} {w : World} (ho : op.op = .slice t x none none none) (hx : ev x = p) (hl : (Instr.sliceAt t p none none none).run Tryd.prog w = .ok v w) : (execOp ev op).run Tryd.prog w = .ok (.value v) w := by
  simp only [execOp, ho, hx, Option.map_none, Sem.run_bind, hl, Result.andThen_ok, Sem.run_pure]
theorem run_storeA {op : Oper} {ev : Operand → Value} {t : TypeId} {x y : Operand} {b : Nat} {cells : Array Value} {w : World} (ho : op.op = .store t x y) (hx : ev x = .pointer (some ⟨b, 0, none⟩)) (hy : ev y = .agg cells) {old : Array Value} {t' : TypeId} (hk : Blk w b old t') (n : Nat) (hn : old.size = n) (hc : cells.size = n) (hi : (Tryd.prog.info? t).map (·.size) = some n) (h1 : cells.all (·.oneCell') = true) : (execOp ev op).run Tryd.prog w = .ok .skip (w.setCells b 0 cells.toList) := by
  have := run_storeAt_mid (P := Tryd.prog) w b 0 t cells (thereBlk hk _ (by omega)) (by rw [hc]; exact hi) h1
  simp only [execOp, ho, hx, hy, Sem.run_bind, this, Result.andThen_ok, Sem.run_pure]
theorem loadAt_blk {w : World} {b : Nat} {cs : Array Value} {t : TypeId} (hk : Blk w b cs t) (ty : TypeId) (d : TypeDesc) (hu : Tryd.prog.underlying ty = some d) (hd : d.isRow = true) (n : Nat) (hi : (Tryd.prog.info? ty).map (·.size) = some n) (hn : cs.size = n) : (Instr.loadAt ty (.pointer (some ⟨b, 0, none⟩))).run Tryd.prog w = .ok (.agg cs) w := by
  simp only [Instr.loadAt, Instr.sureAddr, Sem.run_bind, Sem.run_pure, Result.andThen_ok]
  exact loadBlkT hk ty d hu hd n hi hn
theorem slice64_all (z : Nat) (W : World) : (Instr.sliceAt 34 (.pointer (some ⟨z, 0, none⟩)) none none none).run Tryd.prog W = .ok (.slice (some ⟨z, 0, none⟩) 64 64) W := by kernel_rfl
def zero8 : Array Value := #[.int .u32 0, .int .u32 0, .int .u32 0, .int .u32 0, .int .u32 0, .int .u32 0, .int .u32 0, .int .u32 0]
theorem run_alloc8 {op : Oper} {ev : Operand → Value} (ho : op.op = .alloc 33) (w : World) : (execOp ev op).run Tryd.prog w = .ok (.value (.pointer (some ⟨w.heap.size, 0, none⟩))) (w.alloc (.cells zero8 33)) := by
  simp only [execOp, ho]
  kernel_rfl
theorem below_set {w : World} {b : Nat} {old cells : Array Value} {t : TypeId} {B : Nat} (hk : Blk w b old t) (hs : cells.size = old.size) (hB : B ≤ b) : Below B w (w.setCells b 0 cells.toList) := by
  have h := (setCells_blk hk cells hs).2
  exact ⟨h.os, h.tape, h.output, h.size, fun i hi => by
    rcases Nat.lt_or_ge i w.heap.size with hl | hl
    · exact h.block i hl (fun e => by have := Option.some.inj e; omega)
    · have := hk.lt; omega⟩
def b11_0 (s : String) : Oper := { dst := some 45, op := Op.load 33 (Operand.tmp 3), type := 33, pos := s, after := #[], guard := none }
def b11_1 (s : String) : Oper := { dst := some 46, op := Op.slice 34 (Operand.tmp 5) none none none, type := 22, pos := s, after := #[], guard := none }
def b11_2 (s : String) : Oper := { dst := some 47, op := Op.call { callee := Callee.value (Operand.func 12), args := #[Operand.tmp 45, Operand.tmp 46], argTypes := #[33, 22] }, type := 33, pos := s, after := #[{ on := 0, ground := Ground.data }, { on := 1, ground := Ground.data }], guard := none }
def b11_3 (s : String) : Oper := { dst := some 7, op := Op.alloc 33, type := 0, pos := s, after := #[], guard := none }
def b11_4 (s : String) : Oper := { dst := none, op := Op.store 33 (Operand.tmp 7) (Operand.tmp 47), type := 0, pos := s, after := #[{ on := 3, ground := Ground.data }, { on := 2, ground := Ground.data }, { on := 2, ground := Ground.chain }, { on := 0, ground := Ground.phase }, { on := 1, ground := Ground.phase }, { on := 2, ground := Ground.phase }, { on := 3, ground := Ground.phase }], guard := none }
def b11_ops (s : String) : Array Oper := #[b11_0 s, b11_1 s, b11_2 s, b11_3 s, b11_4 s]
theorem b11_enter2 (s : String) (a : Act) (w : World) : (execOp a.eval (b11_2 s)).run Tryd.prog w = .ok (.enter 12 #[a.eval (.tmp 45), a.eval (.tmp 46)]) w := by kernel_rfl
theorem b11_walk (s : String) {Q : Exit → Act → World → Prop} (hQ : ∀ c (a : Act) t v w, Q (.panic c) (a.put (some t) v) w → Q (.panic c) a w) (W : World) (zs zb : Nat) (cs rc : Array Value) (hk : Blk W zs cs 33) (hn : cs.size = 8) (hrc : rc.size = 8) (hone : rc.all (·.oneCell') = true) (hc : ∀ W', Below W.heap.size W W' → Calls Tryd.prog 12 #[.agg cs, .slice (some ⟨zb, 0, none⟩) 64 64] W' fun e w' => e = .returned (.agg rc) ∧ Below W'.heap.size W' w')
    (a : Act) (hs : 47 < a.tmps.size) (e3 : a.eval (.tmp 3) = .pointer (some ⟨zs, 0, none⟩)) (e5 : a.eval (.tmp 5) = .pointer (some ⟨zb, 0, none⟩))
    (h0 : ∀ w1, Below W.heap.size W w1 → ∀ w2, Blk w2 w1.heap.size rc 33 → Below w1.heap.size w1 w2 → Q .normal ((((a.put (some 46) (.slice (some ⟨zb, 0, none⟩) 64 64)).put (some 45) (.agg cs)).put (some 47) (.agg rc)).put (some 7) (.pointer (some ⟨w1.heap.size, 0, none⟩))) w2) (h1 : ∀ w2, Blk w2 W.heap.size rc 33 → Below W.heap.size W w2 → Q .normal ((((a.put (some 46) (.slice (some ⟨zb, 0, none⟩) 64 64)).put (some 45) (.agg cs)).put (some 7) (.pointer (some ⟨W.heap.size, 0, none⟩))).put (some 47) (.agg rc)) w2) :
    Code.wp Tryd.prog (.region 11 (b11_ops s) true) Q a W := by
  have hdr : Below W.heap.size W W.drew := ⟨rfl, rfl, rfl, Nat.le_refl _, fun _ _ => rfl⟩
  refine wp_region_held_drew (S := fun W' => Blk W' zs cs 33) (by kernel_rfl) hk (fun hS => ?_)
  change wpAnyH _ _ _ _ _ _ _ _ (World.drew _)
  refine wpAnyH_take (i := 1) (oi := b11_1 s) (v := .slice (some ⟨zb, 0, none⟩) 64 64) (by kernel_rfl) (by kernel_rfl) (by kernel_rfl) (by kernel_rfl) (fun c a w h => hQ c _ _ _ w h) (Or.inl ⟨wanted_none rfl, fun w hw => run_slice rfl e5 (slice64_all zb w)⟩) hS ?_
  change wpAnyH _ _ _ _ _ _ _ (a.put (some 46) (.slice (some ⟨zb, 0, none⟩) 64 64)) _
  obtain ⟨a0_1, ha1⟩ : ∃ rr : Act, rr = a.put (some 46) (.slice (some ⟨zb, 0, none⟩) 64 64) := ⟨_, rfl⟩
  have qz1 : 47 < a0_1.tmps.size := by rw [ha1, sz_put]; exact hs
  have f1_3 : a0_1.eval (.tmp 3) = .pointer (some ⟨zs, 0, none⟩) := by rw [ha1, ev_other _ _ _ _ (by decide)]; exact e3
  have f1_46 : a0_1.eval (.tmp 46) = .slice (some ⟨zb, 0, none⟩) 64 64 := by rw [ha1]; exact ev_same _ _ _ (Nat.lt_of_le_of_lt (by decide) hs)
  rw [← ha1] at h0 h1 ⊢
  clear ha1
  refine wpAnyH_take (i := 0) (oi := b11_0 s) (v := .agg cs) (by kernel_rfl) (by kernel_rfl) (by kernel_rfl) (by kernel_rfl) (fun c a w h => hQ c _ _ _ w h) (Or.inl ⟨wanted_none rfl, fun w hw => run_load rfl f1_3 (loadAt_blk hw 33 _ Tryd.underlying33 rfl 8 infoS8 hn)⟩) hS ?_
  change wpAnyH _ _ _ _ _ _ _ (a0_1.put (some 45) (.agg cs)) _
  obtain ⟨a0_2, ha2⟩ : ∃ rr : Act, rr = a0_1.put (some 45) (.agg cs) := ⟨_, rfl⟩
  have qz2 : 47 < a0_2.tmps.size := by rw [ha2, sz_put]; exact qz1
  have f2_45 : a0_2.eval (.tmp 45) = .agg cs := by rw [ha2]; exact ev_same _ _ _ (Nat.lt_of_le_of_lt (by decide) qz1)
  have f2_46 : a0_2.eval (.tmp 46) = .slice (some ⟨zb, 0, none⟩) 64 64 := by rw [ha2, ev_other _ _ _ _ (by decide)]; exact f1_46
  rw [← ha2] at h0 h1 ⊢
  clear ha2
  refine wpAnyH_ready (rs := [2, 3]) (by kernel_rfl) (by simp) ?_
  refine (AllReadyH.cons (o := b11_2 s) (by kernel_rfl) (fun KQ hKQ => ?_) (AllReadyH.cons (o := b11_3 s) (by kernel_rfl) (fun KQ hKQ => ?_) AllReadyH.nil))
  · skip
    rw [if_pos (wanted_none rfl)]
    refine step_enterE 12 #[.agg cs, .slice (some ⟨zb, 0, none⟩) 64 64] (by rw [b11_enter2, f2_45, f2_46]) (fun V w' => V = .agg rc ∧ Below W.heap.size W w') ((hc W.drew hdr).mono (fun e w' h => ⟨_, h.1, rfl, hdr.trans h.2⟩)) ?_
    rintro _ w1 ⟨rfl, hb1⟩
    have hk1 := Blk.below hk hb1 (Blk.lt hk)
    refine hKQ.out _ _ (hk1) (fun _ => ?_)
    clear hKQ KQ
    change wpAnyH _ _ _ _ _ _ _ (a0_2.put (some 47) (.agg rc)) _
    have h0 := h0 w1 hb1
    obtain ⟨a0_3, ha3⟩ : ∃ rr : Act, rr = a0_2.put (some 47) (.agg rc) := ⟨_, rfl⟩
    have qz3 : 47 < a0_3.tmps.size := by rw [ha3, sz_put]; exact qz2
    have f3_47 : a0_3.eval (.tmp 47) = .agg rc := by rw [ha3]; exact ev_same _ _ _ (Nat.lt_of_le_of_lt (by decide) qz2)
    rw [← ha3] at h0 ⊢
    clear ha3
    refine wpAnyH_ready (rs := [3]) (by kernel_rfl) (by simp) ?_
    refine AllReadyH.cons (o := b11_3 s) (by kernel_rfl) (fun KQ hKQ => ?_) AllReadyH.nil
    rw [if_pos (wanted_none rfl)]
    refine step_runE (.pointer (some ⟨w1.heap.size, 0, none⟩)) (w1.alloc (.cells zero8 33)) (run_alloc8 rfl w1) ?_
    have hk2 := hk1.alloc (.cells zero8 33)
    refine hKQ.out _ _ (hk2) (fun _ => ?_)
    clear hKQ KQ
    change wpAnyH _ _ _ _ _ _ _ (a0_3.put (some 7) (.pointer (some ⟨w1.heap.size, 0, none⟩))) _
    obtain ⟨a0_4, ha4⟩ : ∃ rr : Act, rr = a0_3.put (some 7) (.pointer (some ⟨w1.heap.size, 0, none⟩)) := ⟨_, rfl⟩
    have qz4 : 47 < a0_4.tmps.size := by rw [ha4, sz_put]; exact qz3
    have f4_7 : a0_4.eval (.tmp 7) = .pointer (some ⟨w1.heap.size, 0, none⟩) := by rw [ha4]; exact ev_same _ _ _ (Nat.lt_of_le_of_lt (by decide) qz3)
    have f4_47 : a0_4.eval (.tmp 47) = .agg rc := by rw [ha4, ev_other _ _ _ _ (by decide)]; exact f3_47
    rw [← ha4] at h0 ⊢
    clear ha4
    refine wpAnyH_ready (rs := [4]) (by kernel_rfl) (by simp) ?_
    refine AllReadyH.cons (o := b11_4 s) (by kernel_rfl) (fun KQ hKQ => ?_) AllReadyH.nil
    rw [if_pos (wanted_none rfl)]
    refine step_skipE ((w1.alloc (.cells zero8 33)).setCells w1.heap.size 0 rc.toList) (run_storeA rfl f4_7 f4_47 (Blk.made w1 zero8 33) 8 rfl hrc infoS8 hone) ?_
    have hst := setCells_blk (Blk.made w1 zero8 33) rc hrc
    have hk3 := hk2.grown hst.2 (fun e => by have := Option.some.inj e; have := hk1.lt; omega)
    have hb3 : Below w1.heap.size w1 ((w1.alloc (.cells zero8 33)).setCells w1.heap.size 0 rc.toList) := ((Below.refl _ _).alloc (Nat.le_refl _) _).trans (below_set (Blk.made w1 zero8 33) hrc (Nat.le_refl _))
    refine hKQ.out _ _ (hk3) (fun _ => ?_)
    clear hKQ KQ
    have h0 := h0 _ hst.1 hb3
    refine wpAnyH_done (by kernel_rfl) ?_ _
    exact h0
  · skip
    rw [if_pos (wanted_none rfl)]
    refine step_runE (.pointer (some ⟨W.heap.size, 0, none⟩)) (W.drew.alloc (.cells zero8 33)) (run_alloc8 rfl W.drew) ?_
    have hk1 := Blk.alloc (w := W.drew) hk (.cells zero8 33)
    have hbA : Below W.heap.size W (W.drew.alloc (.cells zero8 33)) := hdr.alloc (Nat.le_refl _) _
    refine hKQ.out _ _ (hk1) (fun _ => ?_)
    clear hKQ KQ
    change wpAnyH _ _ _ _ _ _ _ (a0_2.put (some 7) (.pointer (some ⟨W.heap.size, 0, none⟩))) _
    obtain ⟨a1_3, ha3⟩ : ∃ rr : Act, rr = a0_2.put (some 7) (.pointer (some ⟨W.heap.size, 0, none⟩)) := ⟨_, rfl⟩
    have qz3 : 47 < a1_3.tmps.size := by rw [ha3, sz_put]; exact qz2
    have f3_7 : a1_3.eval (.tmp 7) = .pointer (some ⟨W.heap.size, 0, none⟩) := by rw [ha3]; exact ev_same _ _ _ (Nat.lt_of_le_of_lt (by decide) qz2)
    have f3_45 : a1_3.eval (.tmp 45) = .agg cs := by rw [ha3, ev_other _ _ _ _ (by decide)]; exact f2_45
    have f3_46 : a1_3.eval (.tmp 46) = .slice (some ⟨zb, 0, none⟩) 64 64 := by rw [ha3, ev_other _ _ _ _ (by decide)]; exact f2_46
    rw [← ha3] at h1 ⊢
    clear ha3
    refine wpAnyH_ready (rs := [2]) (by kernel_rfl) (by simp) ?_
    refine AllReadyH.cons (o := b11_2 s) (by kernel_rfl) (fun KQ hKQ => ?_) AllReadyH.nil
    rw [if_pos (wanted_none rfl)]
    refine step_enterE 12 #[.agg cs, .slice (some ⟨zb, 0, none⟩) 64 64] (by rw [b11_enter2, f3_45, f3_46]) (fun V w' => V = .agg rc ∧ Below (W.drew.alloc (.cells zero8 33)).heap.size (W.drew.alloc (.cells zero8 33)) w') ((hc _ hbA).mono (fun e w' h => ⟨_, h.1, rfl, h.2⟩)) ?_
    rintro _ w1 ⟨rfl, hb1⟩
    have hk2 := Blk.below hk1 hb1 (Blk.lt hk1)
    have hzz : Blk w1 W.heap.size zero8 33 := Blk.below (Blk.made W.drew zero8 33) hb1 (by simp)
    have hb1W := hbA.trans (hb1.mono hbA.size)
    refine hKQ.out _ _ (hk2) (fun _ => ?_)
    clear hKQ KQ
    change wpAnyH _ _ _ _ _ _ _ (a1_3.put (some 47) (.agg rc)) _
    obtain ⟨a1_4, ha4⟩ : ∃ rr : Act, rr = a1_3.put (some 47) (.agg rc) := ⟨_, rfl⟩
    have qz4 : 47 < a1_4.tmps.size := by rw [ha4, sz_put]; exact qz3
    have f4_7 : a1_4.eval (.tmp 7) = .pointer (some ⟨W.heap.size, 0, none⟩) := by rw [ha4, ev_other _ _ _ _ (by decide)]; exact f3_7
    have f4_47 : a1_4.eval (.tmp 47) = .agg rc := by rw [ha4]; exact ev_same _ _ _ (Nat.lt_of_le_of_lt (by decide) qz3)
    rw [← ha4] at h1 ⊢
    clear ha4
    refine wpAnyH_ready (rs := [4]) (by kernel_rfl) (by simp) ?_
    refine AllReadyH.cons (o := b11_4 s) (by kernel_rfl) (fun KQ hKQ => ?_) AllReadyH.nil
    rw [if_pos (wanted_none rfl)]
    refine step_skipE (w1.setCells W.heap.size 0 rc.toList) (run_storeA rfl f4_7 f4_47 hzz 8 rfl hrc infoS8 hone) ?_
    have hst := setCells_blk hzz rc hrc
    have hk3 := hk2.grown hst.2 (fun e => by have := Option.some.inj e; have := hk.lt; omega)
    have hb3 : Below W.heap.size W (w1.setCells W.heap.size 0 rc.toList) := hb1W.trans (below_set hzz hrc (Nat.le_refl _))
    refine hKQ.out _ _ (hk3) (fun _ => ?_)
    clear hKQ KQ
    have h1 := h1 _ hst.1 hb3
    refine wpAnyH_done (by kernel_rfl) ?_ _
    exact h1
theorem put_comm (a : Act) (s t : Tmp) (u v : Value) (h : s ≠ t) : (a.put (some s) u).put (some t) v = (a.put (some t) v).put (some s) u := by
  unfold Act.put
  simp only
  congr 1
  exact Array.setIfInBounds_comm _ _ h
theorem b11_one (s : String) {Q : Exit → Act → World → Prop} (hQ : ∀ c (a : Act) t v w, Q (.panic c) (a.put (some t) v) w → Q (.panic c) a w) (W : World) (zs zb : Nat) (cs rc : Array Value) (hk : Blk W zs cs 33) (hn : cs.size = 8) (hrc : rc.size = 8) (hone : rc.all (·.oneCell') = true) (hc : ∀ W', Below W.heap.size W W' → Calls Tryd.prog 12 #[.agg cs, .slice (some ⟨zb, 0, none⟩) 64 64] W' fun e w' => e = .returned (.agg rc) ∧ Below W'.heap.size W' w')
    (a : Act) (hs : 47 < a.tmps.size) (e3 : a.eval (.tmp 3) = .pointer (some ⟨zs, 0, none⟩)) (e5 : a.eval (.tmp 5) = .pointer (some ⟨zb, 0, none⟩))
    (h : ∀ z w2, Blk w2 z rc 33 → Below W.heap.size W w2 → W.heap.size ≤ z → Q .normal ((((a.put (some 46) (.slice (some ⟨zb, 0, none⟩) 64 64)).put (some 45) (.agg cs)).put (some 47) (.agg rc)).put (some 7) (.pointer (some ⟨z, 0, none⟩))) w2) :
    Code.wp Tryd.prog (.region 11 (b11_ops s) true) Q a W := by
  refine b11_walk s hQ W zs zb cs rc hk hn hrc hone hc a hs e3 e5 (fun w1 hb1 w2 hk2 hb2 => h _ w2 hk2 (hb1.trans (hb2.mono hb1.size)) hb1.size) (fun w2 hk2 hb2 => ?_)
  rw [put_comm _ 7 47 _ _ (by decide)]
  exact h _ w2 hk2 hb2 (Nat.le_refl _)
end Go.Proofs.YtbohbkjkcpncfaaDoor
