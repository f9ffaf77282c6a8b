/- Keys: whole arrays loaded and stored; held against one another; steps of a region that only reads. -/
import Derived.Test.YtnloglecfbhpcaaSB
import Derived.Deep.MidRow
import Derived.Laws.Cover3
import Derived.Deep.RegionHeld3
import Derived.Lib.QuietBelow
import Derived.Stop.BytesEq
import Derived.Lib.Bytealg
import Derived.Lib.UnsafeStr
namespace Go.Proofs.Ytnloglecfbhpcaa
set_option linter.unusedVariables false
set_option linter.unusedSimpArgs false
open Go.RowKit

theorem infoKey : (Try.prog.info? 38).map (·.size) = some 32 := by kernel_rfl
theorem thereBlk {w : World} {b : Nat} {old : Array Value} {t : TypeId} (hk : Blk w b old t) (n : Nat) (hs : n ≤ old.size) : w.there b 0 n := fun j hj => by
  rw [Nat.zero_add, hk.cell, hk.frozen]
  exact ⟨by rw [Array.getElem?_eq_getElem (by omega)]; rfl, rfl⟩
theorem setCells_from {b : Nat} {t : TypeId} : ∀ (vs : List Value) (o : Nat) (w : World) (old : Array Value), Blk w b old t → o + vs.length = old.size → w.setCells b o vs = w.setRow b (old.toList.take o ++ vs).toArray
  | [], o, w, old, hk, hs => by
    have e : (old.toList.take o ++ []).toArray = old := by
      simp at hs
      rw [List.append_nil, List.take_of_length_le (by simp; omega)]
    rw [e, World.setCells, setRow_self w b old t _ hk]
  | v :: r, o, w, old, hk, hs => by
    have hlt : o < old.size := by simp at hs; omega
    rw [World.setCells, setCells_from r (o + 1) _ _ (hk.set o v) (by simp at hs ⊢; omega), setCell_eq_setRow w b o old t (0, 0) v hk, setRow_setRow]
    congr 2
    rw [Array.toList_setIfInBounds, List.take_succ_eq_append_getElem (by simpa using hlt)]
    simp [List.take_set_of_le]
theorem setCells_all {w : World} {b : Nat} {old : Array Value} {t : TypeId} (hk : Blk w b old t) (cells : Array Value) (hs : cells.size = old.size) : w.setCells b 0 cells.toList = w.setRow b cells := by
  rw [setCells_from cells.toList 0 w old hk (by simpa using hs)]
  simp
theorem setCells_blk {w : World} {b : Nat} {old : Array Value} {t : TypeId} (hk : Blk w b old t) (cells : Array Value) (hs : cells.size = old.size) : Blk (w.setCells b 0 cells.toList) b cells t ∧ w.grownBy (w.setCells b 0 cells.toList) (some b) := by
  have e : w.setCells b 0 cells.toList = w.setRow b cells := by
    exact setCells_all hk cells hs
  rw [e]
  exact ⟨setRow_heap w b _ _ t _ hk, ⟨rfl, rfl, rfl, by simp, fun k _ hne => setRow_other w b k cells (fun e => hne (by rw [e]))⟩⟩
theorem wpList_store_blk {ops : Array Oper} {rest : List Oper} {op : Oper} {a : Act} {w : World} {Q : Exit → Act → World → Prop} (hgd : op.guard = none) (ty : TypeId) (x y : Operand) (ho : op.op = .store ty x y)
    (b n : Nat) (old cells : Array Value) (t : TypeId) (hs : cells.size = n) (hn : old.size = n) (hx : a.eval x = .pointer (some ⟨b, 0, none⟩)) (hy : a.eval y = .agg cells) (hk : Blk w b old t) (hi : (Try.prog.info? ty).map (·.size) = some n) (h1 : cells.all (·.oneCell') = true)
    (h : ∀ w', Blk w' b cells t → w.grownBy w' (some b) → wpList Try.prog ops Q rest (a.put op.dst undef) w') : wpList Try.prog ops Q (op :: rest) a w :=
  wpList_store_mid hgd ty x y ho b 0 cells hx hy (thereBlk hk _ (by omega)) (by rw [hs]; exact hi) h1 (h _ (setCells_blk hk cells (hs.trans hn.symm)).1 (setCells_blk hk cells (hs.trans hn.symm)).2)
theorem results_cell {fn : Func} {p : Tmp} {ty : TypeId} (h : fn.results = #[.cell p ty]) (tmps : Array Value) (w : World) (a : Addr) (ha : tmps.getD p undef = .pointer (some a)) (v : Value) (hl : (loadVar ty a).run Try.prog w = .ok v w) :
    (results fn tmps).run Try.prog w = .ok v w := by
  simp only [results, h]
  have ha' : tmps[p]?.getD undef = .pointer (some a) := by simpa using ha
  simp [Sem.run_bind, Result.andThen, ha', asAddr, hl]
theorem range_blk {w : World} {b : Nat} {cs : Array Value} {t : TypeId} (h : Blk w b cs t) : w.rangeAt b 0 cs.toList := fun j v hj => by
  rw [Nat.zero_add, h.cell, ← hj]
  simp
/-- A whole array or struct at a block's beginning is loaded. -/
theorem wpList_load_blk {ops : Array Oper} {rest : List Oper} {op : Oper} {a : Act} {w : World} {Q : Exit → Act → World → Prop} (hgd : op.guard = none) (ty : TypeId) (d : TypeDesc) (hu : Try.prog.underlying ty = some d) (hd : d.isRow = true) (n : Nat) (hi : (Try.prog.info? ty).map (·.size) = some n) (x : Operand) (ho : op.op = .load ty x)
    (b : Nat) (hx : a.eval x = .pointer (some ⟨b, 0, none⟩)) (cs : Array Value) (t : TypeId) (hc : Blk w b cs t) (hn : cs.size = n)
    (h : wpList Try.prog ops Q rest (a.put op.dst (.agg cs)) w) : wpList Try.prog ops Q (op :: rest) a w := by
  refine wpList_load_mid hgd ty x ho b 0 hx cs.toList _ (range_blk hc) hu hd (by rw [Array.length_toList, hn]; exact hi) ?_
  simpa using h
theorem loadBlkT {w : World} {b : Nat} {cs : Array Value} {t : TypeId} (hk : Blk w b cs t) (ty : TypeId) (d : TypeDesc) (hu : Try.prog.underlying ty = some d) (hd : d.isRow = true) (n : Nat) (hi : (Try.prog.info? ty).map (·.size) = some n) (hn : cs.size = n) : (loadVar ty ⟨b, 0, none⟩).run Try.prog w = .ok (.agg cs) w := by
  have := run_loadVar_mid (P := Try.prog) w b 0 ty cs.toList _ (range_blk hk) hu hd (by rw [Array.length_toList, hn]; exact hi)
  simpa using this
theorem wpAnyH_mono {P : Program} {md : Region.Mode} {ops : Array Oper} {Q : Exit → Act → World → Prop} {S S' : World → Prop} (hs : ∀ w, S' w → S w) :
    ∀ (fuel : Nat) (listed : Array Bool) (a : Act) (w : World), wpAnyH P md ops Q S' fuel listed a w → wpAnyH P md ops Q S fuel listed a w
  | 0, _, _, _, h => h
  | fuel + 1, _, _, _, h => ⟨h.1, fun i hi => wpOp_mono (fun a' w' h' => ⟨hs w' h'.1, wpAnyH_mono hs fuel _ a' w' h'.2⟩) (h.2 i hi)⟩
theorem step_enterE {op : Oper} {a : Act} {w : World} {K : Act → World → Prop} {Q : Exit → Act → World → Prop} (f : FuncId) (args : Array Value) (hr : (execOp a.eval op).run Try.prog w = .ok (.enter f args) w) (R : Value → World → Prop) (hc : Calls Try.prog f args w fun e w' => ∃ V, e = .returned V ∧ R V w') (h : ∀ V w', R V w' → K (a.put op.dst V) w') : op.wp Try.prog a w K Q := by
  unfold Oper.wp
  rw [hr]
  refine Calls.mono hc ?_
  rintro e w' ⟨V, rfl, hR⟩
  exact h V w' hR
theorem step_runE {op : Oper} {a : Act} {w : World} {K : Act → World → Prop} {Q : Exit → Act → World → Prop} (v : Value) (w' : World) (hr : (execOp a.eval op).run Try.prog w = .ok (.value v) w') (h : K (a.put op.dst v) w') : op.wp Try.prog a w K Q := by
  unfold Oper.wp
  rw [hr]
  exact h
theorem wanted_none {o : Oper} {y : _} (h : o.guard = none) : Region.wanted o y = true := by simp [Region.wanted, h]
theorem ev_same (a : Act) (t : Tmp) (v : Value) (h : t < a.tmps.size) : (a.put (some t) v).eval (.tmp t) = v := by simp [Act.put, Act.eval, h]
theorem ev_other (a : Act) (s t : Tmp) (v : Value) (h : s ≠ t) : (a.put (some s) v).eval (.tmp t) = a.eval (.tmp t) := by simp [Act.put, Act.eval, h]
theorem sz_put (a : Act) (s : Tmp) (v : Value) : (a.put (some s) v).tmps.size = a.tmps.size := by simp [Act.put]
theorem wanted_some {ops : Array Oper} {o : Oper} {a : Act} {j : Nat} {b : Bool} {t : Tmp} (hg : o.guard = some (j, b)) (hd : (ops[j]?).bind (·.dst) = some t) (he : a.eval (.tmp t) = .bool b) (hz : t < a.tmps.size) : Region.wanted o (yielded ops a.tmps) = true := by
  have h1 : a.tmps[t]? = some (.bool b) := by
    rw [Array.getElem?_eq_getElem hz]
    simpa [Act.eval, hz] using he
  simp [Region.wanted, hg, yielded, hd, h1]
theorem step_skipE {op : Oper} {a : Act} {w : World} {K : Act → World → Prop} {Q : Exit → Act → World → Prop} (w' : World) (hr : (execOp a.eval op).run Try.prog w = .ok .skip w') (h : K (a.put op.dst undef) w') : op.wp Try.prog a w K Q := by
  unfold Oper.wp
  rw [hr]
  exact h
theorem run_load {op : Oper} {ev : Operand → Value} {t : TypeId} {x : Operand} {p v : Value} {w : World} (ho : op.op = .load t x) (hx : ev x = p) (hl : (Instr.loadAt t p).run Try.prog w = .ok v w) : (execOp ev op).run Try.prog w = .ok (.value v) w := by
  simp only [execOp, ho, hx, Sem.run_bind, hl, Result.andThen_ok, Sem.run_pure]
theorem run_slice {op : Oper} {ev : Operand → Value} {t : TypeId} {x : Operand} {p v : Value} {w : World} (ho : op.op = .slice t x none none none) (hx : ev x = p) (hl : (Instr.sliceAt t p none none none).run Try.prog w = .ok v w) : (execOp ev op).run Try.prog w = .ok (.value v) w := by
  simp only [execOp, ho, hx, Option.map_none, Sem.run_bind, hl, Result.andThen_ok, Sem.run_pure]
theorem run_storeA {op : Oper} {ev : Operand → Value} {t : TypeId} {x y : Operand} {b : Nat} {cells : Array Value} {w : World} (ho : op.op = .store t x y) (hx : ev x = .pointer (some ⟨b, 0, none⟩)) (hy : ev y = .agg cells) {old : Array Value} {t' : TypeId} (hk : Blk w b old t') (n : Nat) (hn : old.size = n) (hc : cells.size = n) (hi : (Try.prog.info? t).map (·.size) = some n) (h1 : cells.all (·.oneCell') = true) : (execOp ev op).run Try.prog w = .ok .skip (w.setCells b 0 cells.toList) := by
  have := run_storeAt_mid (P := Try.prog) w b 0 t cells (thereBlk hk _ (by omega)) (by rw [hc]; exact hi) h1
  simp only [execOp, ho, hx, hy, Sem.run_bind, this, Result.andThen_ok, Sem.run_pure]
theorem loadAt_blk {w : World} {b : Nat} {cs : Array Value} {t : TypeId} (hk : Blk w b cs t) (ty : TypeId) (d : TypeDesc) (hu : Try.prog.underlying ty = some d) (hd : d.isRow = true) (n : Nat) (hi : (Try.prog.info? ty).map (·.size) = some n) (hn : cs.size = n) : (Instr.loadAt ty (.pointer (some ⟨b, 0, none⟩))).run Try.prog w = .ok (.agg cs) w := by
  simp only [Instr.loadAt, Instr.sureAddr, Sem.run_bind, Sem.run_pure, Result.andThen_ok]
  exact loadBlkT hk ty d hu hd n hi hn
theorem below_set {w : World} {b : Nat} {old cells : Array Value} {t : TypeId} {B : Nat} (hk : Blk w b old t) (hs : cells.size = old.size) (hB : B ≤ b) : Below B w (w.setCells b 0 cells.toList) := by
  have h := (setCells_blk hk cells hs).2
  exact ⟨h.os, h.tape, h.output, h.size, fun i hi => by
    rcases Nat.lt_or_ge i w.heap.size with hl | hl
    · exact h.block i hl (fun e => by have := Option.some.inj e; omega)
    · have := hk.lt; omega⟩
theorem put_comm (a : Act) (s t : Tmp) (u v : Value) (h : s ≠ t) : (a.put (some s) u).put (some t) v = (a.put (some t) v).put (some s) u := by
  unfold Act.put
  simp only
  congr 1
  exact Array.setIfInBounds_comm _ _ h
theorem wrapi64_nat (n : Nat) (h : n < 9223372036854775808) : IntKind.i64.wrap (n : Int) = (n : Int) := by simp [IntKind.wrap, IntKind.bits, IntKind.signed]; omega
/-- A key as a value. -/
def keyV (bs : List UInt8) : Value := .agg (bs.map u8c).toArray
/-- The zero key's cells. -/
def keyZ : Array Value := ((List.replicate 32 (0 : UInt8)).map u8c).toArray
theorem blk_made1 (w : World) (o : Obj) (cs : Array Value) (t : TypeId) (z : Nat) (hz : z = w.heap.size + 1 := by rfl) : Blk ((w.alloc o).alloc (.cells cs t)) z cs t := by
  subst hz
  have := Blk.made (w.alloc o) cs t
  rwa [World.size_alloc] at this
theorem guardKey : Try.prog.eqGuardType Try.prog.depth 38 = false := by kernel_rfl
theorem szU8 (w : World) : (sizeOf 5).run Try.prog w = .ok 1 w := by kernel_rfl
theorem equalKey (bs : List UInt8) (h : bs.length = 32) (w : World) : (Op.equalIn 10000 38 (.agg (bs.map u8c).toArray) (.agg (bs.map u8c).toArray)).run Try.prog w = .ok true w := by
  have := run_equalIn_bytes (P := Try.prog) w 9998 38 5 32 Try.underlying38 Try.underlying5 szU8 bs bs h h
  rw [beq_self_eq_true] at this
  exact this
theorem run_eqlKey {op : Oper} {ev : Operand → Value} {x y : Operand} {u : TypeId} {bs : List UInt8} (ho : op.op = .binOp .eql 38 x y u) (hx : ev x = keyV bs) (hy : ev y = keyV bs) (h : bs.length = 32) (w : World) : (execOp ev op).run Try.prog w = .ok (.value (.bool true)) w := by
  unfold keyV at hx hy
  simp only [execOp, ho, hx, hy, Sem.run_bind, run_eqGuard_agg (P := Try.prog) w .eql 38 x y _ _ guardKey, Result.andThen_ok, run_eql_struct, equalKey bs h, Sem.run_pure]
theorem run_neqKey {op : Oper} {ev : Operand → Value} {x y : Operand} {u : TypeId} {bs : List UInt8} (ho : op.op = .binOp .neq 38 x y u) (hx : ev x = keyV bs) (hy : ev y = keyV bs) (h : bs.length = 32) (w : World) : (execOp ev op).run Try.prog w = .ok (.value (.bool false)) w := by
  unfold keyV at hx hy
  simp only [execOp, ho, hx, hy, Sem.run_bind, run_eqGuard_agg (P := Try.prog) w .neq 38 x y _ _ guardKey, Result.andThen_ok, run_neq_struct, equalKey bs h, Sem.run_pure, Bool.not_true]
theorem keyGuard (op : BinOp) (bs : List UInt8) (x y : Operand) (w : World) : (eqGuard op 38 x y (keyV bs) (keyV bs)).run Try.prog w = .ok () w := run_eqGuard_agg (P := Try.prog) w op 38 x y _ _ guardKey
theorem keyNeq (bs : List UInt8) (h : bs.length = 32) (w : World) : (binOp .neq 38 (keyV bs) (keyV bs)).run Try.prog w = .ok (.bool false) w := by
  unfold keyV
  rw [run_neq_struct, equalKey bs h]; rfl
theorem keyEql (bs : List UInt8) (h : bs.length = 32) (w : World) : (binOp .eql 38 (keyV bs) (keyV bs)).run Try.prog w = .ok (.bool true) w := by
  unfold keyV
  rw [run_eql_struct, equalKey bs h]; rfl
/-- A key in memory. -/
def KeyAt (w : World) (z : Nat) (bs : List UInt8) : Prop := Blk w z ((bs.map u8c).toArray) 38 ∧ bs.length = 32
theorem KeyAt.below {w w' : World} {z : Nat} {bs : List UInt8} (h : KeyAt w z bs) (hb : Below w.heap.size w w') : KeyAt w' z bs := ⟨h.1.below hb h.1.lt, h.2⟩
theorem KeyAt.grown {w w' : World} {z : Nat} {bs : List UInt8} {row : Option Nat} (h : KeyAt w z bs) (hg : w.grownBy w' row) (hne : some z ≠ row) : KeyAt w' z bs := ⟨h.1.grown hg hne, h.2⟩
theorem KeyAt.load {w : World} {z : Nat} {bs : List UInt8} (h : KeyAt w z bs) : (Instr.loadAt 38 (.pointer (some ⟨z, 0, none⟩))).run Try.prog w = .ok (keyV bs) w :=
  loadAt_blk h.1 38 _ Try.underlying38 rfl 32 infoKey (by simp [h.2])
/-- A step of a region that only reads, at a value given. -/
theorem wpQuiet_val {P : Program} {ops : Array Oper} {C : World → Prop} {Q : Act → Prop} {a : Act} {o : Oper} {rest : List Oper} (v : Value) (hg : Region.wanted o (yielded ops a.tmps) = true) (hr : ∀ w, C w → (execOp a.eval o).run P w = .ok (.value v) w) (h : wpQuiet P ops C Q rest (a.put o.dst v)) : wpQuiet P ops C Q (o :: rest) a := by
  unfold wpQuiet
  rw [if_pos hg]
  exact ⟨v, fun w hw => by unfold Oper.quietAt; rw [hr w hw]; exact ⟨rfl, rfl⟩, h⟩
theorem wpQuiet_call {P : Program} {ops : Array Oper} {C : World → Prop} {Q : Act → Prop} {a : Act} {o : Oper} {rest : List Oper} (f : FuncId) (args : Array Value) (v : Value) (hg : Region.wanted o (yielded ops a.tmps) = true) (hr : ∀ w, (execOp a.eval o).run P w = .ok (.enter f args) w) (hc : ∀ w, C w → Calls P f args w (fun e w' => e = .returned v ∧ C w')) (h : wpQuiet P ops C Q rest (a.put o.dst v)) : wpQuiet P ops C Q (o :: rest) a := by
  unfold wpQuiet
  rw [if_pos hg]
  exact ⟨v, fun w hw => by unfold Oper.quietAt; rw [hr w]; exact ⟨rfl, hc w hw⟩, h⟩
/-- A list's step, at a value given. -/
theorem wpList_val {ops : Array Oper} {rest : List Oper} {op : Oper} {a : Act} {w : World} {Q : Exit → Act → World → Prop} (v : Value) (hg : Region.wanted op (yielded ops a.tmps) = true) (hr : (execOp a.eval op).run Try.prog w = .ok (.value v) w) (h : wpList Try.prog ops Q rest (a.put op.dst v) w) : wpList Try.prog ops Q (op :: rest) a w := by
  unfold wpList
  rw [if_pos hg]
  refine .inl ?_
  unfold Oper.wp
  rw [hr]
  exact h
theorem wpList_key {ops : Array Oper} {rest : List Oper} {op : Oper} {a : Act} {w : World} {Q : Exit → Act → World → Prop} (x : Operand) (z : Nat) (bs : List UInt8) (hk : KeyAt w z bs) (ho : op.op = .load 38 x) (hx : a.eval x = .pointer (some ⟨z, 0, none⟩)) (hg : Region.wanted op (yielded ops a.tmps) = true) (h : wpList Try.prog ops Q rest (a.put op.dst (keyV bs)) w) : wpList Try.prog ops Q (op :: rest) a w :=
  wpList_val _ hg (run_load ho hx hk.load) h
theorem wpList_neqKey {ops : Array Oper} {rest : List Oper} {op : Oper} {a : Act} {w : World} {Q : Exit → Act → World → Prop} (x y : Operand) (u : TypeId) (bs : List UInt8) (hl : bs.length = 32) (ho : op.op = .binOp .neq 38 x y u) (hx : a.eval x = keyV bs) (hy : a.eval y = keyV bs) (hg : Region.wanted op (yielded ops a.tmps) = true) (h : wpList Try.prog ops Q rest (a.put op.dst (.bool false)) w) : wpList Try.prog ops Q (op :: rest) a w :=
  wpList_val _ hg (run_neqKey ho hx hy hl w) h
/-- A fresh key's store. -/
theorem wpList_put_key {ops : Array Oper} {rest : List Oper} {op : Oper} {a : Act} {w : World} {Q : Exit → Act → World → Prop} (hgd : op.guard = none) (x y : Operand) (ho : op.op = .store 38 x y) (z : Nat) (hx : a.eval x = .pointer (some ⟨z, 0, none⟩)) (w0 : World) (hw : w = w0.alloc (.cells keyZ 38)) (hz : z = w0.heap.size) (bs : List UInt8) (hl : bs.length = 32) (hy : a.eval y = keyV bs)
    (h : ∀ w', Hid (KeyAt w' z bs) → Below w0.heap.size w0 w' → wpList Try.prog ops Q rest (a.put op.dst undef) w') : wpList Try.prog ops Q (op :: rest) a w := by
  subst hw hz
  refine wpList_store_blk hgd 38 x y ho w0.heap.size 32 _ _ 38 (by simp [hl]) rfl hx hy (Blk.made w0 _ _) infoKey (all_oneCell_toArray (u8c_one bs)) ?_
  intro w' hk hg
  exact h w' (hide ⟨hk, hl⟩) (below_grownBy (grownBy_trans (World.grownBy_alloc _ _ _) hg) (Nat.le_refl _) (Nat.le_refl _))
end Go.Proofs.Ytnloglecfbhpcaa
