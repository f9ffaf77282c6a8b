/- Whole arrays and structs, loaded and stored. -/
import Derived.Test.YtjmjnecobaoofaaDoorSB
import Derived.Test.YtjmjnecobaoofaaDoorSP1
import Derived.Deep.MidRow
import Derived.Laws.Cover3
namespace Go.Proofs.YtjmjnecobaoofaaDoor
set_option linter.unusedVariables false
set_option linter.unusedSimpArgs false
open Go.RowKit

def u32c (x : Nat) : Value := .int .u32 (x : Int)
def u64c (x : Nat) : Value := .int .u64 (x : Int)
theorem u32c_one (xs : List Nat) : ∀ v ∈ xs.map u32c, v.oneCell' = true := by
  intro v hv
  obtain ⟨u, _, rfl⟩ := List.mem_map.1 hv
  rfl
theorem infoW64 : (Tryd.prog.info? 77).map (·.size) = some 64 := by kernel_rfl
theorem infoB64 : (Tryd.prog.info? 42).map (·.size) = some 64 := by kernel_rfl
theorem infoS8 : (Tryd.prog.info? 56).map (·.size) = some 8 := by kernel_rfl
theorem infoKey : (Tryd.prog.info? 24).map (·.size) = some 32 := by kernel_rfl
theorem infoHas : (Tryd.prog.info? 59).map (·.size) = some 74 := by kernel_rfl
theorem thereBlk {w : World} {b : Nat} {old : Array Value} {t : TypeId} (hk : Blk w b old t) (n : Nat) (hs : n ≤ old.size) : w.there b 0 n := fun j hj => by
  rw [Nat.zero_add, hk.cell, hk.frozen]
  exact ⟨by rw [Array.getElem?_eq_getElem (by omega)]; rfl, rfl⟩
theorem setCells_from {b : Nat} {t : TypeId} : ∀ (vs : List Value) (o : Nat) (w : World) (old : Array Value), Blk w b old t → o + vs.length = old.size → w.setCells b o vs = w.setRow b (old.toList.take o ++ vs).toArray
  | [], o, w, old, hk, hs => by
    have e : (old.toList.take o ++ []).toArray = old := by
      simp at hs
      rw [List.append_nil, List.take_of_length_le (by simp; omega)]
    rw [e, World.setCells, setRow_self w b old t _ hk]
  | v :: r, o, w, old, hk, hs => by
    have hlt : o < old.size := by simp at hs; omega
    rw [World.setCells, setCells_from r (o + 1) _ _ (hk.set o v) (by simp at hs ⊢; omega), setCell_eq_setRow w b o old t (0, 0) v hk, setRow_setRow]
    congr 2
    rw [Array.toList_setIfInBounds, List.take_succ_eq_append_getElem (by simpa using hlt)]
    simp [List.take_set_of_le]
theorem setCells_all {w : World} {b : Nat} {old : Array Value} {t : TypeId} (hk : Blk w b old t) (cells : Array Value) (hs : cells.size = old.size) : w.setCells b 0 cells.toList = w.setRow b cells := by
  rw [setCells_from cells.toList 0 w old hk (by simpa using hs)]
  simp
theorem setCells_blk {w : World} {b : Nat} {old : Array Value} {t : TypeId} (hk : Blk w b old t) (cells : Array Value) (hs : cells.size = old.size) : Blk (w.setCells b 0 cells.toList) b cells t ∧ w.grownBy (w.setCells b 0 cells.toList) (some b) := by
  have e : w.setCells b 0 cells.toList = w.setRow b cells := by
    exact setCells_all hk cells hs
  rw [e]
  exact ⟨setRow_heap w b _ _ t _ hk, ⟨rfl, rfl, rfl, by simp, fun k _ hne => setRow_other w b k cells (fun e => hne (by rw [e]))⟩⟩
theorem wpList_store_blk {ops : Array Oper} {rest : List Oper} {op : Oper} {a : Act} {w : World} {Q : Exit → Act → World → Prop} (hgd : op.guard = none) (ty : TypeId) (x y : Operand) (ho : op.op = .store ty x y)
    (b n : Nat) (old cells : Array Value) (t : TypeId) (hs : cells.size = n) (hn : old.size = n) (hx : a.eval x = .pointer (some ⟨b, 0, none⟩)) (hy : a.eval y = .agg cells) (hk : Blk w b old t) (hi : (Tryd.prog.info? ty).map (·.size) = some n) (h1 : cells.all (·.oneCell') = true)
    (h : ∀ w', Blk w' b cells t → w.grownBy w' (some b) → wpList Tryd.prog ops Q rest (a.put op.dst undef) w') : wpList Tryd.prog ops Q (op :: rest) a w :=
  wpList_store_mid hgd ty x y ho b 0 cells hx hy (thereBlk hk _ (by omega)) (by rw [hs]; exact hi) h1 (h _ (setCells_blk hk cells (hs.trans hn.symm)).1 (setCells_blk hk cells (hs.trans hn.symm)).2)
theorem results_cell {fn : Func} {p : Tmp} {ty : TypeId} (h : fn.results = #[.cell p ty]) (tmps : Array Value) (w : World) (a : Addr) (ha : tmps.getD p undef = .pointer (some a)) (v : Value) (hl : (loadVar ty a).run Tryd.prog w = .ok v w) :
    (results fn tmps).run Tryd.prog w = .ok v w := by
  simp only [results, h]
  have ha' : tmps[p]?.getD undef = .pointer (some a) := by simpa using ha
  simp [Sem.run_bind, Result.andThen, ha', asAddr, hl]
theorem range_blk {w : World} {b : Nat} {cs : Array Value} {t : TypeId} (h : Blk w b cs t) : w.rangeAt b 0 cs.toList := fun j v hj => by
  rw [Nat.zero_add, h.cell, ← hj]
  simp
/-- A whole array or struct at a block's beginning is loaded. -/
theorem wpList_load_blk {ops : Array Oper} {rest : List Oper} {op : Oper} {a : Act} {w : World} {Q : Exit → Act → World → Prop} (hgd : op.guard = none) (ty : TypeId) (d : TypeDesc) (hu : Tryd.prog.underlying ty = some d) (hd : d.isRow = true) (n : Nat) (hi : (Tryd.prog.info? ty).map (·.size) = some n) (x : Operand) (ho : op.op = .load ty x)
    (b : Nat) (hx : a.eval x = .pointer (some ⟨b, 0, none⟩)) (cs : Array Value) (t : TypeId) (hc : Blk w b cs t) (hn : cs.size = n)
    (h : wpList Tryd.prog ops Q rest (a.put op.dst (.agg cs)) w) : wpList Tryd.prog ops Q (op :: rest) a w := by
  refine wpList_load_mid hgd ty x ho b 0 hx cs.toList _ (range_blk hc) hu hd (by rw [Array.length_toList, hn]; exact hi) ?_
  simpa using h
theorem loadBlkT {w : World} {b : Nat} {cs : Array Value} {t : TypeId} (hk : Blk w b cs t) (ty : TypeId) (d : TypeDesc) (hu : Tryd.prog.underlying ty = some d) (hd : d.isRow = true) (n : Nat) (hi : (Tryd.prog.info? ty).map (·.size) = some n) (hn : cs.size = n) : (loadVar ty ⟨b, 0, none⟩).run Tryd.prog w = .ok (.agg cs) w := by
  have := run_loadVar_mid (P := Tryd.prog) w b 0 ty cs.toList _ (range_blk hk) hu hd (by rw [Array.length_toList, hn]; exact hi)
  simpa using this
end Go.Proofs.YtjmjnecobaoofaaDoor
