/- Key on a Dec. -/
import Derived.Test.YtinjcefekbpabaaD6
import Derived.Deep.MidRow
namespace Go.Proofs.Ytinjcefekbpabaa
set_option linter.unusedVariables false
set_option linter.unusedSimpArgs false
open Go.RowKit

theorem list32 (xs : List UInt8) (h : xs.length = 32) : ∃ x0 x1 x2 x3 x4 x5 x6 x7 x8 x9 x10 x11 x12 x13 x14 x15 x16 x17 x18 x19 x20 x21 x22 x23 x24 x25 x26 x27 x28 x29 x30 x31, xs = [x0, x1, x2, x3, x4, x5, x6, x7, x8, x9, x10, x11, x12, x13, x14, x15, x16, x17, x18, x19, x20, x21, x22, x23, x24, x25, x26, x27, x28, x29, x30, x31] := by
  match xs, h with
  | [x0, x1, x2, x3, x4, x5, x6, x7, x8, x9, x10, x11, x12, x13, x14, x15, x16, x17, x18, x19, x20, x21, x22, x23, x24, x25, x26, x27, x28, x29, x30, x31], _ => exact ⟨x0, x1, x2, x3, x4, x5, x6, x7, x8, x9, x10, x11, x12, x13, x14, x15, x16, x17, x18, x19, x20, x21, x22, x23, x24, x25, x26, x27, x28, x29, x30, x31, rfl⟩

/-- A key's cells: those of 32 bytes that were taken, or noughts. -/
def keyCells (r : Option (List UInt8)) : Array Value := match r with
  | some xs => (xs.map u8c).toArray
  | none => #[.int .u8 0, .int .u8 0, .int .u8 0, .int .u8 0, .int .u8 0, .int .u8 0, .int .u8 0, .int .u8 0, .int .u8 0, .int .u8 0, .int .u8 0, .int .u8 0, .int .u8 0, .int .u8 0, .int .u8 0, .int .u8 0, .int .u8 0, .int .u8 0, .int .u8 0, .int .u8 0, .int .u8 0, .int .u8 0, .int .u8 0, .int .u8 0, .int .u8 0, .int .u8 0, .int .u8 0, .int .u8 0, .int .u8 0, .int .u8 0, .int .u8 0, .int .u8 0]

def KeyC (w : World) (z : Nat) (sv : Value) (bs : List UInt8) (r : Option (List UInt8) × S) (e : Ending) (w' : World) : Prop :=
  e = .returned (.agg (keyCells r.1)) ∧ DecSt w' z sv bs r.2 ∧ w.grownBy w' (some z)

theorem infoKey : (Try.prog.info? 35).map (·.size) = some 32 := by kernel_rfl
theorem thereBlk {w : World} {b : Nat} {old : Array Value} {t : TypeId} (hk : Blk w b old t) (n : Nat) (hs : n ≤ old.size) : w.there b 0 n := fun j hj => by
  rw [Nat.zero_add, hk.cell, hk.frozen]
  exact ⟨by rw [Array.getElem?_eq_getElem (by omega)]; rfl, rfl⟩
theorem setCells_from {b : Nat} {t : TypeId} : ∀ (vs : List Value) (o : Nat) (w : World) (old : Array Value), Blk w b old t → o + vs.length = old.size → w.setCells b o vs = w.setRow b (old.toList.take o ++ vs).toArray
  | [], o, w, old, hk, hs => by
    have e : (old.toList.take o ++ []).toArray = old := by
      simp at hs
      rw [List.append_nil, List.take_of_length_le (by simp; omega)]
    rw [e, World.setCells, setRow_self w b old t _ hk]
  | v :: r, o, w, old, hk, hs => by
    have hlt : o < old.size := by simp at hs; omega
    rw [World.setCells, setCells_from r (o + 1) _ _ (hk.set o v) (by simp at hs ⊢; omega), setCell_eq_setRow w b o old t (0, 0) v hk, setRow_setRow]
    congr 2
    rw [Array.toList_setIfInBounds, List.take_succ_eq_append_getElem (by simpa using hlt)]
    simp [List.take_set_of_le]
theorem setCells_all {w : World} {b : Nat} {old : Array Value} {t : TypeId} (hk : Blk w b old t) (cells : Array Value) (hs : cells.size = old.size) : w.setCells b 0 cells.toList = w.setRow b cells := by
  rw [setCells_from cells.toList 0 w old hk (by simpa using hs)]
  simp
theorem setCells_blk {w : World} {b : Nat} {old : Array Value} {t : TypeId} (hk : Blk w b old t) (cells : Array Value) (hs : cells.size = old.size) : Blk (w.setCells b 0 cells.toList) b cells t ∧ w.grownBy (w.setCells b 0 cells.toList) (some b) := by
  have e : w.setCells b 0 cells.toList = w.setRow b cells := by
    exact setCells_all hk cells hs
  rw [e]
  exact ⟨setRow_heap w b _ _ t _ hk, ⟨rfl, rfl, rfl, by simp, fun k _ hne => setRow_other w b k cells (fun e => hne (by rw [e]))⟩⟩
theorem wpList_store_blk {ops : Array Oper} {rest : List Oper} {op : Oper} {a : Act} {w : World} {Q : Exit → Act → World → Prop} (hgd : op.guard = none) (ty : TypeId) (x y : Operand) (ho : op.op = .store ty x y)
    (b n : Nat) (old cells : Array Value) (t : TypeId) (hs : cells.size = n) (hn : old.size = n) (hx : a.eval x = .pointer (some ⟨b, 0, none⟩)) (hy : a.eval y = .agg cells) (hk : Blk w b old t) (hi : (Try.prog.info? ty).map (·.size) = some n) (h1 : cells.all (·.oneCell') = true)
    (h : ∀ w', Blk w' b cells t → w.grownBy w' (some b) → wpList Try.prog ops Q rest (a.put op.dst undef) w') : wpList Try.prog ops Q (op :: rest) a w :=
  wpList_store_mid hgd ty x y ho b 0 cells hx hy (thereBlk hk _ (by omega)) (by rw [hs]; exact hi) h1 (h _ (setCells_blk hk cells (hs.trans hn.symm)).1 (setCells_blk hk cells (hs.trans hn.symm)).2)
theorem wpList_load_key {ops : Array Oper} {rest : List Oper} {op : Oper} {a : Act} {w : World} {Q : Exit → Act → World → Prop} (hgd : op.guard = none) (x : Operand) (ho : op.op = .load 35 x)
    (b o : Nat) (hx : a.eval x = .pointer (some ⟨b, o, none⟩)) (cs : List Value) (hc : w.rangeAt b o cs) (hn : cs.length = 32)
    (h : wpList Try.prog ops Q rest (a.put op.dst (.agg cs.toArray)) w) : wpList Try.prog ops Q (op :: rest) a w :=
  wpList_load_mid hgd 35 x ho b o hx cs _ hc Try.underlying35 rfl (by rw [hn]; exact infoKey) h
theorem arrayAtKey (b o c : Nat) (w : World) : (Instr.arrayAt 35 (.slice (some ⟨b, o, none⟩) 32 c)).run Try.prog w = .ok (.pointer (some ⟨b, o, none⟩)) w := by
  simp [Instr.arrayAt, underlying, Try.underlying35, Result.andThen, Sem.run_bind]
theorem loadBlk {w : World} {b : Nat} {cs : Array Value} {t : TypeId} (hk : Blk w b cs t) (hn : cs.size = 32) : (loadVar 35 ⟨b, 0, none⟩).run Try.prog w = .ok (.agg cs) w := by
  have := run_loadVar_mid (P := Try.prog) w b 0 35 cs.toList _ (fun j v hj => by rw [Nat.zero_add, hk.cell, ← hj]; simp) Try.underlying35 rfl (by rw [Array.length_toList, hn]; exact infoKey)
  simpa using this
theorem results_cell {fn : Func} {p : Tmp} {ty : TypeId} (h : fn.results = #[.cell p ty]) (tmps : Array Value) (w : World) (a : Addr) (ha : tmps.getD p undef = .pointer (some a)) (v : Value) (hl : (loadVar ty a).run Try.prog w = .ok v w) :
    (results fn tmps).run Try.prog w = .ok v w := by
  simp only [results, h]
  have ha' : tmps[p]?.getD undef = .pointer (some a) := by simpa using ha
  simp [Sem.run_bind, Result.andThen, ha', asAddr, hl]
theorem rangeRd {w : World} {xs : List UInt8} {b o : Nat} (h : ∀ i (h : i < xs.length), w.cell? ⟨b, o + i, none⟩ = some (u8c xs[i])) : w.rangeAt b o (xs.map u8c) := fun j v hj => by
  have hjl : j < xs.length := by
    rcases Nat.lt_or_ge j xs.length with h | h
    · exact h
    · simp [List.getElem?_eq_none (show (xs.map u8c).length ≤ j by simpa using h)] at hj
  rw [h j hjl]
  simpa [List.getElem?_eq_getElem hjl] using hj

theorem mNext_whole (bs : List UInt8) (s : S) (a k : Nat) (xs : List UInt8) (h : (mNext bs s a k).1 = some xs) : xs.length = k := by
  unfold mNext at h
  split at h
  · simp at h
  · split at h
    · simp at h
    · simp at h; rw [← h]; simp; omega

theorem key_frame {w w1 w2 : World} {z : Nat} {o : Obj} (hg : (w.alloc o).grownBy w1 (some z)) (hg2 : w1.grownBy w2 (some w.heap.size)) : w.grownBy w2 (some z) :=
  ⟨hg2.os.trans hg.os, hg2.tape.trans hg.tape, hg2.output.trans hg.output, Nat.le_trans (by have := hg.size; simp at this; omega) hg2.size,
    fun k hk hne => ((hg2.block k (by have := hg.size; simp at this; omega) (fun e => by have := Option.some.inj e; omega)).trans (hg.block k (by simp; omega) hne)).trans (Below.heap_alloc w o k hk)⟩

set_option maxRecDepth 20000 in
set_option maxHeartbeats 400000 in
theorem key_st (w : World) (z : Nat) (sv : Value) (bs : List UInt8) (s : S) (h : DecSt w z sv bs s) :
    Calls Try.prog 47 #[.pointer (some ⟨z, 0, none⟩)] w (KeyC w z sv bs (mNext bs s (mPlace s) 32)) := by
  have HA := hide (fun w h => at_st w z sv bs s h)
  have HN := hide (fun w h => next_st w z sv bs s (mPlace s) 32 h)
  have HL := hide (mNext_whole bs s (mPlace s) 32)
  generalize mNext bs s (mPlace s) 32 = r at HN HL ⊢
  generalize mPlace s = q at HA HN
  obtain ⟨r1, r2⟩ := r
  have hz := h.lt
  have h' := fun o => h.below ((Below.refl _ _).alloc (Nat.le_refl _) o)
  have HH := hide h'
  clear h'
  have hsv : ∀ b, sv = .slice (some ⟨b, 0, none⟩) bs.length bs.length → b < w.heap.size := by
    intro b e
    rcases h.1.2 with ⟨e1, _⟩ | ⟨b', e1, _, hB⟩
    · rw [e1] at e; cases e
    · rw [e1] at e; cases e; exact hB.lt
  have hdb : ∀ b, sv = .slice (some ⟨b, 0, none⟩) bs.length bs.length → some b ≠ some w.heap.size := by
    intro b e e2
    have := hsv b e
    have := Option.some.inj e2
    omega
  have HDB := hide hdb
  clear hsv hdb
  go_enter Try.func47, Try.ntmps47
  go_wp2_with fail
  refine (HA.out _ (HH.out _)).mono ?_
  rintro e w' ⟨rfl, rfl⟩
  go_wp2_with fail
  refine (HN.out _ (HH.out _)).mono ?_
  rintro e w1 ⟨⟨v, rfl, hv, hrd⟩, hd, hg⟩
  cases r1 with
  | none =>
    have hv := hv rfl
    subst hv
    clear hrd
    have hk : Blk w1 w.heap.size #[.int .u8 0, .int .u8 0, .int .u8 0, .int .u8 0, .int .u8 0, .int .u8 0, .int .u8 0, .int .u8 0, .int .u8 0, .int .u8 0, .int .u8 0, .int .u8 0, .int .u8 0, .int .u8 0, .int .u8 0, .int .u8 0, .int .u8 0, .int .u8 0, .int .u8 0, .int .u8 0, .int .u8 0, .int .u8 0, .int .u8 0, .int .u8 0, .int .u8 0, .int .u8 0, .int .u8 0, .int .u8 0, .int .u8 0, .int .u8 0, .int .u8 0, .int .u8 0] 35 := (Blk.made w _ _).grown hg (fun e => by have := Option.some.inj e; omega)
    have hone : (keyCells none).all (·.oneCell') = true := by kernel_rfl
    have HK := hide hk
    clear hk
    go_wp2_with ((with_reducible refine wpList_store_blk ?_ 35 (.tmp 2) (.tmp 14) ?_ w.heap.size 32 _ (keyCells none) 35 ?_ ?_ ?_ ?_ HK.out infoKey hone ?_); rfl; rfl; rfl; rfl; rfl; rfl; intro w2 hk2 hg2)
    refine bodyPost_ret (results_cell rfl _ _ _ rfl _ (loadBlk hk2 rfl)) rfl ?_
    exact ⟨rfl, hd.grown hg2 (by simp; omega) HDB.out, key_frame hg hg2⟩
  | some xs =>
    clear hv
    have hxl : xs.length = 32 := HL.out xs rfl
    have hk : Blk w1 w.heap.size #[.int .u8 0, .int .u8 0, .int .u8 0, .int .u8 0, .int .u8 0, .int .u8 0, .int .u8 0, .int .u8 0, .int .u8 0, .int .u8 0, .int .u8 0, .int .u8 0, .int .u8 0, .int .u8 0, .int .u8 0, .int .u8 0, .int .u8 0, .int .u8 0, .int .u8 0, .int .u8 0, .int .u8 0, .int .u8 0, .int .u8 0, .int .u8 0, .int .u8 0, .int .u8 0, .int .u8 0, .int .u8 0, .int .u8 0, .int .u8 0, .int .u8 0, .int .u8 0] 35 := (Blk.made w _ _).grown hg (fun e => by have := Option.some.inj e; omega)
    have HK := hide hk
    simp only [Option.getD_some] at hrd
    obtain ⟨ao, c, rfl, hc, hm, hcel⟩ := hrd
    obtain ⟨b, o, rfl, hcell⟩ : ∃ b o, ao = some ⟨b, o, none⟩ ∧ ∀ i (h : i < xs.length), w1.cell? ⟨b, o + i, none⟩ = some (u8c xs[i]) := by
      rcases hcel with ⟨_, h⟩ | h
      · omega
      · exact h
    have HR := hide (rangeRd hcell)
    have HL1 := hide (show (xs.map u8c).length = 32 by simp [hxl])
    have HL2 := hide (show (xs.map u8c).toArray.size = 32 by simp [hxl])
    have HO := hide (all_oneCell_toArray (u8c_one xs))
    have hrr := arrayAtKey b o c
    rw [hxl]
    obtain ⟨cs, hcs⟩ : ∃ cs, cs = xs.map u8c := ⟨_, rfl⟩
    rw [← hcs] at HR HL1 HL2 HO
    have HCS := hide hcs
    clear hk hcell hcel hc hcs hxl
    go_wp2_with (first | ((with_reducible refine wpList_load_key ?_ (.tmp 16) ?_ b o ?_ cs HR.out HL1.out ?_); rfl; rfl; rfl) | ((with_reducible refine wpList_store_blk ?_ 35 (.tmp 2) (.tmp 17) ?_ w.heap.size 32 _ cs.toArray 35 HL2.out ?_ ?_ ?_ HK.out infoKey HO.out ?_); rfl; rfl; rfl; rfl; rfl; intro w2 hk2 hg2))
    refine bodyPost_ret (results_cell rfl _ _ _ rfl _ (loadBlk hk2 HL2.out)) rfl ?_
    refine ⟨?_, hd.grown hg2 (by simp; omega) HDB.out, key_frame hg hg2⟩
    rw [HCS.out]; rfl
end Go.Proofs.Ytinjcefekbpabaa
