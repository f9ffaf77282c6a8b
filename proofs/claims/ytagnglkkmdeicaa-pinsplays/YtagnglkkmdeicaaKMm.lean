/- Sets of keys: a map by whole keys. -/
import Derived.Test.YtagnglkkmdeicaaKDm
import Derived.Maps.OwnSet
import Derived.DeepKeys4
import Derived.StillTailTactics
namespace Go.Proofs.Ytagnglkkmdeicaa
set_option linter.unusedVariables false
set_option linter.unusedSimpArgs false
open Go.RowKit
open Go.Maps (Keyed)

theorem laidOutK : laidOutB Try.prog = true := by kernel_rfl
theorem keyedK : Keyed Try.prog 30 := Keyed.of_law (deep_law_laid laidOutK (m := 2) (by decide) (of_decide_eq_true (by kernel_rfl)) (by kernel_rfl) (by kernel_rfl))
theorem keyByte (b : UInt8) : Lit.keyBytes (.int .u8 (b.toNat : Int)) = [b] := of_byte (p := fun b => Lit.keyBytes (.int .u8 (b.toNat : Int)) = [b]) (of_decide_eq_true (by kernel_rfl)) b
theorem mapM_all {α β : Type} {f : α → Option β} {g : α → β} : ∀ l : List α, (∀ x ∈ l, f x = some (g x)) → l.mapM f = some (l.map g)
  | [], _ => rfl
  | x :: r, h => by
    rw [List.mapM_cons, h x (by simp), mapM_all r (fun y hy => h y (by simp [hy]))]; rfl
theorem keyTypeK : Try.prog.keyType 30 = true := by kernel_rfl
theorem cellsKeyK : Try.prog.cellsOf 30 = 32 := by kernel_rfl
theorem cellsU8K : Try.prog.cellsOf 5 = 1 := by kernel_rfl
theorem sizeTK : ∃ n, Try.prog.types.size = n + 1 := ⟨Try.prog.types.size - 1, by have : 0 < Try.prog.types.size := of_decide_eq_true (by kernel_rfl); omega⟩
theorem litByte (b : UInt8) : (Lit.int .u8 (b.toNat : Int)).wf = true := of_byte (p := fun b => (Lit.int .u8 (b.toNat : Int)).wf = true) (of_decide_eq_true (by kernel_rfl)) b
theorem keyLits_array {P : Program} {d n : Nat} {t e : TypeId} {cs : List Value} (hu : P.underlying t = some (.array n e)) : P.keyLits (d + 1) t cs = if cs.length = P.cellsOf t then ((List.range n).mapM fun i => P.keyLits d e ((cs.drop (i * P.cellsOf e)).take (P.cellsOf e))).map List.flatten else none := by
  conv => lhs; unfold Program.keyLits
  simp only [hu]
theorem keyLits_int {P : Program} {d : Nat} {t : TypeId} {q : IntKind} {n : Int} (hu : P.underlying t = some (.int q)) (hw : (Lit.int q n).wf = true) : P.keyLits (d + 1) t [.int q n] = some [.int q n] := by
  unfold Program.keyLits; rw [hu]; simp [hw]
theorem keyOf_array {P : Program} {n : Nat} {k e : TypeId} {v : Value} (hu : P.underlying k = some (.array n e)) : keyOf P k v = if (P.keyType k && v.formed P k) = true then (P.keyLits (P.types.size + 1) k v.cells.toList).map fun ls => .string (keyBytes ls) else none := by
  unfold keyOf; rw [hu]
theorem bytes_lits : ∀ k : List UInt8, keyBytes (k.map fun b => Lit.int .u8 (b.toNat : Int)) = k
  | [] => rfl
  | b :: r => by
    have := bytes_lits r
    unfold keyBytes at this ⊢
    rw [List.map_cons, List.flatMap_cons, keyByte, this]; rfl
theorem flat_lits : ∀ k : List UInt8, (k.map fun b => [Lit.int .u8 (b.toNat : Int)]).flatten = k.map fun b => Lit.int .u8 (b.toNat : Int)
  | [] => rfl
  | b :: r => by rw [List.map_cons, List.flatten_cons, flat_lits r]; rfl
theorem range_lits (k : List UInt8) (h : k.length = 32) : (List.range 32).map (fun i => [Lit.int .u8 ((k.getD i 0).toNat : Int)]) = k.map (fun b => [Lit.int .u8 (b.toNat : Int)]) := by
  apply List.ext_getElem?
  intro i
  rcases Nat.lt_or_ge i 32 with hi | hi
  · simp [hi, List.getElem?_eq_getElem (show i < k.length by omega)]
  · rw [List.getElem?_eq_none (by simpa using hi), List.getElem?_eq_none (by simpa [h] using hi)]
/-- A key reads as its bytes. -/
theorem keyOf_key (k : List UInt8) (h : k.length = 32) : keyOf Try.prog 30 (keyV k) = some (.string k) := by
  obtain ⟨n, hn⟩ := sizeTK
  have hf : (keyV k).formed Try.prog 30 = true := by
    simp [Value.formed, keyV, Try.underlying30, cellsKeyK, h]
  have hl : Try.prog.keyLits (Try.prog.types.size + 1) 30 (keyV k).cells.toList = some (k.map fun b => Lit.int .u8 (b.toNat : Int)) := by
    have hc : (keyV k).cells.toList = k.map u8c := by simp [keyV, Value.cells]
    rw [hc, keyLits_array Try.underlying30, if_pos (by rw [List.length_map, cellsKeyK, h])]
    simp only [cellsU8K, Nat.mul_one]
    rw [mapM_all (g := fun i => [Lit.int .u8 ((k.getD i 0).toNat : Int)])]
    · rw [Option.map_some, range_lits k h, flat_lits]
    · intro i hi
      have hi' : i < k.length := by rw [h]; exact List.mem_range.1 hi
      rw [hn, List.drop_eq_getElem_cons (by simpa using hi')]
      simp only [List.take_succ_cons, List.take_zero, List.getElem_map, u8c]
      rw [List.getD_eq_getElem?_getD, List.getElem?_eq_getElem hi', Option.getD_some]
      exact keyLits_int Try.underlying5 (litByte _)
  rw [keyOf_array Try.underlying30, if_pos (by rw [keyTypeK, hf]; rfl), hl, Option.map_some, bytes_lits]
end Go.Proofs.Ytagnglkkmdeicaa

/- Has: the look-up, which draws its order. -/
namespace Go.Proofs.Ytagnglkkmdeicaa
set_option linter.unusedVariables false
set_option linter.unusedSimpArgs false
open Go.RowKit
open Go.Maps (Keyed)

/-- What the look-up leans on. -/
structure HasS (z b zk : Nat) (k : List UInt8) (hv : Bool) (W : World) : Prop where
  c : W.cell? ⟨z, 0, none⟩ = some (.map (some b))
  kk : KeyAt W zk k
  l : (Instr.lookup 81 (.map (some b)) (keyV k) true).run Try.prog W = .ok (.tuple #[.agg #[], .bool hv]) W
theorem undMap : Try.prog.underlying 81 = some (.map 30 84) := by kernel_rfl
theorem loadAt_map {w : World} {z o : Nat} {m : Option Nat} (hc : w.cell? ⟨z, o, none⟩ = some (.map m)) : (Instr.loadAt 81 (.pointer (some ⟨z, o, none⟩))).run Try.prog w = .ok (.map m) w := by
  have := undMap
  simp [Instr.loadAt, Instr.sureAddr, go_sem, hc, this]
theorem run_allocU {op : Oper} {ev : Operand → Value} (ho : op.op = .alloc 84) (w : World) : (execOp ev op).run Try.prog w = .ok (.value (.pointer (some ⟨w.heap.size, 0, none⟩))) (w.alloc (.cells #[] 84)) := by
  simp only [execOp, ho]
  kernel_rfl
theorem run_storeU {op : Oper} {ev : Operand → Value} {x y : Operand} {b : Nat} {w : World} (ho : op.op = .store 84 x y) (hx : ev x = .pointer (some ⟨b, 0, none⟩)) (hy : ev y = .agg #[]) : (execOp ev op).run Try.prog w = .ok .skip w := by
  simp only [execOp, ho, hx, hy]
  kernel_rfl
theorem run_lookK {op : Oper} {ev : Operand → Value} {x y : Operand} {m k v : Value} {w : World} (ho : op.op = .lookup 81 x y true) (hx : ev x = m) (hy : ev y = k) (hl : (Instr.lookup 81 m k true).run Try.prog w = .ok v w) : (execOp ev op).run Try.prog w = .ok (.value v) w := by
  simp only [execOp, ho, hx, hy, Sem.run_bind, hl, Result.andThen_ok, Sem.run_pure]
def hs_0 (s : String) : Oper := { dst := some 10, op := Op.move (Operand.tmp 0), type := 63, pos := s, after := #[], guard := none }
def hs_1 (s : String) : Oper := { dst := some 11, op := Op.nilCheck (Operand.tmp 10), type := 0, pos := s, after := #[{ on := 0, ground := Ground.data }], guard := none }
def hs_2 (s : String) : Oper := { dst := some 12, op := Op.fieldAddr 83 (Operand.tmp 11) 0, type := 0, pos := s, after := #[{ on := 1, ground := Ground.data }], guard := none }
def hs_3 (s : String) : Oper := { dst := some 13, op := Op.load 81 (Operand.tmp 12), type := 81, pos := s, after := #[{ on := 2, ground := Ground.data }], guard := none }
def hs_4 (s : String) : Oper := { dst := some 14, op := Op.load 30 (Operand.tmp 3), type := 30, pos := s, after := #[], guard := none }
def hs_5 (s : String) : Oper := { dst := some 15, op := Op.lookup 81 (Operand.tmp 13) (Operand.tmp 14) true, type := 86, pos := s, after := #[{ on := 3, ground := Ground.data }, { on := 4, ground := Ground.data }], guard := none }
def hs_6 (s : String) : Oper := { dst := some 9, op := Op.move (Operand.tmp 15), type := 86, pos := s, after := #[{ on := 5, ground := Ground.data }], guard := none }
def hs_7 (s : String) : Oper := { dst := some 16, op := Op.extract (Operand.tmp 9) 0, type := 84, pos := s, after := #[{ on := 6, ground := Ground.data }], guard := none }
def hs_8 (s : String) : Oper := { dst := some 17, op := Op.extract (Operand.tmp 9) 1, type := 4, pos := s, after := #[{ on := 6, ground := Ground.data }, { on := 10, ground := Ground.gcOnly Departure.lateStores }], guard := none }
def hs_9 (s : String) : Oper := { dst := some 5, op := Op.alloc 84, type := 0, pos := s, after := #[], guard := none }
def hs_10 (s : String) : Oper := { dst := none, op := Op.store 84 (Operand.tmp 5) (Operand.tmp 16), type := 0, pos := s, after := #[{ on := 9, ground := Ground.data }, { on := 7, ground := Ground.data }, { on := 0, ground := Ground.phase }, { on := 1, ground := Ground.phase }, { on := 2, ground := Ground.phase }, { on := 3, ground := Ground.phase }, { on := 4, ground := Ground.phase }, { on := 5, ground := Ground.phase }, { on := 6, ground := Ground.phase }, { on := 7, ground := Ground.phase }, { on := 8, ground := Ground.textOnly Departure.lateStores }, { on := 9, ground := Ground.phase }], guard := none }
def hs_11 (s : String) : Oper := { dst := some 6, op := Op.assign (Operand.tmp 17), type := 4, pos := s, after := #[{ on := 8, ground := Ground.data }, { on := 10, ground := Ground.chain }, { on := 0, ground := Ground.phase }, { on := 1, ground := Ground.phase }, { on := 2, ground := Ground.phase }, { on := 3, ground := Ground.phase }, { on := 4, ground := Ground.phase }, { on := 5, ground := Ground.phase }, { on := 6, ground := Ground.phase }, { on := 7, ground := Ground.phase }, { on := 8, ground := Ground.phase }, { on := 9, ground := Ground.phase }, { on := 10, ground := Ground.phase }], guard := none }
def hs_ops (s : String) : Array Oper := #[hs_0 s, hs_1 s, hs_2 s, hs_3 s, hs_4 s, hs_5 s, hs_6 s, hs_7 s, hs_8 s, hs_9 s, hs_10 s, hs_11 s]
set_option maxRecDepth 20000 in
theorem hs_walk (s : String) {Q : Exit → Act → World → Prop} (hQ : ∀ c (a : Act) t v w, Q (.panic c) (a.put (some t) v) w → Q (.panic c) a w) (W : World) (z b zk : Nat) (k : List UInt8) (hv : Bool) (g0 : HasS z b zk k hv W.drew) (g1 : HasS z b zk k hv (W.drew.alloc (.cells #[] 84)))
    (a : Act) (hs : 17 < a.tmps.size) (e0 : a.eval (.tmp 0) = .pointer (some ⟨z, 0, none⟩)) (e3 : a.eval (.tmp 3) = .pointer (some ⟨zk, 0, none⟩))
    (h0 :  Q .normal (((((((((((a.put (some 10) (.pointer (some ⟨z, 0, none⟩))).put (some 11) (.pointer (some ⟨z, 0, none⟩))).put (some 12) (.pointer (some ⟨z, 0, none⟩))).put (some 13) (.map (some b))).put (some 14) (keyV k)).put (some 15) (.tuple #[.agg #[], .bool hv])).put (some 9) (.tuple #[.agg #[], .bool hv])).put (some 16) (.agg #[])).put (some 17) (.bool hv)).put (some 5) (.pointer (some ⟨W.heap.size, 0, none⟩))).put (some 6) (.bool hv)) (W.drew.alloc (.cells #[] 84))) :
    Code.wp Try.prog (.region 3 (hs_ops s) true) Q a W := by
  refine wp_region_held_drew (S := HasS z b zk k hv) (by kernel_rfl) g0 (fun hS => ?_)
  change wpAnyH _ _ _ _ _ _ _ _ (World.drew _)
  refine wpAnyH_take (i := 0) (oi := hs_0 s) (v := .pointer (some ⟨z, 0, none⟩)) (by kernel_rfl) (by kernel_rfl) (by kernel_rfl) (by kernel_rfl) (fun c a w h => hQ c _ _ _ w h) (Or.inl ⟨wanted_none rfl, fun w hw => by simp only [execOp, hs_0, e0]; rfl⟩) hS ?_
  change wpAnyH _ _ _ _ _ _ _ (a.put (some 10) (.pointer (some ⟨z, 0, none⟩))) _
  obtain ⟨a0_1, ha1⟩ : ∃ rr : Act, rr = a.put (some 10) (.pointer (some ⟨z, 0, none⟩)) := ⟨_, rfl⟩
  have qz1 : 17 < a0_1.tmps.size := by rw [ha1, sz_put]; exact hs
  have f1_3 : a0_1.eval (.tmp 3) = .pointer (some ⟨zk, 0, none⟩) := by rw [ha1, ev_other _ _ _ _ (by decide)]; exact e3
  have f1_10 : a0_1.eval (.tmp 10) = .pointer (some ⟨z, 0, none⟩) := by rw [ha1]; exact ev_same _ _ _ (Nat.lt_of_le_of_lt (by decide) hs)
  rw [← ha1] at h0 ⊢
  clear ha1
  refine wpAnyH_take (i := 1) (oi := hs_1 s) (v := .pointer (some ⟨z, 0, none⟩)) (by kernel_rfl) (by kernel_rfl) (by kernel_rfl) (by kernel_rfl) (fun c a w h => hQ c _ _ _ w h) (Or.inl ⟨wanted_none rfl, fun w hw => by simp only [execOp, hs_1, f1_10]; rfl⟩) hS ?_
  change wpAnyH _ _ _ _ _ _ _ (a0_1.put (some 11) (.pointer (some ⟨z, 0, none⟩))) _
  obtain ⟨a0_2, ha2⟩ : ∃ rr : Act, rr = a0_1.put (some 11) (.pointer (some ⟨z, 0, none⟩)) := ⟨_, rfl⟩
  have qz2 : 17 < a0_2.tmps.size := by rw [ha2, sz_put]; exact qz1
  have f2_3 : a0_2.eval (.tmp 3) = .pointer (some ⟨zk, 0, none⟩) := by rw [ha2, ev_other _ _ _ _ (by decide)]; exact f1_3
  have f2_11 : a0_2.eval (.tmp 11) = .pointer (some ⟨z, 0, none⟩) := by rw [ha2]; exact ev_same _ _ _ (Nat.lt_of_le_of_lt (by decide) qz1)
  rw [← ha2] at h0 ⊢
  clear ha2
  refine wpAnyH_take (i := 2) (oi := hs_2 s) (v := .pointer (some ⟨z, 0, none⟩)) (by kernel_rfl) (by kernel_rfl) (by kernel_rfl) (by kernel_rfl) (fun c a w h => hQ c _ _ _ w h) (Or.inl ⟨wanted_none rfl, fun w hw => by simp only [execOp, hs_2, f2_11]; rfl⟩) hS ?_
  change wpAnyH _ _ _ _ _ _ _ (a0_2.put (some 12) (.pointer (some ⟨z, 0, none⟩))) _
  obtain ⟨a0_3, ha3⟩ : ∃ rr : Act, rr = a0_2.put (some 12) (.pointer (some ⟨z, 0, none⟩)) := ⟨_, rfl⟩
  have qz3 : 17 < a0_3.tmps.size := by rw [ha3, sz_put]; exact qz2
  have f3_3 : a0_3.eval (.tmp 3) = .pointer (some ⟨zk, 0, none⟩) := by rw [ha3, ev_other _ _ _ _ (by decide)]; exact f2_3
  have f3_12 : a0_3.eval (.tmp 12) = .pointer (some ⟨z, 0, none⟩) := by rw [ha3]; exact ev_same _ _ _ (Nat.lt_of_le_of_lt (by decide) qz2)
  rw [← ha3] at h0 ⊢
  clear ha3
  refine wpAnyH_take (i := 3) (oi := hs_3 s) (v := .map (some b)) (by kernel_rfl) (by kernel_rfl) (by kernel_rfl) (by kernel_rfl) (fun c a w h => hQ c _ _ _ w h) (Or.inl ⟨wanted_none rfl, fun w hw => run_load rfl f3_12 (loadAt_map hw.c)⟩) hS ?_
  change wpAnyH _ _ _ _ _ _ _ (a0_3.put (some 13) (.map (some b))) _
  obtain ⟨a0_4, ha4⟩ : ∃ rr : Act, rr = a0_3.put (some 13) (.map (some b)) := ⟨_, rfl⟩
  have qz4 : 17 < a0_4.tmps.size := by rw [ha4, sz_put]; exact qz3
  have f4_3 : a0_4.eval (.tmp 3) = .pointer (some ⟨zk, 0, none⟩) := by rw [ha4, ev_other _ _ _ _ (by decide)]; exact f3_3
  have f4_13 : a0_4.eval (.tmp 13) = .map (some b) := by rw [ha4]; exact ev_same _ _ _ (Nat.lt_of_le_of_lt (by decide) qz3)
  rw [← ha4] at h0 ⊢
  clear ha4
  refine wpAnyH_take (i := 4) (oi := hs_4 s) (v := keyV k) (by kernel_rfl) (by kernel_rfl) (by kernel_rfl) (by kernel_rfl) (fun c a w h => hQ c _ _ _ w h) (Or.inl ⟨wanted_none rfl, fun w hw => run_load rfl f4_3 hw.kk.load⟩) hS ?_
  change wpAnyH _ _ _ _ _ _ _ (a0_4.put (some 14) (keyV k)) _
  obtain ⟨a0_5, ha5⟩ : ∃ rr : Act, rr = a0_4.put (some 14) (keyV k) := ⟨_, rfl⟩
  have qz5 : 17 < a0_5.tmps.size := by rw [ha5, sz_put]; exact qz4
  have f5_13 : a0_5.eval (.tmp 13) = .map (some b) := by rw [ha5, ev_other _ _ _ _ (by decide)]; exact f4_13
  have f5_14 : a0_5.eval (.tmp 14) = keyV k := by rw [ha5]; exact ev_same _ _ _ (Nat.lt_of_le_of_lt (by decide) qz4)
  rw [← ha5] at h0 ⊢
  clear ha5
  refine wpAnyH_take (i := 5) (oi := hs_5 s) (v := .tuple #[.agg #[], .bool hv]) (by kernel_rfl) (by kernel_rfl) (by kernel_rfl) (by kernel_rfl) (fun c a w h => hQ c _ _ _ w h) (Or.inl ⟨wanted_none rfl, fun w hw => run_lookK rfl f5_13 f5_14 hw.l⟩) hS ?_
  change wpAnyH _ _ _ _ _ _ _ (a0_5.put (some 15) (.tuple #[.agg #[], .bool hv])) _
  obtain ⟨a0_6, ha6⟩ : ∃ rr : Act, rr = a0_5.put (some 15) (.tuple #[.agg #[], .bool hv]) := ⟨_, rfl⟩
  have qz6 : 17 < a0_6.tmps.size := by rw [ha6, sz_put]; exact qz5
  have f6_15 : a0_6.eval (.tmp 15) = .tuple #[.agg #[], .bool hv] := by rw [ha6]; exact ev_same _ _ _ (Nat.lt_of_le_of_lt (by decide) qz5)
  rw [← ha6] at h0 ⊢
  clear ha6
  refine wpAnyH_take (i := 6) (oi := hs_6 s) (v := .tuple #[.agg #[], .bool hv]) (by kernel_rfl) (by kernel_rfl) (by kernel_rfl) (by kernel_rfl) (fun c a w h => hQ c _ _ _ w h) (Or.inl ⟨wanted_none rfl, fun w hw => by simp only [execOp, hs_6, f6_15]; rfl⟩) hS ?_
  change wpAnyH _ _ _ _ _ _ _ (a0_6.put (some 9) (.tuple #[.agg #[], .bool hv])) _
  obtain ⟨a0_7, ha7⟩ : ∃ rr : Act, rr = a0_6.put (some 9) (.tuple #[.agg #[], .bool hv]) := ⟨_, rfl⟩
  have qz7 : 17 < a0_7.tmps.size := by rw [ha7, sz_put]; exact qz6
  have f7_9 : a0_7.eval (.tmp 9) = .tuple #[.agg #[], .bool hv] := by rw [ha7]; exact ev_same _ _ _ (Nat.lt_of_le_of_lt (by decide) qz6)
  rw [← ha7] at h0 ⊢
  clear ha7
  refine wpAnyH_take (i := 7) (oi := hs_7 s) (v := .agg #[]) (by kernel_rfl) (by kernel_rfl) (by kernel_rfl) (by kernel_rfl) (fun c a w h => hQ c _ _ _ w h) (Or.inl ⟨wanted_none rfl, fun w hw => by simp only [execOp, hs_7, f7_9]; rfl⟩) hS ?_
  change wpAnyH _ _ _ _ _ _ _ (a0_7.put (some 16) (.agg #[])) _
  obtain ⟨a0_8, ha8⟩ : ∃ rr : Act, rr = a0_7.put (some 16) (.agg #[]) := ⟨_, rfl⟩
  have qz8 : 17 < a0_8.tmps.size := by rw [ha8, sz_put]; exact qz7
  have f8_9 : a0_8.eval (.tmp 9) = .tuple #[.agg #[], .bool hv] := by rw [ha8, ev_other _ _ _ _ (by decide)]; exact f7_9
  have f8_16 : a0_8.eval (.tmp 16) = .agg #[] := by rw [ha8]; exact ev_same _ _ _ (Nat.lt_of_le_of_lt (by decide) qz7)
  rw [← ha8] at h0 ⊢
  clear ha8
  refine wpAnyH_take (i := 8) (oi := hs_8 s) (v := .bool hv) (by kernel_rfl) (by kernel_rfl) (by kernel_rfl) (by kernel_rfl) (fun c a w h => hQ c _ _ _ w h) (Or.inl ⟨wanted_none rfl, fun w hw => by simp only [execOp, hs_8, f8_9]; rfl⟩) hS ?_
  change wpAnyH _ _ _ _ _ _ _ (a0_8.put (some 17) (.bool hv)) _
  obtain ⟨a0_9, ha9⟩ : ∃ rr : Act, rr = a0_8.put (some 17) (.bool hv) := ⟨_, rfl⟩
  have qz9 : 17 < a0_9.tmps.size := by rw [ha9, sz_put]; exact qz8
  have f9_16 : a0_9.eval (.tmp 16) = .agg #[] := by rw [ha9, ev_other _ _ _ _ (by decide)]; exact f8_16
  have f9_17 : a0_9.eval (.tmp 17) = .bool hv := by rw [ha9]; exact ev_same _ _ _ (Nat.lt_of_le_of_lt (by decide) qz8)
  rw [← ha9] at h0 ⊢
  clear ha9
  refine wpAnyH_ready (rs := [9]) (by kernel_rfl) (by simp) ?_
  refine AllReadyH.cons (o := hs_9 s) (by kernel_rfl) (fun KQ hKQ => ?_) AllReadyH.nil
  rw [if_pos (wanted_none rfl)]
  refine step_runE (.pointer (some ⟨W.heap.size, 0, none⟩)) (W.drew.alloc (.cells #[] 84)) (run_allocU rfl W.drew) ?_
  refine hKQ.out _ _ (g1) (fun _ => ?_)
  clear hKQ KQ
  change wpAnyH _ _ _ _ _ _ _ (a0_9.put (some 5) (.pointer (some ⟨W.heap.size, 0, none⟩))) _
  obtain ⟨a0_10, ha10⟩ : ∃ rr : Act, rr = a0_9.put (some 5) (.pointer (some ⟨W.heap.size, 0, none⟩)) := ⟨_, rfl⟩
  have qz10 : 17 < a0_10.tmps.size := by rw [ha10, sz_put]; exact qz9
  have f10_5 : a0_10.eval (.tmp 5) = .pointer (some ⟨W.heap.size, 0, none⟩) := by rw [ha10]; exact ev_same _ _ _ (Nat.lt_of_le_of_lt (by decide) qz9)
  have f10_16 : a0_10.eval (.tmp 16) = .agg #[] := by rw [ha10, ev_other _ _ _ _ (by decide)]; exact f9_16
  have f10_17 : a0_10.eval (.tmp 17) = .bool hv := by rw [ha10, ev_other _ _ _ _ (by decide)]; exact f9_17
  rw [← ha10] at h0 ⊢
  clear ha10
  refine wpAnyH_ready (rs := [10]) (by kernel_rfl) (by simp) ?_
  refine AllReadyH.cons (o := hs_10 s) (by kernel_rfl) (fun KQ hKQ => ?_) AllReadyH.nil
  rw [if_pos (wanted_none rfl)]
  refine step_skipE (W.drew.alloc (.cells #[] 84)) (run_storeU rfl f10_5 f10_16) ?_
  refine hKQ.out _ _ (g1) (fun _ => ?_)
  clear hKQ KQ
  change wpAnyH _ _ _ _ _ _ _ a0_10 _
  refine wpAnyH_take (i := 11) (oi := hs_11 s) (v := .bool hv) (by kernel_rfl) (by kernel_rfl) (by kernel_rfl) (by kernel_rfl) (fun c a w h => hQ c _ _ _ w h) (Or.inl ⟨wanted_none rfl, fun w hw => by simp only [execOp, hs_11, f10_17]; rfl⟩) g1 ?_
  change wpAnyH _ _ _ _ _ _ _ (a0_10.put (some 6) (.bool hv)) _
  obtain ⟨a0_12, ha12⟩ : ∃ rr : Act, rr = a0_10.put (some 6) (.bool hv) := ⟨_, rfl⟩
  have qz12 : 17 < a0_12.tmps.size := by rw [ha12, sz_put]; exact qz10
  rw [← ha12] at h0 ⊢
  clear ha12
  refine wpAnyH_done (by kernel_rfl) ?_ _
  exact h0
end Go.Proofs.Ytagnglkkmdeicaa

/- Sets: Has, Len, Add, NewSet. -/
namespace Go.Proofs.Ytagnglkkmdeicaa
set_option linter.unusedVariables false
set_option linter.unusedSimpArgs false
open Go.RowKit
open Go.Maps (Keyed)

theorem zeroU (w : World) : (zeroValue 84).run Try.prog w = .ok (.agg #[]) w := by kernel_rfl
/-- Block b is the map of a set of these keys. -/
def KSet (w : World) (b : Nat) (S : List (List UInt8)) : Prop := ∃ D : DataW Unit, w.ownsMap Try.prog 30 unitElem b S.length D ∧ (∀ k, k.length = 32 → Maps.has D (.string k) = decide (k ∈ S)) ∧ Maps.size D = S.length
theorem KSet.grown {w w' : World} {b : Nat} {S : List (List UInt8)} {row : Option Nat} (h : KSet w b S) (hg : w.grownBy w' row) (hne : some b ≠ row) : KSet w' b S := by
  obtain ⟨D, h1, h2⟩ := h
  exact ⟨D, h1.kept hg hne, h2⟩
theorem KSet.below {w w' : World} {b : Nat} {S : List (List UInt8)} (h : KSet w b S) (hb : Below w.heap.size w w') : KSet w' b S := h.grown (row := none) (grownBy_below hb) (by simp)
theorem KSet.lt {w : World} {b : Nat} {S : List (List UInt8)} (h : KSet w b S) : b < w.heap.size := by
  obtain ⟨D, h1, _⟩ := h
  exact h1.lt
theorem KSet.look {w : World} {b : Nat} {S : List (List UInt8)} (h : KSet w b S) (k : List UInt8) (hk : k.length = 32) : (Instr.lookup 81 (.map (some b)) (keyV k) true).run Try.prog w = .ok (.tuple #[.agg #[], .bool (decide (k ∈ S))]) w := by
  obtain ⟨D, h1, h2, _⟩ := h
  obtain ⟨v, ps, hr, hv⟩ := h1.look_ok keyedK undMap (zeroU w) unitElem_mk (keyOf_key k hk)
  obtain ⟨rfl, _⟩ := unitElem_inv hv
  rw [h2 k hk] at hr
  exact hr
theorem KSet.made (w : World) : KSet (w.alloc (.map #[] 0)) w.heap.size [] := ⟨.map [], World.ownsMap_made w _ _ _, fun k _ => by rfl, rfl⟩
theorem KSet.put {w : World} {b : Nat} {S : List (List UInt8)} (h : KSet w b S) (k : List UInt8) (hk : k.length = 32) (hn : k ∉ S) (hl : S.length < maxLen) (S' : List (List UInt8)) (hm : ∀ x, x ∈ S' ↔ x = k ∨ x ∈ S) (hs : S'.length = S.length + 1) :
    ∃ w', (Instr.mapUpdate 81 (.map (some b)) (keyV k) (.agg #[])).run Try.prog w = .ok () w' ∧ KSet w' b S' ∧ w.grownBy w' (some b) := by
  obtain ⟨D, h1, h2, h3⟩ := h
  obtain ⟨w', hr, ho, hg⟩ := h1.update keyedK undMap hl (keyOf_key k hk) unitElem_mk
  have hf : Maps.has D (.string k) = false := by rw [h2 k hk]; simpa using hn
  refine ⟨w', hr, ⟨_, by rw [hs]; exact ho, fun x hx => ?_, ?_⟩, hg⟩
  · by_cases e : x = k
    · subst e
      have hkl : WideAt.IsKeyLit (.string x) := trivial
      rw [Maps.has_put_same h1.isMap hkl]
      simp [(hm x).2 (.inl rfl)]
    · rw [Maps.has_put_other (fun e2 => e (Lit.string.inj e2)), h2 x hx]
      have : x ∈ S' ↔ x ∈ S := by rw [hm x]; simp [e]
      simp [this]
  · rw [Maps.size_put (h1.tidy keyedK), hf, h3, hs]; rfl
/-- A set in memory. -/
structure SetAt (w : World) (z b : Nat) (S : List (List UInt8)) : Prop where
  blk : Blk w z #[.map (some b)] 83
  set : KSet w b S
theorem SetAt.below {w w' : World} {z b : Nat} {S : List (List UInt8)} (h : SetAt w z b S) (hb : Below w.heap.size w w') : SetAt w' z b S := ⟨h.blk.below hb h.blk.lt, h.set.below hb⟩
theorem SetAt.grown {w w' : World} {z b : Nat} {S : List (List UInt8)} {row : Option Nat} (h : SetAt w z b S) (hg : w.grownBy w' row) (h1 : some z ≠ row) (h2 : some b ≠ row) : SetAt w' z b S := ⟨h.blk.grown hg h1, h.set.grown hg h2⟩
theorem SetAt.ne {w : World} {z b : Nat} {S : List (List UInt8)} (h : SetAt w z b S) : z ≠ b := by
  intro e
  obtain ⟨D, ⟨es, clock, hb, _⟩, _⟩ := h.set
  have := h.blk
  unfold Blk at this
  rw [e, hb] at this
  cases this
theorem SetAt.hasS {w : World} {z b zk : Nat} {S : List (List UInt8)} {k : List UInt8} (h : SetAt w z b S) (hk : KeyAt w zk k) : HasS z b zk k (decide (k ∈ S)) w := ⟨by rw [h.blk.cell]; rfl, hk, h.set.look k hk.2⟩
theorem below_d (W : World) : Below W.heap.size W W.drew := (Below.refl W.heap.size W).drew
theorem below_da (W : World) (o : Obj) : Below W.heap.size W (W.drew.alloc o) := (below_d W).alloc (Nat.le_refl _) _
set_option maxRecDepth 20000 in
set_option maxHeartbeats 1000000 in
theorem has_any (w : World) (z b : Nat) (S : List (List UInt8)) (k : List UInt8) (hk : k.length = 32) (h : SetAt w z b S) : Calls Try.prog 36 #[.pointer (some ⟨z, 0, none⟩), keyV k] w fun e w' => e = .returned (.bool (decide (k ∈ S))) ∧ Below w.heap.size w w' := by
  have hW : Below w.heap.size w (w.alloc (.cells (k.map u8c).toArray 30)) := (Below.refl _ _).alloc (Nat.le_refl _) _
  have hK : KeyAt (w.alloc (.cells (k.map u8c).toArray 30)) w.heap.size k := ⟨Blk.made w _ _, hk⟩
  have H1 := hide (((h.below hW).below (below_d _)).hasS (hK.below (below_d _)))
  have hW2 : Below (w.alloc (.cells (k.map u8c).toArray 30)).heap.size (w.alloc (.cells (k.map u8c).toArray 30)) ((w.alloc (.cells (k.map u8c).toArray 30)).drew.alloc (.cells #[] 84)) := below_da _ _
  have H2 := hide (((h.below hW).below hW2).hasS (hK.below hW2))
  have HB := hide (hW.trans (hW2.mono hW.size))
  obtain ⟨v, hv⟩ : ∃ v, v = decide (k ∈ S) := ⟨_, rfl⟩
  rw [← hv] at H1 H2 ⊢
  clear hW hK hW2 hv
  show Calls Try.prog 36 #[.pointer (some ⟨z, 0, none⟩), .agg (k.map u8c).toArray] w _
  go_enter Try.func36, Try.ntmps36
  go_wp2
  refine hs_walk _ (fun _ _ _ _ _ h => h) _ z b w.heap.size k v H1.out H2.out _ (Nat.lt_of_sub_pos (by exact Nat.succ_pos _)) rfl rfl ?_
  go_wp2
  go_ret
  exact ⟨rfl, HB.out⟩
set_option maxRecDepth 20000 in
theorem has_nil (w : World) (k : List UInt8) : Calls Try.prog 36 #[.pointer none, keyV k] w fun e w' => e = .returned (.bool false) ∧ Below w.heap.size w w' := by
  have HB := hide (show Below w.heap.size w (w.alloc (.cells (k.map u8c).toArray 30)) from (Below.refl _ _).alloc (Nat.le_refl _) _)
  show Calls Try.prog 36 #[.pointer none, .agg (k.map u8c).toArray] w _
  go_enter Try.func36, Try.ntmps36
  go_wp2
  go_ret
  exact ⟨rfl, HB.out⟩
/-- A key is put into a rising list, at its place. -/
def insK (k : List UInt8) : List (List UInt8) → List (List UInt8)
  | [] => [k]
  | x :: r => if cmpK k x = -1 then k :: x :: r else x :: insK k r
theorem mem_insK (k : List UInt8) : ∀ (S : List (List UInt8)) (x : List UInt8), x ∈ insK k S ↔ x = k ∨ x ∈ S
  | [], x => by simp [insK]
  | y :: r, x => by
    unfold insK
    split
    · simp
    · rw [List.mem_cons, mem_insK k r x, List.mem_cons]
      constructor
      · rintro (h | h | h)
        · exact .inr (.inl h)
        · exact .inl h
        · exact .inr (.inr h)
      · rintro (h | h | h)
        · exact .inr (.inl h)
        · exact .inl h
        · exact .inr (.inr h)
theorem len_insK (k : List UInt8) : ∀ S : List (List UInt8), (insK k S).length = S.length + 1
  | [] => rfl
  | y :: r => by
    unfold insK
    split
    · rfl
    · rw [List.length_cons, len_insK k r, List.length_cons]
/-- What Add leaves. -/
def addK (k : List UInt8) (S : List (List UInt8)) : List (List UInt8) := if k ∈ S then S else insK k S
theorem mem_addK (k : List UInt8) (S : List (List UInt8)) (x : List UInt8) : x ∈ addK k S ↔ x = k ∨ x ∈ S := by
  unfold addK
  split
  · rename_i h
    constructor
    · exact .inr
    · rintro (rfl | h2)
      · exact h
      · exact h2
  · exact mem_insK k S x
theorem wpStill_val {P : Program} {ops : Array Oper} {w : World} {Q : Act → Prop} {a : Act} {o : Oper} {rest : List Oper} (v : Value) (hg : Region.wanted o (yielded ops a.tmps) = true) (hr : (execOp a.eval o).run P w = .ok (.value v) w) (h : wpStill P ops w Q rest (a.put o.dst v)) : wpStill P ops w Q (o :: rest) a := by
  unfold wpStill
  rw [if_pos hg]
  unfold Oper.still
  rw [hr]
  first | exact h | exact ⟨rfl, h⟩ | simp [Oper.stillUpon, h]
theorem mapNe (b : Nat) (w : World) : (binOp .eql 81 (.map (some b)) (.map none)).run Try.prog w = .ok (.bool false) w := by kernel_rfl
theorem mapGd (b : Nat) (x y : Operand) (w : World) : (eqGuard .eql 81 x y (.map (some b)) (.map none)).run Try.prog w = .ok () w := by kernel_rfl
set_option maxRecDepth 20000 in
set_option maxHeartbeats 1000000 in
theorem add_any (w : World) (z b : Nat) (S : List (List UInt8)) (k : List UInt8) (hk : k.length = 32) (h : SetAt w z b S) (hl : S.length < maxLen) : Calls Try.prog 32 #[.pointer (some ⟨z, 0, none⟩), keyV k] w fun e w' => e = .returned (.bool (!decide (k ∈ S))) ∧ SetAt w' z b (addK k S) ∧ w.grownBy w' (some b) := by
  have HH := hide h
  have hb0 : Below w.heap.size w (w.alloc (.cells (k.map u8c).toArray 30)) := (Below.refl _ _).alloc (Nat.le_refl _) _
  have H1 := hide (h.below hb0)
  have HK1 : Hid (KeyAt (w.alloc (.cells (k.map u8c).toArray 30)) w.heap.size k) := hide ⟨Blk.made w _ _, hk⟩
  have HC := hide (has_any _ z b S k hk H1.out)
  have HB0 := hide hb0
  have c0 : (w.alloc (.cells (k.map u8c).toArray 30)).cell? ⟨z, 0, none⟩ = some (.map (some b)) := by rw [H1.out.blk.cell]; rfl
  have hmn := mapNe b
  have hmg := mapGd b
  clear h hb0
  show Calls Try.prog 32 #[.pointer (some ⟨z, 0, none⟩), .agg (k.map u8c).toArray] w _
  by_cases hm : k ∈ S
  · have hd : decide (k ∈ S) = true := by simpa using hm
    rw [hd] at HC ⊢
    have HA : Hid (addK k S = S) := hide (by unfold addK; rw [if_pos hm])
    go_enter Try.func32, Try.ntmps32
    go_wp2_with ((with_reducible refine wpList_key (.tmp 3) w.heap.size k HK1.out ?_ ?_ ?_ ?_); rfl; rfl; rfl)
    refine HC.out.mono ?_
    rintro e w1 ⟨rfl, hb1⟩
    go_wp2
    go_ret
    refine ⟨rfl, ?_, ?_⟩
    · rw [HA.out]; exact H1.out.below hb1
    · have := HB0.out.trans (hb1.mono HB0.out.size)
      exact ⟨this.os, this.tape, this.output, this.size, fun i hi _ => this.block i hi⟩
  · have hd : decide (k ∈ S) = false := by simpa using hm
    rw [hd] at HC ⊢
    have HA : Hid (addK k S = insK k S) := hide (by unfold addK; rw [if_neg hm])
    go_enter Try.func32, Try.ntmps32
    go_wp2_with ((with_reducible refine wpList_key (.tmp 3) w.heap.size k HK1.out ?_ ?_ ?_ ?_); rfl; rfl; rfl)
    refine HC.out.mono ?_
    rintro e w1 ⟨rfl, hb1⟩
    have HK2 := hide (HK1.out.below hb1)
    have H2 := hide (H1.out.below hb1)
    have c1 : w1.cell? ⟨z, 0, none⟩ = some (.map (some b)) := by rw [H2.out.blk.cell]; rfl
    have HW := hide (HB0.out.trans (hb1.mono HB0.out.size))
    have hbd := below_d w1
    obtain ⟨w2, hr, hS2, hg2⟩ := ((H2.out.below hbd).set).put k hk hm hl (insK k S) (mem_insK k S) (len_insK k S)
    have HLK : Hid ((Instr.loadAt 30 (.pointer (some ⟨w.heap.size, 0, none⟩))).run Try.prog w1.drew = .ok (keyV k) w1.drew) := hide (HK2.out.below hbd).load
    have hrun := hr
    have hlk := HLK.out
    clear HC
    go_wp2
    refine wp_region_still_tail 6 (by kernel_rfl) (by kernel_rfl) ?_
    simp only [List.take_succ_cons, List.take_zero, List.drop_succ_cons, List.drop_zero]
    still_step
    still_step
    still_step
    still_step
    refine wpStill_val (keyV k) rfl (run_load rfl rfl HLK.out) ?_
    still_step
    refine wpStill_nil ?_
    go_wp2
    go_ret
    have hz := H2.out.ne
    refine ⟨rfl, ?_, ?_⟩
    · rw [HA.out]; exact ⟨(H2.out.below hbd).blk.grown hg2 (fun e => hz (Option.some.inj e)), hS2⟩
    · have hb := HW.out.trans (hbd.mono HW.out.size)
      exact grownBy_trans ⟨hb.os, hb.tape, hb.output, hb.size, fun i hi _ => hb.block i hi⟩ hg2
set_option maxRecDepth 20000 in
theorem add_nil (w : World) (k : List UInt8) : Calls Try.prog 32 #[.pointer none, keyV k] w fun e w' => e = .returned (.bool false) ∧ Below w.heap.size w w' := by
  have HB := hide (show Below w.heap.size w (w.alloc (.cells (k.map u8c).toArray 30)) from (Below.refl _ _).alloc (Nat.le_refl _) _)
  show Calls Try.prog 32 #[.pointer none, .agg (k.map u8c).toArray] w _
  go_enter Try.func32, Try.ntmps32
  go_wp2
  go_ret
  exact ⟨rfl, HB.out⟩
end Go.Proofs.Ytagnglkkmdeicaa

/- NewSet. -/
namespace Go.Proofs.Ytagnglkkmdeicaa
set_option linter.unusedVariables false
set_option linter.unusedSimpArgs false
open Go.RowKit

/-- A row of keys. -/
structure KRow (w : World) (ao : Option Addr) (ks : List (List UInt8)) : Prop where
  at' : ∀ i (h : i < ks.length), ∃ g o, ao = some ⟨g, o, none⟩ ∧ w.rangeAt g (o + i * 32) (ks[i].map u8c)
  len : ∀ k ∈ ks, k.length = 32
theorem rangeAt_belowK {w w' : World} {b o : Nat} {l : List Value} (h : w.rangeAt b o l) (hb : Below w.heap.size w w') : w'.rangeAt b o l := fun j v hj => by
  have := h j v hj
  rw [hb.cell (World.block_lt_of_cell? w _ this)]; exact this
theorem KRow.below {w w' : World} {ao : Option Addr} {ks : List (List UInt8)} (h : KRow w ao ks) (hb : Below w.heap.size w w') : KRow w' ao ks :=
  ⟨fun i hi => by obtain ⟨g, o, e, hr⟩ := h.at' i hi; exact ⟨g, o, e, rangeAt_belowK hr hb⟩, h.len⟩
def addAll (ks : List (List UInt8)) : List (List UInt8) := ks.foldl (fun S k => addK k S) []
theorem addAll_succ (ks : List (List UInt8)) (i : Nat) (h : i < ks.length) : addAll (ks.take (i + 1)) = addK ks[i] (addAll (ks.take i)) := by
  unfold addAll
  rw [List.take_succ_eq_append_getElem h, List.foldl_append]; rfl
theorem addK_len (k : List UInt8) (S : List (List UInt8)) : (addK k S).length ≤ S.length + 1 := by
  unfold addK
  split
  · omega
  · rw [len_insK]; omega
theorem addAll_len (ks : List (List UInt8)) : ∀ i, i ≤ ks.length → (addAll (ks.take i)).length ≤ i
  | 0, _ => by simp [addAll]
  | i + 1, h => by
    rw [addAll_succ ks i (by omega)]
    have := addK_len ks[i] (addAll (ks.take i))
    have := addAll_len ks i (by omega)
    omega
/-- A new set. -/
def NewC (w : World) (S : List (List UInt8)) (e : Ending) (w' : World) : Prop := ∃ z b, e = .returned (.pointer (some ⟨z, 0, none⟩)) ∧ w.heap.size ≤ z ∧ w.heap.size ≤ b ∧ SetAt w' z b S ∧ Below w.heap.size w w'
set_option maxRecDepth 20000 in
set_option maxHeartbeats 1000000 in
theorem newSet_any (w : World) (ao : Option Addr) (n c : Nat) (ks : List (List UInt8)) (hn : n = ks.length) (hr : KRow w ao ks) (hl : n ≤ 4611686018427387904) : Calls Try.prog 30 #[.slice ao n c] w (NewC w (addAll ks)) := by
  have hmm := @run_makeMap Try.prog
  have HR := hide hr
  have HN := hide hn
  clear hr hn
  go_enter Try.func30, Try.ntmps30
  go_wp2
  have HS0 : Hid (SetAt ((w.alloc (.map #[] 0)).alloc (.cells #[.map (some w.heap.size)] 83)) (w.heap.size + 1) w.heap.size []) := hide ⟨blk_made1 w _ _ _ _, (KSet.made w).below ((Below.refl _ _).alloc (Nat.le_refl _) _)⟩
  have HB0 : Hid (Below w.heap.size w ((w.alloc (.map #[] 0)).alloc (.cells #[.map (some w.heap.size)] 83))) := hide (((Below.refl _ _).alloc (Nat.le_refl _) _).alloc (by simp) _)
  go_loopw [11] (fun t wr => ∃ i : Nat, t = .int .i64 i ∧ i ≤ n ∧ SetAt wr (w.heap.size + 1) w.heap.size (addAll (ks.take i)) ∧ Below w.heap.size w wr) (fun t _ => n - (intOf t).toNat)
  case atStart => exact ⟨0, rfl, by omega, HS0.out, HB0.out⟩
  case round =>
    clear HS0 HB0
    obtain ⟨i, rfl, hi, hS, hB⟩ := hrel
    by_cases hlt : i < n
    · have hik : i < ks.length := by rw [← HN.out]; exact hlt
      obtain ⟨g, o, rfl, hra⟩ := (HR.out.below hB).at' i hik
      obtain ⟨k, hk⟩ : ∃ k, k = ks[i] := ⟨_, rfl⟩
      have hkl : k.length = 32 := by rw [hk]; exact HR.out.len _ (List.getElem_mem _)
      rw [← hk] at hra
      have HRA := hide hra
      have HKL := hide hkl
      have HSU := hide (addAll_succ ks i hik)
      rw [← hk] at HSU
      have hzk := zero_key
      have HS := hide hS
      have HLN : Hid ((addAll (ks.take i)).length < maxLen) := hide (by have := addAll_len ks i (by omega); unfold maxLen; omega)
      clear hra hkl hk hS hik
      go_wp2_with (first | ((with_reducible refine wpList_load_keyAt (.tmp 13) g (o + i * 32) k HKL.out HRA.out ?_ ?_ ?_ ?_); rfl; rfl; rfl) | ((with_reducible refine wpList_put_key ?_ (.tmp 5) (.tmp 14) ?_ wr.heap.size ?_ wr ?_ ?_ k HKL.out ?_ ?_); rfl; rfl; rfl; rfl; rfl; rfl; intro w1 HK1 hb1) | ((with_reducible refine wpList_key (.tmp 5) wr.heap.size k HK1.out ?_ ?_ ?_ ?_); rfl; rfl; rfl))
      have HS1 := hide (HS.out.below hb1)
      refine (add_any w1 _ _ _ k HKL.out HS1.out HLN.out).mono ?_
      rintro e w2 ⟨rfl, hS2, hg2⟩
      rw [← HSU.out] at hS2
      have HS2 := hide hS2
      have HB2 := hide ((hB.trans (hb1.mono hB.size)).trans (below_grownBy hg2 (Nat.le_refl _) (hB.trans (hb1.mono hB.size)).size))
      clear hS2 hg2 HS1 HS HRA HK1 hb1
      go_wp2
      exact ⟨⟨i + 1, by go_num, by omega, HS2.out, HB2.out⟩, by simp [intOf]; omega⟩
    · have hn2 : ¬ (i : Int) < n := by omega
      have HS : Hid (SetAt wr (w.heap.size + 1) w.heap.size (addAll ks)) := hide (by rw [List.take_of_length_le (by rw [← HN.out]; omega)] at hS; exact hS)
      clear hS
      go_wp2
      go_ret
      exact ⟨w.heap.size + 1, w.heap.size, rfl, by omega, Nat.le_refl _, HS.out, hB⟩
end Go.Proofs.Ytagnglkkmdeicaa
