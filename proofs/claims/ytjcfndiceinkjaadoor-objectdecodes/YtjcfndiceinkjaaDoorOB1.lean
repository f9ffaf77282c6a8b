/- Parts, items and keys held against one another; a row of them in memory. -/
import Derived.Test.YtjcfndiceinkjaaDoorOB0
namespace Go.Proofs.YtjcfndiceinkjaaDoor
set_option linter.unusedVariables false
set_option linter.unusedSimpArgs false
open Go.RowKit

theorem run_eqF_cons {d : Nat} {xs ys : Array Value} {t : TypeId} {o : Nat} {fs : List (Bool × TypeId × Nat)} {a b : Value} {r : Bool} {w : World} {q : Bool}
    (ha : (part t xs o).run Tryd.prog w = .ok a w) (hb : (part t ys o).run Tryd.prog w = .ok b w) (hr : (Op.equalIn d t a b).run Tryd.prog w = .ok r w) (hq : (eqF d xs ys fs).run Tryd.prog w = .ok q w) :
    (eqF d xs ys ((true, t, o) :: fs)).run Tryd.prog w = .ok (r && q) w := by
  simp only [eqF, if_true, Sem.run_bind, ha, hb, hr, Result.andThen_ok]
  cases r
  · simp
  · simpa using hq
theorem run_eqF_nil {d : Nat} {xs ys : Array Value} {w : World} : (eqF d xs ys []).run Tryd.prog w = .ok true w := by simp [eqF]
theorem strBeq (a b : List UInt8) : ((⟨a.toArray⟩ : ByteArray).toList == (⟨b.toArray⟩ : ByteArray).toList) = (a == b) := by
  rw [ByteArray.toList_eq, ByteArray.toList_eq]
set_option maxRecDepth 20000 in
theorem partEq (p q : PartR) (hp : okP p) (hq : okP q) (w : World) : (Op.equalIn 10000 47 (.agg (partC p).toArray) (.agg (partC q).toArray)).run Tryd.prog w = .ok (decide (p = q)) w := by
  unfold okP at hp hq
  rw [run_equalIn_struct w 9999 47 _ _ (by kernel_rfl) (by kernel_rfl), eqFields_eq, fieldsP]
  have ka : ∀ (p : PartR), p.1.length = 32 → (((partC p).toArray.toList.drop 0).take 32) = p.1.map u8c := fun p hp => by
    unfold partC
    rw [List.drop_zero, List.take_append_of_le_length (by simp [hp]), List.take_of_length_le (by simp [hp])]
  have sa : ∀ (p : PartR), p.1.length = 32 → (partC p).toArray[32]? = some (.int .u64 (p.2 : Int)) := fun p hp => by
    unfold partC
    rw [List.getElem?_toArray, List.getElem?_append_right (by simp [hp])]; simp [hp]
  rw [run_eqF_cons (run_partK hp (ka p hp) w) (run_partK hq (ka q hq) w) (equalKs p.1 q.1 hp hq 9997 w) (run_eqF_cons (run_part1 (by kernel_rfl) (sa p hp) w) (run_part1 (by kernel_rfl) (sa q hq) w) (run_equalIn_int w 9998 45 .u64 _ _ _ Tryd.underlying45) run_eqF_nil)]
  congr 1
  obtain ⟨k1, s1⟩ := p
  obtain ⟨k2, s2⟩ := q
  rw [Bool.eq_iff_iff]
  simp
  omega
set_option maxRecDepth 20000 in
theorem itemEq (p q : ItemR) (hp : okI p) (hq : okI q) (w : World) : (Op.equalIn 10000 50 (.agg (itemC p).toArray) (.agg (itemC q).toArray)).run Tryd.prog w = .ok (decide (p = q)) w := by
  unfold okI at hp hq
  rw [run_equalIn_struct w 9999 50 _ _ (by kernel_rfl) (by kernel_rfl), eqFields_eq, fieldsI]
  have ka : ∀ (p : ItemR), p.2.2.2.length = 32 → (((itemC p).toArray.toList.drop 3).take 32) = p.2.2.2.map u8c := fun p hp => by
    unfold itemC
    show (p.2.2.2.map u8c).take 32 = _
    rw [List.take_of_length_le (by simp [hp])]
  rw [run_eqF_cons (a := .string ⟨p.1.toArray⟩) (b := .string ⟨q.1.toArray⟩) (run_part1 (by kernel_rfl) rfl w) (run_part1 (by kernel_rfl) rfl w) (run_equalIn_string w 9998 9 _ _ Tryd.underlying9)
    (run_eqF_cons (a := .int .u8 (p.2.1 : Int)) (b := .int .u8 (q.2.1 : Int)) (run_part1 (by kernel_rfl) rfl w) (run_part1 (by kernel_rfl) rfl w) (run_equalIn_int w 9998 48 .u8 _ _ _ Tryd.underlying48)
    (run_eqF_cons (a := .int .u64 (p.2.2.1 : Int)) (b := .int .u64 (q.2.2.1 : Int)) (run_part1 (by kernel_rfl) rfl w) (run_part1 (by kernel_rfl) rfl w) (run_equalIn_int w 9998 45 .u64 _ _ _ Tryd.underlying45)
    (run_eqF_cons (run_partK hp (ka p hp) w) (run_partK hq (ka q hq) w) (equalKs p.2.2.2 q.2.2.2 hp hq 9997 w) run_eqF_nil)))]
  congr 1
  rw [strBeq]
  obtain ⟨n1, m1, s1, k1⟩ := p
  obtain ⟨n2, m2, s2, k2⟩ := q
  rw [Bool.eq_iff_iff]
  simp only [Bool.and_eq_true, beq_iff_eq, decide_eq_true_eq, Prod.mk.injEq, and_true, Int.ofNat_inj]
theorem guardP : Tryd.prog.eqGuardType Tryd.prog.depth 47 = false := by kernel_rfl
theorem guardI : Tryd.prog.eqGuardType Tryd.prog.depth 50 = false := by kernel_rfl
def partV (p : PartR) : Value := .agg (partC p).toArray
def itemV (i : ItemR) : Value := .agg (itemC i).toArray
theorem partGuard (op : BinOp) (p q : PartR) (x y : Operand) (w : World) : (eqGuard op 47 x y (partV p) (partV q)).run Tryd.prog w = .ok () w := run_eqGuard_agg (P := Tryd.prog) w op 47 x y _ _ guardP
theorem itemGuard (op : BinOp) (p q : ItemR) (x y : Operand) (w : World) : (eqGuard op 50 x y (itemV p) (itemV q)).run Tryd.prog w = .ok () w := run_eqGuard_agg (P := Tryd.prog) w op 50 x y _ _ guardI
theorem keysGuard (op : BinOp) (a b : List UInt8) (x y : Operand) (w : World) : (eqGuard op 27 x y (keyV a) (keyV b)).run Tryd.prog w = .ok () w := run_eqGuard_agg (P := Tryd.prog) w op 27 x y _ _ guardKey
theorem partNeq (p q : PartR) (hp : okP p) (hq : okP q) (w : World) : (binOp .neq 47 (partV p) (partV q)).run Tryd.prog w = .ok (.bool (!decide (p = q))) w := by
  unfold partV; rw [run_neq_struct, partEq p q hp hq]; rfl
theorem itemNeq (p q : ItemR) (hp : okI p) (hq : okI q) (w : World) : (binOp .neq 50 (itemV p) (itemV q)).run Tryd.prog w = .ok (.bool (!decide (p = q))) w := by
  unfold itemV; rw [run_neq_struct, itemEq p q hp hq]; rfl
theorem keysNeq (a b : List UInt8) (ha : okK a) (hb : okK b) (w : World) : (binOp .neq 27 (keyV a) (keyV b)).run Tryd.prog w = .ok (.bool (!decide (a = b))) w := by
  unfold keyV; rw [run_neq_struct]
  have := equalKs a b ha hb 9998 w
  unfold keyV at this
  rw [this, show (a == b) = decide (a = b) by rw [Bool.eq_iff_iff]; simp]; rfl
theorem keysEql (a b : List UInt8) (ha : okK a) (hb : okK b) (w : World) : (binOp .eql 27 (keyV a) (keyV b)).run Tryd.prog w = .ok (.bool (decide (a = b))) w := by
  unfold keyV; rw [run_eql_struct]
  have := equalKs a b ha hb 9998 w
  unfold keyV at this
  rw [this, show (a == b) = decide (a = b) by rw [Bool.eq_iff_iff]; simp]; rfl
theorem partEql (p q : PartR) (hp : okP p) (hq : okP q) (w : World) : (binOp .eql 47 (partV p) (partV q)).run Tryd.prog w = .ok (.bool (decide (p = q))) w := by
  unfold partV; rw [run_eql_struct, partEq p q hp hq]; rfl
theorem itemEql (p q : ItemR) (hp : okI p) (hq : okI q) (w : World) : (binOp .eql 50 (itemV p) (itemV q)).run Tryd.prog w = .ok (.bool (decide (p = q))) w := by
  unfold itemV; rw [run_eql_struct, itemEq p q hp hq]; rfl

/-- A row of elements of k cells each, wherever it lies. -/
def RowR (w : World) (v : Value) (k : Nat) (L : List (List Value)) : Prop :=
  ∃ ao c, v = .slice ao L.length c ∧ L.length ≤ 9223372036854775807 ∧ (ao = none → c = 0) ∧ (L = [] ∨ ∃ b o, ao = some ⟨b, o, none⟩ ∧ ∀ i (h : i < L.length), w.rangeAt b (o + i * k) L[i])
theorem RowR.slice {w : World} {v : Value} {k : Nat} {L : List (List Value)} (h : RowR w v k L) : ∃ ao c, v = .slice ao L.length c ∧ L.length ≤ 9223372036854775807 := by
  obtain ⟨ao, c, h1, h2, _⟩ := h
  exact ⟨ao, c, h1, h2⟩
theorem RowR.at {w : World} {v : Value} {k : Nat} {L : List (List Value)} (h : RowR w v k L) (i : Nat) (hi : i < L.length) : ∃ b o c, v = .slice (some ⟨b, o, none⟩) L.length c ∧ w.rangeAt b (o + i * k) L[i] := by
  obtain ⟨ao, c, h1, _, _, h | ⟨b, o, rfl, h3⟩⟩ := h
  · subst h; simp at hi
  · exact ⟨b, o, c, h1, h3 i hi⟩
theorem rangeAt_block {w : World} {b o : Nat} {l : List Value} (h : w.rangeAt b o l) (hl : 0 < l.length) : b < w.heap.size := by
  have := h 0 l[0] (List.getElem?_eq_getElem hl)
  exact World.block_lt_of_cell? w _ this
theorem rangeAt_below {w w' : World} {b o : Nat} {l : List Value} (h : w.rangeAt b o l) (hb : Below w.heap.size w w') : w'.rangeAt b o l := fun j v hj => by
  have := h j v hj
  rw [hb.cell (World.block_lt_of_cell? w _ this)]; exact this
theorem RowR.below {w w' : World} {v : Value} {k : Nat} {L : List (List Value)} (h : RowR w v k L) (hb : Below w.heap.size w w') : RowR w' v k L := by
  obtain ⟨ao, c, h1, h2, hc, h | ⟨b, o, h3, h4⟩⟩ := h
  · exact ⟨ao, c, h1, h2, hc, .inl h⟩
  · exact ⟨ao, c, h1, h2, hc, .inr ⟨b, o, h3, fun i hi => rangeAt_below (h4 i hi) hb⟩⟩
theorem infoPart : (Tryd.prog.info? 47).map (·.size) = some 33 := by kernel_rfl
theorem infoItem : (Tryd.prog.info? 50).map (·.size) = some 35 := by kernel_rfl
set_option maxRecDepth 20000 in
theorem loadAt_key {w : World} {z o : Nat} {bs : List UInt8} (hl : okK bs) (hc : w.rangeAt z o (keyC bs)) : (Instr.loadAt 27 (.pointer (some ⟨z, o, none⟩))).run Tryd.prog w = .ok (keyV bs) w := by
  have := run_loadVar_mid (P := Tryd.prog) w z o 27 (keyC bs) _ hc Tryd.underlying27 rfl (by rw [keyC_len bs hl]; exact infoKey)
  simp only [Instr.loadAt, Instr.sureAddr, Sem.run_bind, Sem.run_pure, Result.andThen_ok]
  exact this
set_option maxRecDepth 20000 in
theorem loadAt_part {w : World} {z o : Nat} {p : PartR} (hl : okP p) (hc : w.rangeAt z o (partC p)) : (Instr.loadAt 47 (.pointer (some ⟨z, o, none⟩))).run Tryd.prog w = .ok (partV p) w := by
  have := run_loadVar_mid (P := Tryd.prog) w z o 47 (partC p) _ hc Tryd.underlying47 rfl (by rw [partC_len p hl]; exact infoPart)
  simp only [Instr.loadAt, Instr.sureAddr, Sem.run_bind, Sem.run_pure, Result.andThen_ok]
  exact this
set_option maxRecDepth 20000 in
theorem loadAt_item {w : World} {z o : Nat} {p : ItemR} (hl : okI p) (hc : w.rangeAt z o (itemC p)) : (Instr.loadAt 50 (.pointer (some ⟨z, o, none⟩))).run Tryd.prog w = .ok (itemV p) w := by
  have := run_loadVar_mid (P := Tryd.prog) w z o 50 (itemC p) _ hc Tryd.underlying50 rfl (by rw [itemC_len p hl]; exact infoItem)
  simp only [Instr.loadAt, Instr.sureAddr, Sem.run_bind, Sem.run_pure, Result.andThen_ok]
  exact this
end Go.Proofs.YtjcfndiceinkjaaDoor
