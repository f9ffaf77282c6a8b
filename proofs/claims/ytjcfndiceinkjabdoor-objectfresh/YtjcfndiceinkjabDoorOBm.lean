/- Parts and items: as cells, and held against one another. -/
import Derived.Test.YtjcfndiceinkjabDoorKD0
import Derived.Laws.StructEq
import Derived.StillTailTactics
namespace Go.Proofs.YtjcfndiceinkjabDoor
set_option linter.unusedVariables false
set_option linter.unusedSimpArgs false
open Go.RowKit

/-- A part: its key, its size. -/
abbrev PartR := List UInt8 × Nat
/-- An item: its name, its mode, its size, its key. -/
abbrev ItemR := List UInt8 × Nat × Nat × List UInt8
def partC (p : PartR) : List Value := p.1.map u8c ++ [.int .u64 (p.2 : Int)]
def itemC (i : ItemR) : List Value := .string ⟨i.1.toArray⟩ :: .int .u8 (i.2.1 : Int) :: .int .u64 (i.2.2.1 : Int) :: i.2.2.2.map u8c
def keyC (k : List UInt8) : List Value := k.map u8c
def okP (p : PartR) : Prop := p.1.length = 32
def okI (i : ItemR) : Prop := i.2.2.2.length = 32
def okK (k : List UInt8) : Prop := k.length = 32
theorem partC_len (p : PartR) (h : okP p) : (partC p).length = 33 := by unfold okP at h; simp [partC, h]
theorem itemC_len (i : ItemR) (h : okI i) : (itemC i).length = 35 := by unfold okI at h; simp [itemC, h]
theorem keyC_len (k : List UInt8) (h : okK k) : (keyC k).length = 32 := by unfold okK at h; simp [keyC, h]
theorem partC_one (p : PartR) : ∀ v ∈ partC p, v.oneCell' = true := by
  intro v hv
  rcases List.mem_append.1 hv with h | h
  · exact u8c_one _ v h
  · obtain rfl := List.mem_singleton.1 h; rfl
theorem itemC_one (i : ItemR) : ∀ v ∈ itemC i, v.oneCell' = true := by
  intro v hv
  rcases List.mem_cons.1 hv with rfl | hv
  · rfl
  rcases List.mem_cons.1 hv with rfl | hv
  · rfl
  rcases List.mem_cons.1 hv with rfl | hv
  · rfl
  exact u8c_one _ v hv
theorem keyC_one (k : List UInt8) : ∀ v ∈ keyC k, v.oneCell' = true := u8c_one k

theorem fieldsP : (Tryd.prog.fieldsOf 49).toList.map (fun f => (decide (f.name ≠ "_"), f.type, f.offset)) = [(true, 27, 0), (true, 47, 32)] := by kernel_rfl
theorem fieldsI : (Tryd.prog.fieldsOf 52).toList.map (fun f => (decide (f.name ≠ "_"), f.type, f.offset)) = [(true, 9, 0), (true, 50, 1), (true, 47, 2), (true, 27, 3)] := by kernel_rfl
/-- Equality of fields, by their types and offsets alone. -/
def eqF (d : Nat) (xs ys : Array Value) : List (Bool × TypeId × Nat) → Sem Bool
  | [] => pure true
  | f :: fs =>
    if f.1 = true then do
      let a ← part f.2.1 xs f.2.2
      let b ← part f.2.1 ys f.2.2
      let r ← Op.equalIn d f.2.1 a b
      if (!r) = true then pure false else eqF d xs ys fs
    else eqF d xs ys fs
theorem eqFields_eq (d : Nat) (xs ys : Array Value) : ∀ fs : List Field, Op.eqFields d xs ys fs = eqF d xs ys (fs.map (fun f => (decide (f.name ≠ "_"), f.type, f.offset)))
  | [] => rfl
  | f :: fs => by
    simp only [Op.eqFields, eqF, List.map_cons, eqFields_eq d xs ys fs, decide_eq_true_eq]
theorem run_part1 {e : TypeId} (he : Tryd.prog.plainKey e = true) {xs : Array Value} {off : Nat} {v : Value} (hx : xs[off]? = some v) (w : World) : (part e xs off).run Tryd.prog w = .ok v w := run_part_plain w he hx
set_option maxRecDepth 20000 in
theorem run_partK {xs : Array Value} {off : Nat} {k : List UInt8} (hk : k.length = 32) (hx : (xs.toList.drop off).take 32 = k.map u8c) (w : World) : (part 27 xs off).run Tryd.prog w = .ok (keyV k) w := by
  have h1 := Tryd.isAgg27 w
  have h2 := Tryd.sizeOf27 w
  simp only [part, Sem.run_bind, h1, Result.andThen_ok, h2, if_true, Sem.run_pure]
  congr 1
  unfold keyV
  congr 1
  apply Array.ext'
  rw [Array.toList_extract, ← hx]
  simp [List.extract]
theorem equalKs (a b : List UInt8) (ha : a.length = 32) (hb : b.length = 32) (d : Nat) (w : World) : (Op.equalIn (d + 2) 27 (keyV a) (keyV b)).run Tryd.prog w = .ok (a == b) w :=
  run_equalIn_bytes (P := Tryd.prog) w d 27 5 32 Tryd.underlying27 Tryd.underlying5 szU8 a b ha hb
end Go.Proofs.YtjcfndiceinkjabDoor

/- Parts, items and keys held against one another; a row of them in memory. -/
namespace Go.Proofs.YtjcfndiceinkjabDoor
set_option linter.unusedVariables false
set_option linter.unusedSimpArgs false
open Go.RowKit

theorem run_eqF_cons {d : Nat} {xs ys : Array Value} {t : TypeId} {o : Nat} {fs : List (Bool × TypeId × Nat)} {a b : Value} {r : Bool} {w : World} {q : Bool}
    (ha : (part t xs o).run Tryd.prog w = .ok a w) (hb : (part t ys o).run Tryd.prog w = .ok b w) (hr : (Op.equalIn d t a b).run Tryd.prog w = .ok r w) (hq : (eqF d xs ys fs).run Tryd.prog w = .ok q w) :
    (eqF d xs ys ((true, t, o) :: fs)).run Tryd.prog w = .ok (r && q) w := by
  simp only [eqF, if_true, Sem.run_bind, ha, hb, hr, Result.andThen_ok]
  cases r
  · simp
  · simpa using hq
theorem run_eqF_nil {d : Nat} {xs ys : Array Value} {w : World} : (eqF d xs ys []).run Tryd.prog w = .ok true w := by simp [eqF]
theorem strBeq (a b : List UInt8) : ((⟨a.toArray⟩ : ByteArray).toList == (⟨b.toArray⟩ : ByteArray).toList) = (a == b) := by
  rw [ByteArray.toList_eq, ByteArray.toList_eq]
set_option maxRecDepth 20000 in
theorem partEq (p q : PartR) (hp : okP p) (hq : okP q) (w : World) : (Op.equalIn 10000 49 (.agg (partC p).toArray) (.agg (partC q).toArray)).run Tryd.prog w = .ok (decide (p = q)) w := by
  unfold okP at hp hq
  rw [run_equalIn_struct w 9999 49 _ _ (by kernel_rfl) (by kernel_rfl), eqFields_eq, fieldsP]
  have ka : ∀ (p : PartR), p.1.length = 32 → (((partC p).toArray.toList.drop 0).take 32) = p.1.map u8c := fun p hp => by
    unfold partC
    rw [List.drop_zero, List.take_append_of_le_length (by simp [hp]), List.take_of_length_le (by simp [hp])]
  have sa : ∀ (p : PartR), p.1.length = 32 → (partC p).toArray[32]? = some (.int .u64 (p.2 : Int)) := fun p hp => by
    unfold partC
    rw [List.getElem?_toArray, List.getElem?_append_right (by simp [hp])]; simp [hp]
  rw [run_eqF_cons (run_partK hp (ka p hp) w) (run_partK hq (ka q hq) w) (equalKs p.1 q.1 hp hq 9997 w) (run_eqF_cons (run_part1 (by kernel_rfl) (sa p hp) w) (run_part1 (by kernel_rfl) (sa q hq) w) (run_equalIn_int w 9998 47 .u64 _ _ _ Tryd.underlying47) run_eqF_nil)]
  congr 1
  obtain ⟨k1, s1⟩ := p
  obtain ⟨k2, s2⟩ := q
  rw [Bool.eq_iff_iff]
  simp
  omega
set_option maxRecDepth 20000 in
theorem itemEq (p q : ItemR) (hp : okI p) (hq : okI q) (w : World) : (Op.equalIn 10000 52 (.agg (itemC p).toArray) (.agg (itemC q).toArray)).run Tryd.prog w = .ok (decide (p = q)) w := by
  unfold okI at hp hq
  rw [run_equalIn_struct w 9999 52 _ _ (by kernel_rfl) (by kernel_rfl), eqFields_eq, fieldsI]
  have ka : ∀ (p : ItemR), p.2.2.2.length = 32 → (((itemC p).toArray.toList.drop 3).take 32) = p.2.2.2.map u8c := fun p hp => by
    unfold itemC
    show (p.2.2.2.map u8c).take 32 = _
    rw [List.take_of_length_le (by simp [hp])]
  rw [run_eqF_cons (a := .string ⟨p.1.toArray⟩) (b := .string ⟨q.1.toArray⟩) (run_part1 (by kernel_rfl) rfl w) (run_part1 (by kernel_rfl) rfl w) (run_equalIn_string w 9998 9 _ _ Tryd.underlying9)
    (run_eqF_cons (a := .int .u8 (p.2.1 : Int)) (b := .int .u8 (q.2.1 : Int)) (run_part1 (by kernel_rfl) rfl w) (run_part1 (by kernel_rfl) rfl w) (run_equalIn_int w 9998 50 .u8 _ _ _ Tryd.underlying50)
    (run_eqF_cons (a := .int .u64 (p.2.2.1 : Int)) (b := .int .u64 (q.2.2.1 : Int)) (run_part1 (by kernel_rfl) rfl w) (run_part1 (by kernel_rfl) rfl w) (run_equalIn_int w 9998 47 .u64 _ _ _ Tryd.underlying47)
    (run_eqF_cons (run_partK hp (ka p hp) w) (run_partK hq (ka q hq) w) (equalKs p.2.2.2 q.2.2.2 hp hq 9997 w) run_eqF_nil)))]
  congr 1
  rw [strBeq]
  obtain ⟨n1, m1, s1, k1⟩ := p
  obtain ⟨n2, m2, s2, k2⟩ := q
  rw [Bool.eq_iff_iff]
  simp only [Bool.and_eq_true, beq_iff_eq, decide_eq_true_eq, Prod.mk.injEq, and_true, Int.ofNat_inj]
theorem guardP : Tryd.prog.eqGuardType Tryd.prog.depth 49 = false := by kernel_rfl
theorem guardI : Tryd.prog.eqGuardType Tryd.prog.depth 52 = false := by kernel_rfl
def partV (p : PartR) : Value := .agg (partC p).toArray
def itemV (i : ItemR) : Value := .agg (itemC i).toArray
theorem partGuard (op : BinOp) (p q : PartR) (x y : Operand) (w : World) : (eqGuard op 49 x y (partV p) (partV q)).run Tryd.prog w = .ok () w := run_eqGuard_agg (P := Tryd.prog) w op 49 x y _ _ guardP
theorem itemGuard (op : BinOp) (p q : ItemR) (x y : Operand) (w : World) : (eqGuard op 52 x y (itemV p) (itemV q)).run Tryd.prog w = .ok () w := run_eqGuard_agg (P := Tryd.prog) w op 52 x y _ _ guardI
theorem keysGuard (op : BinOp) (a b : List UInt8) (x y : Operand) (w : World) : (eqGuard op 27 x y (keyV a) (keyV b)).run Tryd.prog w = .ok () w := run_eqGuard_agg (P := Tryd.prog) w op 27 x y _ _ guardKey
theorem partNeq (p q : PartR) (hp : okP p) (hq : okP q) (w : World) : (binOp .neq 49 (partV p) (partV q)).run Tryd.prog w = .ok (.bool (!decide (p = q))) w := by
  unfold partV; rw [run_neq_struct, partEq p q hp hq]; rfl
theorem itemNeq (p q : ItemR) (hp : okI p) (hq : okI q) (w : World) : (binOp .neq 52 (itemV p) (itemV q)).run Tryd.prog w = .ok (.bool (!decide (p = q))) w := by
  unfold itemV; rw [run_neq_struct, itemEq p q hp hq]; rfl
theorem keysNeq (a b : List UInt8) (ha : okK a) (hb : okK b) (w : World) : (binOp .neq 27 (keyV a) (keyV b)).run Tryd.prog w = .ok (.bool (!decide (a = b))) w := by
  unfold keyV; rw [run_neq_struct]
  have := equalKs a b ha hb 9998 w
  unfold keyV at this
  rw [this, show (a == b) = decide (a = b) by rw [Bool.eq_iff_iff]; simp]; rfl
theorem keysEql (a b : List UInt8) (ha : okK a) (hb : okK b) (w : World) : (binOp .eql 27 (keyV a) (keyV b)).run Tryd.prog w = .ok (.bool (decide (a = b))) w := by
  unfold keyV; rw [run_eql_struct]
  have := equalKs a b ha hb 9998 w
  unfold keyV at this
  rw [this, show (a == b) = decide (a = b) by rw [Bool.eq_iff_iff]; simp]; rfl
theorem partEql (p q : PartR) (hp : okP p) (hq : okP q) (w : World) : (binOp .eql 49 (partV p) (partV q)).run Tryd.prog w = .ok (.bool (decide (p = q))) w := by
  unfold partV; rw [run_eql_struct, partEq p q hp hq]; rfl
theorem itemEql (p q : ItemR) (hp : okI p) (hq : okI q) (w : World) : (binOp .eql 52 (itemV p) (itemV q)).run Tryd.prog w = .ok (.bool (decide (p = q))) w := by
  unfold itemV; rw [run_eql_struct, itemEq p q hp hq]; rfl

/-- A row of elements of k cells each, wherever it lies. -/
def RowR (w : World) (v : Value) (k : Nat) (L : List (List Value)) : Prop :=
  ∃ ao c, v = .slice ao L.length c ∧ L.length ≤ 9223372036854775807 ∧ (ao = none → c = 0) ∧ (L = [] ∨ ∃ b o, ao = some ⟨b, o, none⟩ ∧ ∀ i (h : i < L.length), w.rangeAt b (o + i * k) L[i])
theorem RowR.slice {w : World} {v : Value} {k : Nat} {L : List (List Value)} (h : RowR w v k L) : ∃ ao c, v = .slice ao L.length c ∧ L.length ≤ 9223372036854775807 := by
  obtain ⟨ao, c, h1, h2, _⟩ := h
  exact ⟨ao, c, h1, h2⟩
theorem RowR.at {w : World} {v : Value} {k : Nat} {L : List (List Value)} (h : RowR w v k L) (i : Nat) (hi : i < L.length) : ∃ b o c, v = .slice (some ⟨b, o, none⟩) L.length c ∧ w.rangeAt b (o + i * k) L[i] := by
  obtain ⟨ao, c, h1, _, _, h | ⟨b, o, rfl, h3⟩⟩ := h
  · subst h; simp at hi
  · exact ⟨b, o, c, h1, h3 i hi⟩
theorem rangeAt_block {w : World} {b o : Nat} {l : List Value} (h : w.rangeAt b o l) (hl : 0 < l.length) : b < w.heap.size := by
  have := h 0 l[0] (List.getElem?_eq_getElem hl)
  exact World.block_lt_of_cell? w _ this
theorem rangeAt_below {w w' : World} {b o : Nat} {l : List Value} (h : w.rangeAt b o l) (hb : Below w.heap.size w w') : w'.rangeAt b o l := fun j v hj => by
  have := h j v hj
  rw [hb.cell (World.block_lt_of_cell? w _ this)]; exact this
theorem RowR.below {w w' : World} {v : Value} {k : Nat} {L : List (List Value)} (h : RowR w v k L) (hb : Below w.heap.size w w') : RowR w' v k L := by
  obtain ⟨ao, c, h1, h2, hc, h | ⟨b, o, h3, h4⟩⟩ := h
  · exact ⟨ao, c, h1, h2, hc, .inl h⟩
  · exact ⟨ao, c, h1, h2, hc, .inr ⟨b, o, h3, fun i hi => rangeAt_below (h4 i hi) hb⟩⟩
theorem infoPart : (Tryd.prog.info? 49).map (·.size) = some 33 := by kernel_rfl
theorem infoItem : (Tryd.prog.info? 52).map (·.size) = some 35 := by kernel_rfl
set_option maxRecDepth 20000 in
theorem loadAt_key {w : World} {z o : Nat} {bs : List UInt8} (hl : okK bs) (hc : w.rangeAt z o (keyC bs)) : (Instr.loadAt 27 (.pointer (some ⟨z, o, none⟩))).run Tryd.prog w = .ok (keyV bs) w := by
  have := run_loadVar_mid (P := Tryd.prog) w z o 27 (keyC bs) _ hc Tryd.underlying27 rfl (by rw [keyC_len bs hl]; exact infoKey)
  simp only [Instr.loadAt, Instr.sureAddr, Sem.run_bind, Sem.run_pure, Result.andThen_ok]
  exact this
set_option maxRecDepth 20000 in
theorem loadAt_part {w : World} {z o : Nat} {p : PartR} (hl : okP p) (hc : w.rangeAt z o (partC p)) : (Instr.loadAt 49 (.pointer (some ⟨z, o, none⟩))).run Tryd.prog w = .ok (partV p) w := by
  have := run_loadVar_mid (P := Tryd.prog) w z o 49 (partC p) _ hc Tryd.underlying49 rfl (by rw [partC_len p hl]; exact infoPart)
  simp only [Instr.loadAt, Instr.sureAddr, Sem.run_bind, Sem.run_pure, Result.andThen_ok]
  exact this
set_option maxRecDepth 20000 in
theorem loadAt_item {w : World} {z o : Nat} {p : ItemR} (hl : okI p) (hc : w.rangeAt z o (itemC p)) : (Instr.loadAt 52 (.pointer (some ⟨z, o, none⟩))).run Tryd.prog w = .ok (itemV p) w := by
  have := run_loadVar_mid (P := Tryd.prog) w z o 52 (itemC p) _ hc Tryd.underlying52 rfl (by rw [itemC_len p hl]; exact infoItem)
  simp only [Instr.loadAt, Instr.sureAddr, Sem.run_bind, Sem.run_pure, Result.andThen_ok]
  exact this
end Go.Proofs.YtjcfndiceinkjabDoor

/- Rows held against one another. -/
namespace Go.Proofs.YtjcfndiceinkjabDoor
set_option linter.unusedVariables false
set_option linter.unusedSimpArgs false
open Go.RowKit

theorem wpStill_val {P : Program} {ops : Array Oper} {w : World} {Q : Act → Prop} {a : Act} {o : Oper} {rest : List Oper} (v : Value) (hg : Region.wanted o (yielded ops a.tmps) = true) (hr : (execOp a.eval o).run P w = .ok (.value v) w) (h : wpStill P ops w Q rest (a.put o.dst v)) : wpStill P ops w Q (o :: rest) a := by
  unfold wpStill
  rw [if_pos hg]
  unfold Oper.still
  rw [hr]
  first | exact h | exact ⟨rfl, h⟩ | simp [Oper.stillUpon, h]
set_option maxRecDepth 20000 in
set_option maxHeartbeats 1000000 in
theorem equalP (w : World) (v1 v2 : Value) (L1 L2 : List PartR) (o1 : ∀ p ∈ L1, okP p) (o2 : ∀ p ∈ L2, okP p) (h1 : RowR w v1 33 (L1.map partC)) (h2 : RowR w v2 33 (L2.map partC)) : Calls Tryd.prog 90 #[v1, v2] w fun e w' => e = .returned (.bool (decide (L1 = L2))) ∧ Below w.heap.size w w' := by
  have H1 := hide h1
  have H2 := hide h2
  obtain ⟨a1, c1, rfl, hl1⟩ := h1.slice
  obtain ⟨a2, c2, rfl, hl2⟩ := h2.slice
  rw [List.length_map] at hl1 hl2 H1 H2 ⊢
  rw [List.length_map]
  obtain ⟨n, hn⟩ : ∃ n, n = L1.length := ⟨_, rfl⟩
  obtain ⟨m, hm⟩ : ∃ m, m = L2.length := ⟨_, rfl⟩
  rw [← hn] at H1 hl1 ⊢
  rw [← hm] at H2 hl2 ⊢
  have HN := hide hn
  have HM := hide hm
  clear h1 h2 hn hm
  by_cases hnm : n = m
  · subst hnm
    go_enter Tryd.func90, Tryd.ntmps90
    go_wp2
    go_loopw [13] (fun t wr => ∃ k : Nat, t = .int .i64 k ∧ k ≤ n ∧ L1.take k = L2.take k ∧ Below w.heap.size w wr) (fun t _ => n - (intOf t).toNat)
    case atStart => exact ⟨0, rfl, by omega, rfl, Below.refl _ _⟩
    case round =>
      obtain ⟨k, rfl, hk, ht, hW⟩ := hrel
      have HT := hide ht
      clear ht
      by_cases hlt : k < n
      · have hki : (k : Int) < (n : Int) := by omega
        have k1 : k < L1.length := by rw [← HN.out]; exact hlt
        have k2 : k < L2.length := by rw [← HM.out]; exact hlt
        obtain ⟨b1, s1, d1, e1, r1⟩ := H1.out.at k (by rw [List.length_map]; exact k1)
        obtain ⟨b2, s2, d2, e2, r2⟩ := H2.out.at k (by rw [List.length_map]; exact k2)
        obtain ⟨rfl, -, -⟩ := (Value.slice.injEq ..).mp e1
        obtain ⟨rfl, -, -⟩ := (Value.slice.injEq ..).mp e2
        rw [List.getElem_map] at r1 r2
        obtain ⟨p, hp⟩ : ∃ p, p = L1[k] := ⟨_, rfl⟩
        obtain ⟨q, hq⟩ : ∃ q, q = L2[k] := ⟨_, rfl⟩
        have op : okP p := by rw [hp]; exact o1 _ (List.getElem_mem _)
        have oq : okP q := by rw [hq]; exact o2 _ (List.getElem_mem _)
        rw [← hp] at r1
        rw [← hq] at r2
        have R1 := hide (loadAt_part op (rangeAt_below r1 hW.drew))
        have R2 := hide (loadAt_part oq (rangeAt_below r2 hW.drew))
        have HP := hide hp
        have HQ := hide hq
        have hg := partGuard .neq p q
        have hne := partNeq p q op oq
        clear r1 r2 e1 e2 hp hq op oq
        by_cases hpq : p = q
        · have hd : decide (p = q) = true := decide_eq_true hpq
          have HT2 : Hid (L1.take (k + 1) = L2.take (k + 1)) := hide (by
            rw [List.take_succ_eq_append_getElem k1, List.take_succ_eq_append_getElem k2, HT.out, ← HP.out, ← HQ.out, hpq])
          rw [hd] at hne
          clear hpq hd
          go_wp2
          refine wp_region_still_lit (by kernel_rfl) (by kernel_rfl) ?_
          still_step
          still_step
          still_step
          refine wpStill_val (partV p) rfl (run_load rfl rfl R1.out) ?_
          still_step
          still_step
          still_step
          refine wpStill_val (partV q) rfl (run_load rfl rfl R2.out) ?_
          still_step
          refine wpStill_nil ?_
          go_wp2
          exact ⟨⟨k + 1, by go_num, by omega, HT2.out, hW.drew⟩, by simp [intOf]; omega⟩
        · have hd : decide (p = q) = false := decide_eq_false hpq
          have HE : Hid (decide (L1 = L2) = false) := hide (decide_eq_false (fun e => hpq (by rw [HP.out, HQ.out]; subst e; rfl)))
          rw [hd] at hne
          clear hpq hd
          go_wp2
          refine wp_region_still_lit (by kernel_rfl) (by kernel_rfl) ?_
          still_step
          still_step
          still_step
          refine wpStill_val (partV p) rfl (run_load rfl rfl R1.out) ?_
          still_step
          still_step
          still_step
          refine wpStill_val (partV q) rfl (run_load rfl rfl R2.out) ?_
          still_step
          refine wpStill_nil ?_
          go_wp2
          go_ret
          exact ⟨by rw [HE.out]; rfl, hW.drew⟩
      · have hki : ¬ (k : Int) < (n : Int) := by omega
        have HE : Hid (decide (L1 = L2) = true) := hide (decide_eq_true (by
          have := HT.out
          rwa [List.take_of_length_le (by rw [← HN.out]; omega), List.take_of_length_le (by rw [← HM.out]; omega)] at this))
        go_wp2
        go_ret
        exact ⟨by rw [HE.out]; rfl, hW⟩
  · have hne : ((n : Int) == (m : Int)) = false := by simp; omega
    have HE : Hid (decide (L1 = L2) = false) := hide (decide_eq_false (fun e => hnm (by rw [HN.out, HM.out, e])))
    go_enter Tryd.func90, Tryd.ntmps90
    go_wp2
    go_ret
    exact ⟨by rw [HE.out]; rfl, Below.refl _ _⟩
end Go.Proofs.YtjcfndiceinkjabDoor

/- Rows of items and of keys held against one another; bytes. -/
namespace Go.Proofs.YtjcfndiceinkjabDoor
set_option linter.unusedVariables false
set_option linter.unusedSimpArgs false
open Go.RowKit

set_option maxRecDepth 20000 in
set_option maxHeartbeats 1000000 in
theorem equalI (w : World) (v1 v2 : Value) (L1 L2 : List ItemR) (o1 : ∀ p ∈ L1, okI p) (o2 : ∀ p ∈ L2, okI p) (h1 : RowR w v1 35 (L1.map itemC)) (h2 : RowR w v2 35 (L2.map itemC)) : Calls Tryd.prog 91 #[v1, v2] w fun e w' => e = .returned (.bool (decide (L1 = L2))) ∧ Below w.heap.size w w' := by
  have H1 := hide h1
  have H2 := hide h2
  obtain ⟨a1, c1, rfl, hl1⟩ := h1.slice
  obtain ⟨a2, c2, rfl, hl2⟩ := h2.slice
  rw [List.length_map] at hl1 hl2 H1 H2 ⊢
  rw [List.length_map]
  obtain ⟨n, hn⟩ : ∃ n, n = L1.length := ⟨_, rfl⟩
  obtain ⟨m, hm⟩ : ∃ m, m = L2.length := ⟨_, rfl⟩
  rw [← hn] at H1 hl1 ⊢
  rw [← hm] at H2 hl2 ⊢
  have HN := hide hn
  have HM := hide hm
  clear h1 h2 hn hm
  by_cases hnm : n = m
  · subst hnm
    go_enter Tryd.func91, Tryd.ntmps91
    go_wp2
    go_loopw [13] (fun t wr => ∃ k : Nat, t = .int .i64 k ∧ k ≤ n ∧ L1.take k = L2.take k ∧ Below w.heap.size w wr) (fun t _ => n - (intOf t).toNat)
    case atStart => exact ⟨0, rfl, by omega, rfl, Below.refl _ _⟩
    case round =>
      obtain ⟨k, rfl, hk, ht, hW⟩ := hrel
      have HT := hide ht
      clear ht
      by_cases hlt : k < n
      · have hki : (k : Int) < (n : Int) := by omega
        have k1 : k < L1.length := by rw [← HN.out]; exact hlt
        have k2 : k < L2.length := by rw [← HM.out]; exact hlt
        obtain ⟨b1, s1, d1, e1, r1⟩ := H1.out.at k (by rw [List.length_map]; exact k1)
        obtain ⟨b2, s2, d2, e2, r2⟩ := H2.out.at k (by rw [List.length_map]; exact k2)
        obtain ⟨rfl, -, -⟩ := (Value.slice.injEq ..).mp e1
        obtain ⟨rfl, -, -⟩ := (Value.slice.injEq ..).mp e2
        rw [List.getElem_map] at r1 r2
        obtain ⟨p, hp⟩ : ∃ p, p = L1[k] := ⟨_, rfl⟩
        obtain ⟨q, hq⟩ : ∃ q, q = L2[k] := ⟨_, rfl⟩
        have op : okI p := by rw [hp]; exact o1 _ (List.getElem_mem _)
        have oq : okI q := by rw [hq]; exact o2 _ (List.getElem_mem _)
        rw [← hp] at r1
        rw [← hq] at r2
        have R1 := hide (loadAt_item op (rangeAt_below r1 hW.drew))
        have R2 := hide (loadAt_item oq (rangeAt_below r2 hW.drew))
        have HP := hide hp
        have HQ := hide hq
        have hg := itemGuard .neq p q
        have hne := itemNeq p q op oq
        clear r1 r2 e1 e2 hp hq op oq
        by_cases hpq : p = q
        · have hd : decide (p = q) = true := decide_eq_true hpq
          have HT2 : Hid (L1.take (k + 1) = L2.take (k + 1)) := hide (by
            rw [List.take_succ_eq_append_getElem k1, List.take_succ_eq_append_getElem k2, HT.out, ← HP.out, ← HQ.out, hpq])
          rw [hd] at hne
          clear hpq hd
          go_wp2
          refine wp_region_still_lit (by kernel_rfl) (by kernel_rfl) ?_
          still_step
          still_step
          still_step
          refine wpStill_val (itemV p) rfl (run_load rfl rfl R1.out) ?_
          still_step
          still_step
          still_step
          refine wpStill_val (itemV q) rfl (run_load rfl rfl R2.out) ?_
          still_step
          refine wpStill_nil ?_
          go_wp2
          exact ⟨⟨k + 1, by go_num, by omega, HT2.out, hW.drew⟩, by simp [intOf]; omega⟩
        · have hd : decide (p = q) = false := decide_eq_false hpq
          have HE : Hid (decide (L1 = L2) = false) := hide (decide_eq_false (fun e => hpq (by rw [HP.out, HQ.out]; subst e; rfl)))
          rw [hd] at hne
          clear hpq hd
          go_wp2
          refine wp_region_still_lit (by kernel_rfl) (by kernel_rfl) ?_
          still_step
          still_step
          still_step
          refine wpStill_val (itemV p) rfl (run_load rfl rfl R1.out) ?_
          still_step
          still_step
          still_step
          refine wpStill_val (itemV q) rfl (run_load rfl rfl R2.out) ?_
          still_step
          refine wpStill_nil ?_
          go_wp2
          go_ret
          exact ⟨by rw [HE.out]; rfl, hW.drew⟩
      · have hki : ¬ (k : Int) < (n : Int) := by omega
        have HE : Hid (decide (L1 = L2) = true) := hide (decide_eq_true (by
          have := HT.out
          rwa [List.take_of_length_le (by rw [← HN.out]; omega), List.take_of_length_le (by rw [← HM.out]; omega)] at this))
        go_wp2
        go_ret
        exact ⟨by rw [HE.out]; rfl, hW⟩
  · have hne : ((n : Int) == (m : Int)) = false := by simp; omega
    have HE : Hid (decide (L1 = L2) = false) := hide (decide_eq_false (fun e => hnm (by rw [HN.out, HM.out, e])))
    go_enter Tryd.func91, Tryd.ntmps91
    go_wp2
    go_ret
    exact ⟨by rw [HE.out]; rfl, Below.refl _ _⟩
set_option maxRecDepth 20000 in
set_option maxHeartbeats 1000000 in
theorem equalK (w : World) (v1 v2 : Value) (L1 L2 : List (List UInt8)) (o1 : ∀ p ∈ L1, okK p) (o2 : ∀ p ∈ L2, okK p) (h1 : RowR w v1 32 (L1.map keyC)) (h2 : RowR w v2 32 (L2.map keyC)) : Calls Tryd.prog 92 #[v1, v2] w fun e w' => e = .returned (.bool (decide (L1 = L2))) ∧ Below w.heap.size w w' := by
  have H1 := hide h1
  have H2 := hide h2
  obtain ⟨a1, c1, rfl, hl1⟩ := h1.slice
  obtain ⟨a2, c2, rfl, hl2⟩ := h2.slice
  rw [List.length_map] at hl1 hl2 H1 H2 ⊢
  rw [List.length_map]
  obtain ⟨n, hn⟩ : ∃ n, n = L1.length := ⟨_, rfl⟩
  obtain ⟨m, hm⟩ : ∃ m, m = L2.length := ⟨_, rfl⟩
  rw [← hn] at H1 hl1 ⊢
  rw [← hm] at H2 hl2 ⊢
  have HN := hide hn
  have HM := hide hm
  clear h1 h2 hn hm
  by_cases hnm : n = m
  · subst hnm
    go_enter Tryd.func92, Tryd.ntmps92
    go_wp2
    go_loopw [13] (fun t wr => ∃ k : Nat, t = .int .i64 k ∧ k ≤ n ∧ L1.take k = L2.take k ∧ Below w.heap.size w wr) (fun t _ => n - (intOf t).toNat)
    case atStart => exact ⟨0, rfl, by omega, rfl, Below.refl _ _⟩
    case round =>
      obtain ⟨k, rfl, hk, ht, hW⟩ := hrel
      have HT := hide ht
      clear ht
      by_cases hlt : k < n
      · have hki : (k : Int) < (n : Int) := by omega
        have k1 : k < L1.length := by rw [← HN.out]; exact hlt
        have k2 : k < L2.length := by rw [← HM.out]; exact hlt
        obtain ⟨b1, s1, d1, e1, r1⟩ := H1.out.at k (by rw [List.length_map]; exact k1)
        obtain ⟨b2, s2, d2, e2, r2⟩ := H2.out.at k (by rw [List.length_map]; exact k2)
        obtain ⟨rfl, -, -⟩ := (Value.slice.injEq ..).mp e1
        obtain ⟨rfl, -, -⟩ := (Value.slice.injEq ..).mp e2
        rw [List.getElem_map] at r1 r2
        obtain ⟨p, hp⟩ : ∃ p, p = L1[k] := ⟨_, rfl⟩
        obtain ⟨q, hq⟩ : ∃ q, q = L2[k] := ⟨_, rfl⟩
        have op : okK p := by rw [hp]; exact o1 _ (List.getElem_mem _)
        have oq : okK q := by rw [hq]; exact o2 _ (List.getElem_mem _)
        rw [← hp] at r1
        rw [← hq] at r2
        have R1 := hide (loadAt_key op (rangeAt_below r1 hW.drew))
        have R2 := hide (loadAt_key oq (rangeAt_below r2 hW.drew))
        have HP := hide hp
        have HQ := hide hq
        have hg := keysGuard .neq p q
        have hne := keysNeq p q op oq
        clear r1 r2 e1 e2 hp hq op oq
        by_cases hpq : p = q
        · have hd : decide (p = q) = true := decide_eq_true hpq
          have HT2 : Hid (L1.take (k + 1) = L2.take (k + 1)) := hide (by
            rw [List.take_succ_eq_append_getElem k1, List.take_succ_eq_append_getElem k2, HT.out, ← HP.out, ← HQ.out, hpq])
          rw [hd] at hne
          clear hpq hd
          go_wp2
          refine wp_region_still_lit (by kernel_rfl) (by kernel_rfl) ?_
          still_step
          still_step
          still_step
          refine wpStill_val (keyV p) rfl (run_load rfl rfl R1.out) ?_
          still_step
          still_step
          still_step
          refine wpStill_val (keyV q) rfl (run_load rfl rfl R2.out) ?_
          still_step
          refine wpStill_nil ?_
          go_wp2
          exact ⟨⟨k + 1, by go_num, by omega, HT2.out, hW.drew⟩, by simp [intOf]; omega⟩
        · have hd : decide (p = q) = false := decide_eq_false hpq
          have HE : Hid (decide (L1 = L2) = false) := hide (decide_eq_false (fun e => hpq (by rw [HP.out, HQ.out]; subst e; rfl)))
          rw [hd] at hne
          clear hpq hd
          go_wp2
          refine wp_region_still_lit (by kernel_rfl) (by kernel_rfl) ?_
          still_step
          still_step
          still_step
          refine wpStill_val (keyV p) rfl (run_load rfl rfl R1.out) ?_
          still_step
          still_step
          still_step
          refine wpStill_val (keyV q) rfl (run_load rfl rfl R2.out) ?_
          still_step
          refine wpStill_nil ?_
          go_wp2
          go_ret
          exact ⟨by rw [HE.out]; rfl, hW.drew⟩
      · have hki : ¬ (k : Int) < (n : Int) := by omega
        have HE : Hid (decide (L1 = L2) = true) := hide (decide_eq_true (by
          have := HT.out
          rwa [List.take_of_length_le (by rw [← HN.out]; omega), List.take_of_length_le (by rw [← HM.out]; omega)] at this))
        go_wp2
        go_ret
        exact ⟨by rw [HE.out]; rfl, hW⟩
  · have hne : ((n : Int) == (m : Int)) = false := by simp; omega
    have HE : Hid (decide (L1 = L2) = false) := hide (decide_eq_false (fun e => hnm (by rw [HN.out, HM.out, e])))
    go_enter Tryd.func92, Tryd.ntmps92
    go_wp2
    go_ret
    exact ⟨by rw [HE.out]; rfl, Below.refl _ _⟩
set_option maxRecDepth 20000 in
set_option maxHeartbeats 1000000 in
theorem rsameKeys (w : World) (v1 v2 : Value) (L1 L2 : List (List UInt8)) (o1 : ∀ p ∈ L1, okK p) (o2 : ∀ p ∈ L2, okK p) (h1 : RowR w v1 32 (L1.map keyC)) (h2 : RowR w v2 32 (L2.map keyC)) : Calls Tryd.prog 28 #[v1, v2] w fun e w' => e = .returned (.bool (decide (L1 = L2))) ∧ Below w.heap.size w w' := by
  have H1 := hide h1
  have H2 := hide h2
  obtain ⟨a1, c1, rfl, hl1⟩ := h1.slice
  obtain ⟨a2, c2, rfl, hl2⟩ := h2.slice
  rw [List.length_map] at hl1 hl2 H1 H2 ⊢
  rw [List.length_map]
  obtain ⟨n, hn⟩ : ∃ n, n = L1.length := ⟨_, rfl⟩
  obtain ⟨m, hm⟩ : ∃ m, m = L2.length := ⟨_, rfl⟩
  rw [← hn] at H1 hl1 ⊢
  rw [← hm] at H2 hl2 ⊢
  have HN := hide hn
  have HM := hide hm
  clear h1 h2 hn hm
  by_cases hnm : n = m
  · subst hnm
    go_enter Tryd.func28, Tryd.ntmps28
    go_wp2
    go_loopw [5] (fun t wr => ∃ k : Nat, t = .int .i64 k ∧ k ≤ n ∧ L1.take k = L2.take k ∧ Below w.heap.size w wr) (fun t _ => n - (intOf t).toNat)
    case atStart => exact ⟨0, rfl, by omega, rfl, Below.refl _ _⟩
    case round =>
      obtain ⟨k, rfl, hk, ht, hW⟩ := hrel
      have HT := hide ht
      clear ht
      by_cases hlt : k < n
      · have hki : (k : Int) < (n : Int) := by omega
        have k1 : k < L1.length := by rw [← HN.out]; exact hlt
        have k2 : k < L2.length := by rw [← HM.out]; exact hlt
        obtain ⟨b1, s1, d1, e1, r1⟩ := H1.out.at k (by rw [List.length_map]; exact k1)
        obtain ⟨b2, s2, d2, e2, r2⟩ := H2.out.at k (by rw [List.length_map]; exact k2)
        obtain ⟨rfl, -, -⟩ := (Value.slice.injEq ..).mp e1
        obtain ⟨rfl, -, -⟩ := (Value.slice.injEq ..).mp e2
        rw [List.getElem_map] at r1 r2
        obtain ⟨p, hp⟩ : ∃ p, p = L1[k] := ⟨_, rfl⟩
        obtain ⟨q, hq⟩ : ∃ q, q = L2[k] := ⟨_, rfl⟩
        have op : okK p := by rw [hp]; exact o1 _ (List.getElem_mem _)
        have oq : okK q := by rw [hq]; exact o2 _ (List.getElem_mem _)
        rw [← hp] at r1
        rw [← hq] at r2
        have R1 := hide (loadAt_key op (rangeAt_below r1 hW.drew))
        have R2 := hide (loadAt_key oq (rangeAt_below r2 hW.drew))
        have HP := hide hp
        have HQ := hide hq
        have hg := keysGuard .neq p q
        have hne := keysNeq p q op oq
        clear r1 r2 e1 e2 hp hq op oq
        by_cases hpq : p = q
        · have hd : decide (p = q) = true := decide_eq_true hpq
          have HT2 : Hid (L1.take (k + 1) = L2.take (k + 1)) := hide (by
            rw [List.take_succ_eq_append_getElem k1, List.take_succ_eq_append_getElem k2, HT.out, ← HP.out, ← HQ.out, hpq])
          rw [hd] at hne
          clear hpq hd
          go_wp2
          refine wp_region_still_lit (by kernel_rfl) (by kernel_rfl) ?_
          still_step
          still_step
          still_step
          refine wpStill_val (keyV p) rfl (run_load rfl rfl R1.out) ?_
          still_step
          still_step
          still_step
          refine wpStill_val (keyV q) rfl (run_load rfl rfl R2.out) ?_
          still_step
          refine wpStill_nil ?_
          go_wp2
          exact ⟨⟨k + 1, by go_num, by omega, HT2.out, hW.drew⟩, by simp [intOf]; omega⟩
        · have hd : decide (p = q) = false := decide_eq_false hpq
          have HE : Hid (decide (L1 = L2) = false) := hide (decide_eq_false (fun e => hpq (by rw [HP.out, HQ.out]; subst e; rfl)))
          rw [hd] at hne
          clear hpq hd
          go_wp2
          refine wp_region_still_lit (by kernel_rfl) (by kernel_rfl) ?_
          still_step
          still_step
          still_step
          refine wpStill_val (keyV p) rfl (run_load rfl rfl R1.out) ?_
          still_step
          still_step
          still_step
          refine wpStill_val (keyV q) rfl (run_load rfl rfl R2.out) ?_
          still_step
          refine wpStill_nil ?_
          go_wp2
          go_ret
          exact ⟨by rw [HE.out]; rfl, hW.drew⟩
      · have hki : ¬ (k : Int) < (n : Int) := by omega
        have HE : Hid (decide (L1 = L2) = true) := hide (decide_eq_true (by
          have := HT.out
          rwa [List.take_of_length_le (by rw [← HN.out]; omega), List.take_of_length_le (by rw [← HM.out]; omega)] at this))
        go_wp2
        go_ret
        exact ⟨by rw [HE.out]; rfl, hW⟩
  · have hne : ((n : Int) == (m : Int)) = false := by simp; omega
    have HE : Hid (decide (L1 = L2) = false) := hide (decide_eq_false (fun e => hnm (by rw [HN.out, HM.out, e])))
    go_enter Tryd.func28, Tryd.ntmps28
    go_wp2
    go_ret
    exact ⟨by rw [HE.out]; rfl, Below.refl _ _⟩
theorem toStr_any {w : World} {v : Value} {xs : List UInt8} (h : RdA w v xs) (u : Value) : True := trivial
end Go.Proofs.YtjcfndiceinkjabDoor
