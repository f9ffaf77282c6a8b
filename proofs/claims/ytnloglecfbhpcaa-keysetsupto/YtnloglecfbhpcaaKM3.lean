/- Sets: Has, Len, Add, NewSet. -/
import Derived.Test.YtnloglecfbhpcaaKM2
import Derived.StillTailTactics
namespace Go.Proofs.Ytnloglecfbhpcaa
set_option linter.unusedVariables false
set_option linter.unusedSimpArgs false
open Go.RowKit
open Go.Maps (Keyed)

theorem zeroU (w : World) : (zeroValue 71).run Try.prog w = .ok (.agg #[]) w := by kernel_rfl
/-- Block b is the map of a set of these keys. -/
def KSet (w : World) (b : Nat) (S : List (List UInt8)) : Prop := ∃ D : DataW Unit, w.ownsMap Try.prog 38 unitElem b S.length D ∧ (∀ k, k.length = 32 → Maps.has D (.string k) = decide (k ∈ S)) ∧ Maps.size D = S.length
theorem KSet.grown {w w' : World} {b : Nat} {S : List (List UInt8)} {row : Option Nat} (h : KSet w b S) (hg : w.grownBy w' row) (hne : some b ≠ row) : KSet w' b S := by
  obtain ⟨D, h1, h2⟩ := h
  exact ⟨D, h1.kept hg hne, h2⟩
theorem KSet.below {w w' : World} {b : Nat} {S : List (List UInt8)} (h : KSet w b S) (hb : Below w.heap.size w w') : KSet w' b S := h.grown (row := none) (grownBy_below hb) (by simp)
theorem KSet.lt {w : World} {b : Nat} {S : List (List UInt8)} (h : KSet w b S) : b < w.heap.size := by
  obtain ⟨D, h1, _⟩ := h
  exact h1.lt
theorem KSet.look {w : World} {b : Nat} {S : List (List UInt8)} (h : KSet w b S) (k : List UInt8) (hk : k.length = 32) : (Instr.lookup 53 (.map (some b)) (keyV k) true).run Try.prog w = .ok (.tuple #[.agg #[], .bool (decide (k ∈ S))]) w := by
  obtain ⟨D, h1, h2, _⟩ := h
  obtain ⟨v, ps, hr, hv⟩ := h1.look_ok keyedK undMap (zeroU w) unitElem_mk (keyOf_key k hk)
  obtain ⟨rfl, _⟩ := unitElem_inv hv
  rw [h2 k hk] at hr
  exact hr
theorem KSet.made (w : World) : KSet (w.alloc (.map #[] 0)) w.heap.size [] := ⟨.map [], World.ownsMap_made w _ _ _, fun k _ => by rfl, rfl⟩
theorem KSet.put {w : World} {b : Nat} {S : List (List UInt8)} (h : KSet w b S) (k : List UInt8) (hk : k.length = 32) (hn : k ∉ S) (hl : S.length < maxLen) (S' : List (List UInt8)) (hm : ∀ x, x ∈ S' ↔ x = k ∨ x ∈ S) (hs : S'.length = S.length + 1) :
    ∃ w', (Instr.mapUpdate 53 (.map (some b)) (keyV k) (.agg #[])).run Try.prog w = .ok () w' ∧ KSet w' b S' ∧ w.grownBy w' (some b) := by
  obtain ⟨D, h1, h2, h3⟩ := h
  obtain ⟨w', hr, ho, hg⟩ := h1.update keyedK undMap hl (keyOf_key k hk) unitElem_mk
  have hf : Maps.has D (.string k) = false := by rw [h2 k hk]; simpa using hn
  refine ⟨w', hr, ⟨_, by rw [hs]; exact ho, fun x hx => ?_, ?_⟩, hg⟩
  · by_cases e : x = k
    · subst e
      have hkl : WideAt.IsKeyLit (.string x) := trivial
      rw [Maps.has_put_same h1.isMap hkl]
      simp [(hm x).2 (.inl rfl)]
    · rw [Maps.has_put_other (fun e2 => e (Lit.string.inj e2)), h2 x hx]
      have : x ∈ S' ↔ x ∈ S := by rw [hm x]; simp [e]
      simp [this]
  · rw [Maps.size_put (h1.tidy keyedK), hf, h3, hs]; rfl
/-- A set in memory. -/
structure SetAt (w : World) (z b : Nat) (S : List (List UInt8)) : Prop where
  blk : Blk w z #[.map (some b)] 55
  set : KSet w b S
theorem SetAt.below {w w' : World} {z b : Nat} {S : List (List UInt8)} (h : SetAt w z b S) (hb : Below w.heap.size w w') : SetAt w' z b S := ⟨h.blk.below hb h.blk.lt, h.set.below hb⟩
theorem SetAt.grown {w w' : World} {z b : Nat} {S : List (List UInt8)} {row : Option Nat} (h : SetAt w z b S) (hg : w.grownBy w' row) (h1 : some z ≠ row) (h2 : some b ≠ row) : SetAt w' z b S := ⟨h.blk.grown hg h1, h.set.grown hg h2⟩
theorem SetAt.ne {w : World} {z b : Nat} {S : List (List UInt8)} (h : SetAt w z b S) : z ≠ b := by
  intro e
  obtain ⟨D, ⟨es, clock, hb, _⟩, _⟩ := h.set
  have := h.blk
  unfold Blk at this
  rw [e, hb] at this
  cases this
theorem SetAt.hasS {w : World} {z b zk : Nat} {S : List (List UInt8)} {k : List UInt8} (h : SetAt w z b S) (hk : KeyAt w zk k) : HasS z b zk k (decide (k ∈ S)) w := ⟨by rw [h.blk.cell]; rfl, hk, h.set.look k hk.2⟩
theorem below_d (W : World) : Below W.heap.size W W.drew := (Below.refl W.heap.size W).drew
theorem below_da (W : World) (o : Obj) : Below W.heap.size W (W.drew.alloc o) := (below_d W).alloc (Nat.le_refl _) _
set_option maxRecDepth 20000 in
set_option maxHeartbeats 1000000 in
theorem has_any (w : World) (z b : Nat) (S : List (List UInt8)) (k : List UInt8) (hk : k.length = 32) (h : SetAt w z b S) : Calls Try.prog 13 #[.pointer (some ⟨z, 0, none⟩), keyV k] w fun e w' => e = .returned (.bool (decide (k ∈ S))) ∧ Below w.heap.size w w' := by
  have hW : Below w.heap.size w (w.alloc (.cells (k.map u8c).toArray 38)) := (Below.refl _ _).alloc (Nat.le_refl _) _
  have hK : KeyAt (w.alloc (.cells (k.map u8c).toArray 38)) w.heap.size k := ⟨Blk.made w _ _, hk⟩
  have H1 := hide (((h.below hW).below (below_d _)).hasS (hK.below (below_d _)))
  have hW2 : Below (w.alloc (.cells (k.map u8c).toArray 38)).heap.size (w.alloc (.cells (k.map u8c).toArray 38)) ((w.alloc (.cells (k.map u8c).toArray 38)).drew.alloc (.cells #[] 71)) := below_da _ _
  have H2 := hide (((h.below hW).below hW2).hasS (hK.below hW2))
  have HB := hide (hW.trans (hW2.mono hW.size))
  obtain ⟨v, hv⟩ : ∃ v, v = decide (k ∈ S) := ⟨_, rfl⟩
  rw [← hv] at H1 H2 ⊢
  clear hW hK hW2 hv
  show Calls Try.prog 13 #[.pointer (some ⟨z, 0, none⟩), .agg (k.map u8c).toArray] w _
  go_enter Try.func13, Try.ntmps13
  go_wp2
  refine hs_walk _ (fun _ _ _ _ _ h => h) _ z b w.heap.size k v H1.out H2.out _ (Nat.lt_of_sub_pos (by exact Nat.succ_pos _)) rfl rfl ?_
  go_wp2
  go_ret
  exact ⟨rfl, HB.out⟩
set_option maxRecDepth 20000 in
theorem has_nil (w : World) (k : List UInt8) : Calls Try.prog 13 #[.pointer none, keyV k] w fun e w' => e = .returned (.bool false) ∧ Below w.heap.size w w' := by
  have HB := hide (show Below w.heap.size w (w.alloc (.cells (k.map u8c).toArray 38)) from (Below.refl _ _).alloc (Nat.le_refl _) _)
  show Calls Try.prog 13 #[.pointer none, .agg (k.map u8c).toArray] w _
  go_enter Try.func13, Try.ntmps13
  go_wp2
  go_ret
  exact ⟨rfl, HB.out⟩
set_option maxRecDepth 20000 in
theorem klen_any (w : World) (z b : Nat) (S : List (List UInt8)) (h : SetAt w z b S) : Calls Try.prog 12 #[.pointer (some ⟨z, 0, none⟩)] w fun e w' => e = .returned (.int .i64 (S.length : Int)) ∧ w' = w := by
  have c0 : w.cell? ⟨z, 0, none⟩ = some (.map (some b)) := by rw [h.blk.cell]; rfl
  obtain ⟨D, h1, _, h3⟩ := h.set
  have HL : Hid (∀ ty, (Builtin.len_ #[53] ty #[.map (some b)]).run Try.prog w = .ok (.int .i64 (S.length : Int)) w) := hide (fun ty => by rw [← h3]; exact h1.len undMap ty)
  have hl := HL.out
  go_enter Try.func12, Try.ntmps12
  go_wp2
  go_ret
  exact ⟨rfl, rfl⟩
set_option maxRecDepth 20000 in
theorem klen_nil (w : World) : Calls Try.prog 12 #[.pointer none] w fun e w' => e = .returned (.int .i64 0) ∧ w' = w := by
  go_enter Try.func12, Try.ntmps12
  go_wp2
  go_ret
  exact ⟨rfl, rfl⟩
/-- A key is put into a rising list, at its place. -/
def insK (k : List UInt8) : List (List UInt8) → List (List UInt8)
  | [] => [k]
  | x :: r => if cmpK k x = -1 then k :: x :: r else x :: insK k r
theorem mem_insK (k : List UInt8) : ∀ (S : List (List UInt8)) (x : List UInt8), x ∈ insK k S ↔ x = k ∨ x ∈ S
  | [], x => by simp [insK]
  | y :: r, x => by
    unfold insK
    split
    · simp
    · rw [List.mem_cons, mem_insK k r x, List.mem_cons]
      constructor
      · rintro (h | h | h)
        · exact .inr (.inl h)
        · exact .inl h
        · exact .inr (.inr h)
      · rintro (h | h | h)
        · exact .inr (.inl h)
        · exact .inl h
        · exact .inr (.inr h)
theorem len_insK (k : List UInt8) : ∀ S : List (List UInt8), (insK k S).length = S.length + 1
  | [] => rfl
  | y :: r => by
    unfold insK
    split
    · rfl
    · rw [List.length_cons, len_insK k r, List.length_cons]
/-- What Add leaves. -/
def addK (k : List UInt8) (S : List (List UInt8)) : List (List UInt8) := if k ∈ S then S else insK k S
theorem mem_addK (k : List UInt8) (S : List (List UInt8)) (x : List UInt8) : x ∈ addK k S ↔ x = k ∨ x ∈ S := by
  unfold addK
  split
  · rename_i h
    constructor
    · exact .inr
    · rintro (rfl | h2)
      · exact h
      · exact h2
  · exact mem_insK k S x
theorem wpStill_val {P : Program} {ops : Array Oper} {w : World} {Q : Act → Prop} {a : Act} {o : Oper} {rest : List Oper} (v : Value) (hg : Region.wanted o (yielded ops a.tmps) = true) (hr : (execOp a.eval o).run P w = .ok (.value v) w) (h : wpStill P ops w Q rest (a.put o.dst v)) : wpStill P ops w Q (o :: rest) a := by
  unfold wpStill
  rw [if_pos hg]
  unfold Oper.still
  rw [hr]
  first | exact h | exact ⟨rfl, h⟩ | simp [Oper.stillUpon, h]
theorem mapNe (b : Nat) (w : World) : (binOp .eql 53 (.map (some b)) (.map none)).run Try.prog w = .ok (.bool false) w := by kernel_rfl
theorem mapGd (b : Nat) (x y : Operand) (w : World) : (eqGuard .eql 53 x y (.map (some b)) (.map none)).run Try.prog w = .ok () w := by kernel_rfl
set_option maxRecDepth 20000 in
set_option maxHeartbeats 1000000 in
theorem add_any (w : World) (z b : Nat) (S : List (List UInt8)) (k : List UInt8) (hk : k.length = 32) (h : SetAt w z b S) (hl : S.length < maxLen) : Calls Try.prog 15 #[.pointer (some ⟨z, 0, none⟩), keyV k] w fun e w' => e = .returned (.bool (!decide (k ∈ S))) ∧ SetAt w' z b (addK k S) ∧ w.grownBy w' (some b) := by
  have HH := hide h
  have hb0 : Below w.heap.size w (w.alloc (.cells (k.map u8c).toArray 38)) := (Below.refl _ _).alloc (Nat.le_refl _) _
  have H1 := hide (h.below hb0)
  have HK1 : Hid (KeyAt (w.alloc (.cells (k.map u8c).toArray 38)) w.heap.size k) := hide ⟨Blk.made w _ _, hk⟩
  have HC := hide (has_any _ z b S k hk H1.out)
  have HB0 := hide hb0
  have c0 : (w.alloc (.cells (k.map u8c).toArray 38)).cell? ⟨z, 0, none⟩ = some (.map (some b)) := by rw [H1.out.blk.cell]; rfl
  have hmn := mapNe b
  have hmg := mapGd b
  clear h hb0
  show Calls Try.prog 15 #[.pointer (some ⟨z, 0, none⟩), .agg (k.map u8c).toArray] w _
  by_cases hm : k ∈ S
  · have hd : decide (k ∈ S) = true := by simpa using hm
    rw [hd] at HC ⊢
    have HA : Hid (addK k S = S) := hide (by unfold addK; rw [if_pos hm])
    go_enter Try.func15, Try.ntmps15
    go_wp2_with ((with_reducible refine wpList_key (.tmp 3) w.heap.size k HK1.out ?_ ?_ ?_ ?_); rfl; rfl; rfl)
    refine HC.out.mono ?_
    rintro e w1 ⟨rfl, hb1⟩
    go_wp2
    go_ret
    refine ⟨rfl, ?_, ?_⟩
    · rw [HA.out]; exact H1.out.below hb1
    · have := HB0.out.trans (hb1.mono HB0.out.size)
      exact ⟨this.os, this.tape, this.output, this.size, fun i hi _ => this.block i hi⟩
  · have hd : decide (k ∈ S) = false := by simpa using hm
    rw [hd] at HC ⊢
    have HA : Hid (addK k S = insK k S) := hide (by unfold addK; rw [if_neg hm])
    go_enter Try.func15, Try.ntmps15
    go_wp2_with ((with_reducible refine wpList_key (.tmp 3) w.heap.size k HK1.out ?_ ?_ ?_ ?_); rfl; rfl; rfl)
    refine HC.out.mono ?_
    rintro e w1 ⟨rfl, hb1⟩
    have HK2 := hide (HK1.out.below hb1)
    have H2 := hide (H1.out.below hb1)
    have c1 : w1.cell? ⟨z, 0, none⟩ = some (.map (some b)) := by rw [H2.out.blk.cell]; rfl
    have HW := hide (HB0.out.trans (hb1.mono HB0.out.size))
    have hbd := below_d w1
    obtain ⟨w2, hr, hS2, hg2⟩ := ((H2.out.below hbd).set).put k hk hm hl (insK k S) (mem_insK k S) (len_insK k S)
    have HLK : Hid ((Instr.loadAt 38 (.pointer (some ⟨w.heap.size, 0, none⟩))).run Try.prog w1.drew = .ok (keyV k) w1.drew) := hide (HK2.out.below hbd).load
    have hrun := hr
    have hlk := HLK.out
    clear HC
    go_wp2
    refine wp_region_still_tail 6 (by kernel_rfl) (by kernel_rfl) ?_
    simp only [List.take_succ_cons, List.take_zero, List.drop_succ_cons, List.drop_zero]
    still_step
    still_step
    still_step
    still_step
    refine wpStill_val (keyV k) rfl (run_load rfl rfl HLK.out) ?_
    still_step
    refine wpStill_nil ?_
    go_wp2
    go_ret
    have hz := H2.out.ne
    refine ⟨rfl, ?_, ?_⟩
    · rw [HA.out]; exact ⟨(H2.out.below hbd).blk.grown hg2 (fun e => hz (Option.some.inj e)), hS2⟩
    · have hb := HW.out.trans (hbd.mono HW.out.size)
      exact grownBy_trans ⟨hb.os, hb.tape, hb.output, hb.size, fun i hi _ => hb.block i hi⟩ hg2
set_option maxRecDepth 20000 in
theorem add_nil (w : World) (k : List UInt8) : Calls Try.prog 15 #[.pointer none, keyV k] w fun e w' => e = .returned (.bool false) ∧ Below w.heap.size w w' := by
  have HB := hide (show Below w.heap.size w (w.alloc (.cells (k.map u8c).toArray 38)) from (Below.refl _ _).alloc (Nat.le_refl _) _)
  show Calls Try.prog 15 #[.pointer none, .agg (k.map u8c).toArray] w _
  go_enter Try.func15, Try.ntmps15
  go_wp2
  go_ret
  exact ⟨rfl, HB.out⟩
end Go.Proofs.Ytnloglecfbhpcaa
