/- GearSpreads, walked. -/
import Derived.Test.YtamajnaeladehabGS3
namespace Go.Proofs.Ytamajnaeladehab
set_option linter.unusedVariables false
set_option linter.unusedSimpArgs false
open Go.RowKit Ieee

def i64c (n : Int) : Value := .int .i64 n
theorem infoI64 : (Try.prog.info? 3).map (fun i => (i.zero, i.size, i.bytes)) = some (some (.int .i64 0), 1, 8) := by kernel_rfl
theorem i64c_one (xs : List Int) : ∀ v ∈ xs.map i64c, v.oneCell' = true := by
  intro v hv
  obtain ⟨u, _, rfl⟩ := List.mem_map.1 hv
  rfl
def OwnsI (w : World) (base : Nat) (v : Value) (xs : List Int) : Prop := w.ownsRow base 3 1 v xs.length (xs.map i64c)
theorem append_nilI (w : World) (ty : TypeId) (c : Nat) : (Builtin.append_ #[22, 22] ty #[.slice none 0 0, .slice none 0 c]).run Try.prog w = .ok (.slice none 0 0) w := by
  have hi := infoI64
  obtain ⟨i0, hi, hz0, hz1, hz2⟩ := info_parts infoI64
  simp [Builtin.append_, run_underlying Try.underlying22, sizeOf, typeInfo, hi, Builtin.lenOf, Builtin.firstCells, loadCells, loadCellsFrom]
theorem wpList_append_copy {ops : Array Oper} {rest : List Oper} {o : Oper} {a : Act} {w : World} {Q : Exit → Act → World → Prop} (hgd : o.guard = none) (s x : Operand) (ho : o.op = .call { callee := .builtin .append, args := #[s, x], argTypes := #[22, 22] })
    (u : Value) (ys : List Int) (hs : a.eval s = .slice none 0 0) (hx : a.eval x = u) (hrd : RdJ w u ys) (hlen : ys.length ≤ 17592186044416)
    (h : ∀ v' w', Hid (OwnsI w' w.heap.size v' ys) → Hid (Below w.heap.size w w') → wpList Try.prog ops Q rest (a.put o.dst v') w') : wpList Try.prog ops Q (o :: rest) a w := by
  obtain ⟨i0, hi, hz0, hz1, hz2⟩ := info_parts infoI64
  obtain ⟨ao, c, rfl, hl, hf⟩ := hrd
  have go : ∀ (ad : Addr), ao = some ad → (∀ j q, (ys.map i64c)[j]? = some q → w.cell? (ad.add j) = some q) → wpList Try.prog ops Q (o :: rest) a w := by
    intro ad e hn
    subst e
    refine wpList_append_own_at w hgd s x 22 ho w.heap.size 3 i0 (.int .i64 0) 1 8 Try.underlying22 hi hz0 hz1 hz2 rfl (by decide) (.slice none 0 0) 0 [] hs (World.ownsRow_nil _ _ _ _) ad ys.length c (ys.map i64c) hx (by simp) hn (i64c_one ys) (by unfold maxLen; omega) (by omega) (Nat.le_refl _) ?_
    intro v' w' h1 h2 _ _
    refine h v' w' (hide (by unfold OwnsI; simpa using h1)) (hide ⟨h2.os, h2.tape, h2.output, h2.size, fun k hk => h2.block k hk (by simp [Value.ownBlock])⟩)
  rcases Nat.eq_zero_or_pos ys.length with h0 | h0
  · obtain rfl : ys = [] := List.eq_nil_of_length_eq_zero h0
    cases ao with
    | none =>
      have hh := h (.slice none 0 0) w (hide (World.ownsRow_nil _ _ _ _)) (hide (Below.refl _ _))
      refine wpList_plain hgd fun K hK => ?_
      have hrun := append_nilI w o.type c
      unfold Oper.wp
      simp [execOp, ho, resolve, invoke, builtin, hs, hx, hrun, Result.andThen]
      exact hK _ _ hh
    | some ad => exact go ad rfl (fun j q hj => by simp at hj)
  · obtain ⟨b, o', e, hc⟩ := hf h0
    refine go _ e (fun j q hj => ?_)
    have hjl : j < ys.length := by
      rcases Nat.lt_or_ge j ys.length with h | h
      · exact h
      · simp [List.getElem?_eq_none (show (ys.map i64c).length ≤ j by simpa using h)] at hj
    rw [Addr.add_mid, hc j hjl]
    simpa [List.getElem?_eq_getElem hjl, i64c] using hj
theorem OwnsI.rdJ {w : World} {base : Nat} {v : Value} {xs : List Int} (h : OwnsI w base v xs) : RdJ w v xs := by
  obtain ⟨hl, ⟨rfl, h2⟩ | ⟨g, cap, cur, rfl, hb, hg, hc, hm, hs, ht⟩⟩ := h
  · exact ⟨none, 0, by rw [h2], by omega, fun h => by omega⟩
  · refine ⟨some ⟨g, 0, none⟩, cap, rfl, by unfold maxLen at hm; omega, fun h0 => ⟨g, 0, rfl, fun k hk => ?_⟩⟩
    have hB : Blk w g cur 3 := hg
    rw [Nat.zero_add, hB.cell, ← Array.getElem?_toList]
    have : (cur.toList.take (xs.length * 1))[k]? = some (i64c xs[k]) := by rw [ht]; simp [List.getElem?_eq_getElem hk]
    rw [List.getElem?_take_of_lt (by omega)] at this
    exact this
set_option maxRecDepth 20000 in
set_option maxHeartbeats 1000000 in
theorem sameInts_any (w : World) (v u : Value) (xs : List Int) (hv : RdJ w v xs) (hu : RdJ w u xs) : Calls Try.prog 6 #[v, u] w fun e w' => e = .returned (.bool true) ∧ Below w.heap.size w w' := by
  obtain ⟨ao, c, rfl, hl, hf⟩ := hv
  obtain ⟨bo, d, rfl, -, hg⟩ := hu
  have HF := hide hf
  have HG := hide hg
  clear hf hg
  go_enter Try.func6, Try.ntmps6
  go_wp2
  go_loopw [5] (fun i wr => ∃ k : Nat, i = .int .i64 k ∧ k ≤ xs.length ∧ Below w.heap.size w wr) (fun i _ => xs.length - (intOf i).toNat)
  case atStart => exact ⟨0, rfl, by omega, Below.refl _ _⟩
  case round =>
    obtain ⟨k, rfl, hk, hbel⟩ := hrel
    by_cases hlt : k < xs.length
    · have hki : (k : Int) < xs.length := by omega
      obtain ⟨g, go', rfl, hc⟩ := HF.out (by omega)
      obtain ⟨g2, go2, rfl, hc2⟩ := HG.out (by omega)
      have q1 := (hbel.cell (World.block_lt_of_cell? w _ (hc k hlt))).trans (hc k hlt)
      have q2 := (hbel.cell (World.block_lt_of_cell? w _ (hc2 k hlt))).trans (hc2 k hlt)
      obtain ⟨x, hx⟩ : ∃ x, x = xs[k] := ⟨_, rfl⟩
      rw [← hx] at q1 q2
      clear hx hc hc2
      go_wp2
      go_quiet (fail)
      go_wp2
      exact ⟨⟨k + 1, by go_num, by omega, hbel.trans ⟨rfl, rfl, rfl, Nat.le_refl _, fun _ _ => rfl⟩⟩, by simp [intOf]; omega⟩
    · have hki : ¬ (k : Int) < xs.length := by omega
      go_wp2
      go_ret
      exact ⟨rfl, hbel⟩
theorem equal_f {P : Program} (w : World) (d : Nat) (t : TypeId) (a b : Nat) (h : P.underlying t = some (.float .f64)) : (Op.equalIn (d + 1) t (.float .f64 a) (.float .f64 b)).run P w = .ok (double.order a b == some .eq) w := by
  simp [Op.equalIn, run_underlying h, Op.floatEq]
  rfl
end Go.Proofs.Ytamajnaeladehab
