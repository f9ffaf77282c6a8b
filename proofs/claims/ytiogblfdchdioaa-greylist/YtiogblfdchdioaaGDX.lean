/- The law's own: an append that keeps rows that are not longer; an element of a row written over. -/
import Derived.Test.YtiogblfdchdioaaGDW
namespace Go.Proofs.Ytiogblfdchdioaa
set_option linter.unusedVariables false
set_option linter.unusedSimpArgs false
namespace RG
open Go.RowKit
set_option maxRecDepth 100000

theorem rowC_snoc (V : List EL) (e : EL) : rowC (V ++ [e]) = rowC V ++ elC e := by simp [rowC]
/-- What stays readable where one row of keys was appended to. -/
def KeepG (n : Nat) (w w' : World) : Prop := ∀ (B : Nat) (u : Value) (A : List EL), OwnG w B u A → A.length ≤ n → OwnG w' B u A
theorem run_append_keepG (w : World) (ty : TypeId) (base : Nat) (v : Value) (ks : List EL) (hown : OwnG w base v ks) (z : Nat) (k : EL) (hc : BoxEl w z k) (hlen : ks.length + 1 ≤ 3518437208832) (hbase : base ≤ w.heap.size) :
    ∃ v' w', (Builtin.append_ #[slT, slT] ty #[v, .slice (some ⟨z, 0, none⟩) 1 1]).run Try.prog w = .ok v' w' ∧ OwnG w' base v' (ks ++ [k]) ∧ w.grownBy w' v.ownBlock ∧ (v'.ownBlock = v.ownBlock ∨ v'.ownBlock = some w.heap.size) ∧ KeepG ks.length w w' := by
  obtain ⟨i0, hi, hz0, hz1, hz2⟩ := elI'
  have hnews : ∀ j u, (elC k)[j]? = some u → w.cell? ((⟨z, 0, none⟩ : Addr).add j) = some u := by
    intro j u hj
    have hc2 : Blk w z (elA k) elT := hc
    rw [Addr.add_mid, hc2.cell, ← Array.getElem?_toList]
    simpa [elA] using hj
  obtain ⟨v', w', hr, r2, r3, _, r5⟩ := run_append_own_at (P := Try.prog) w base slT ty elT i0 (elV elZ) WD EB slU hi hz0 hz1 hz2 rfl (by decide) v ks.length (rowC ks) hown ⟨z, 0, none⟩ 1 1 (elC k) (by rw [elC_len]; rfl) hnews (elC_one k) (by unfold maxLen; omega) (by simp only [EB]; omega) hbase
  refine ⟨v', w', hr, ?_, r3, r5, ?_⟩
  · unfold OwnG
    rw [rowC_snoc, List.length_append, List.length_singleton]
    exact r2
  · intro B u A hu hA
    obtain ⟨q0, ⟨q1, q2⟩ | ⟨g, cap, cur, q1, qb, qh, qc, qm, qs, qt⟩⟩ := id hu
    · exact ⟨q0, .inl ⟨q1, q2⟩⟩
    · have hgl : g < w.heap.size := (Array.getElem?_eq_some_iff.1 qh).1
      have hcs : cur.size = cap * 33 := qs
      have hz3 : i0.size = 33 := hz1
      by_cases hb : v.ownBlock = some g
      · obtain ⟨p0, ⟨p1, _⟩ | ⟨g', cap', cur', p1, pb, ph, pc, pm, pS, pt'⟩⟩ := id hown
        · rw [p1] at hb; cases hb
        · subst p1
          have hps : cur'.size = cap' * 33 := pS
          have e : g' = g := by simpa [Value.ownBlock] using hb
          subst e
          have e2 : cur' = cur := by rw [qh] at ph; cases ph; rfl
          subst e2
          by_cases hroom : ks.length + 1 ≤ cap'
          · have hr2 := run_append_room (P := Try.prog) w slT ty elT i0 slU hi g' ks.length cap' cur' ph ⟨z, 0, none⟩ 1 1 (elC k) (by rw [hz1, elC_len]; rfl) hnews (elC_one k) hroom (by rw [hz3, elC_len]; simp only [WD]; omega)
            rw [hr2] at hr
            obtain ⟨_, e3⟩ := (Result.ok.injEq ..).mp hr
            subst e3
            refine ⟨q0, .inr ⟨g', cap, _, q1, qb, setRow_heap w g' cur' _ elT _ ph, qc, qm, ?_, ?_⟩⟩
            · simp only [List.size_toArray, List.length_append, List.length_take, List.length_drop, elC_len, Array.length_toList, hz3, WD]
              omega
            · rw [List.toList_toArray, List.append_assoc, List.take_append_of_le_length (by simp only [List.length_take, Array.length_toList, hz3, WD]; omega), List.take_take, Nat.min_eq_left (by rw [hz3]; simp only [WD]; omega)]
              exact qt
          · have holds : ∀ j u, (rowC ks)[j]? = some u → w.cell? ((⟨g', 0, none⟩ : Addr).add j) = some u := fun j u hj => World.ownsRow.cells (g := g') hown rfl j u hj
            have hr2 := run_append_grow (P := Try.prog) w slT ty elT i0 (elV elZ) slU hi hz0 ⟨g', 0, none⟩ ks.length cap' (rowC ks) (by rw [hz1]; exact p0) holds ⟨z, 0, none⟩ 1 1 (elC k) (by rw [hz1, elC_len]; rfl) hnews (by omega) (by omega) (by rw [hz2]; exact growslice_fits (by omega) (by show _ * 40 ≤ _; omega))
            rw [hr2] at hr
            obtain ⟨_, e3⟩ := (Result.ok.injEq ..).mp hr
            subst e3
            exact ⟨q0, .inr ⟨g', cap, cur', q1, qb, (Below.heap_alloc w.drew _ g' hgl).trans qh, qc, qm, qs, qt⟩⟩
      · exact ⟨q0, .inr ⟨g, cap, cur, q1, qb, (r3.block g hgl (fun e => hb e.symm)).trans qh, qc, qm, qs, qt⟩⟩
theorem wpList_appK {ops : Array Oper} {rest : List Oper} {o : Oper} {a : Act} {w : World} {Q : Exit → Act → World → Prop} (hgd : o.guard = none) (s x : Operand) (ho : o.op = .call { callee := .builtin .append, args := #[s, x], argTypes := #[slT, slT] })
    (base : Nat) (v : Value) (V : List EL) (hs : a.eval s = v) (hown : OwnG w base v V) (z : Nat) (hx : a.eval x = .slice (some ⟨z, 0, none⟩) 1 1) (e : EL) (hc : BoxEl w z e) (hlen : V.length + 1 ≤ 3518437208832) (hbase : base ≤ w.heap.size)
    (h : ∀ v' w', Hid (OwnG w' base v' (V ++ [e])) → Hid (w.grownBy w' v.ownBlock) → Hid (v'.ownBlock = v.ownBlock ∨ v'.ownBlock = some w.heap.size) → Hid (KeepG V.length w w') → wpList Try.prog ops Q rest (a.put o.dst v') w') : wpList Try.prog ops Q (o :: rest) a w := by
  obtain ⟨v', w', hr, h1, h2, h3, h4⟩ := run_append_keepG w o.type base v V hown z e hc hlen hbase
  refine wpList_plain hgd fun K hK => ?_
  unfold Oper.wp execOp
  simp only [ho, resolve, invoke, builtin, Sem.run_bind, Sem.run_pure, Result.andThen_ok, List.map_toArray, List.map_cons, List.map_nil, hs, hx, hr]
  exact hK _ _ (h v' w' (hide h1) (hide h2) (hide h3) (hide h4))
theorem setCells_row {b : Nat} {t : TypeId} : ∀ (vs : List Value) (o : Nat) (w : World) (cs : Array Value), Blk w b cs t → o + vs.length ≤ cs.size → Blk (w.setCells b o vs) b (cs.toList.take o ++ vs ++ cs.toList.drop (o + vs.length)).toArray t ∧ w.grownBy (w.setCells b o vs) (some b)
  | [], o, w, cs, h, _ => ⟨by rw [List.append_nil, List.length_nil, Nat.add_zero, List.take_append_drop]; exact h, ⟨rfl, rfl, rfl, Nat.le_refl _, fun _ _ _ => rfl⟩⟩
  | v :: r, o, w, cs, h, hl => by
    rw [List.length_cons] at hl
    obtain ⟨h1, h2⟩ := setCells_row r (o + 1) (w.setCell ⟨b, o, none⟩ v) (cs.setIfInBounds o v) (h.set o v) (by rw [Array.size_setIfInBounds]; omega)
    refine ⟨?_, grownBy_trans (grownBy_set w b o v) h2⟩
    have e : (cs.setIfInBounds o v).toList.take (o + 1) ++ r ++ (cs.setIfInBounds o v).toList.drop (o + 1 + r.length) = cs.toList.take o ++ v :: r ++ cs.toList.drop (o + (v :: r).length) := by
      rw [Array.toList_setIfInBounds, List.drop_set_of_lt (by omega), List.take_set, List.length_cons, show o + (r.length + 1) = o + 1 + r.length by omega]
      congr 1
      rw [List.take_succ_eq_append_getElem (by rw [Array.length_toList]; omega), List.set_append_right _ _ (by rw [List.length_take]; omega), List.length_take, Nat.min_eq_left (by rw [Array.length_toList]; omega), Nat.sub_self, List.set_cons_zero, List.append_assoc]
      rfl
    rw [e] at h1
    exact h1
theorem there_row {w : World} {b : Nat} {old : Array Value} {t : TypeId} (hk : Blk w b old t) (o n : Nat) (hs : o + n ≤ old.size) : w.there b o n := fun j hj => by
  refine ⟨?_, Blk.frozen hk (o + j)⟩
  rw [hk.cell]
  exact Option.isSome_iff_exists.2 ⟨old[o + j]'(by omega), Array.getElem?_eq_getElem (by omega)⟩
theorem take_mid {α : Type} (l vs : List α) (o m : Nat) (h1 : o + vs.length ≤ m) (h2 : m ≤ l.length) : (l.take o ++ vs ++ l.drop (o + vs.length)).take m = (l.take m).take o ++ vs ++ (l.take m).drop (o + vs.length) := by
  rw [List.take_take, Nat.min_eq_left (by omega), List.take_append, List.take_of_length_le (by rw [List.length_append, List.length_take]; omega), List.drop_take]
  congr 2
  rw [List.length_append, List.length_take]
  omega
/-- An element of one's own row is written over. -/
theorem rowSetQ {W : World} {B g n cap s : Nat} {t : TypeId} {xs : List Value} (h : W.ownsRow B t s (.slice (some ⟨g, 0, none⟩) n cap) n xs) {i : Nat} (hi : i < n) (vs : List Value) (hv : vs.length = s) :
    W.there g (i * s) s ∧ (W.setCells g (i * s) vs).ownsRow B t s (.slice (some ⟨g, 0, none⟩) n cap) n (xs.take (i * s) ++ vs ++ xs.drop (i * s + s)) ∧ W.grownBy (W.setCells g (i * s) vs) (some g) := by
  obtain ⟨h0, ⟨h1, _⟩ | ⟨g', cap', cur, e, hb, hh, hc, hm, hs, ht⟩⟩ := h
  · cases h1
  · cases e
    have q1 : (i + 1) * s ≤ n * s := Nat.mul_le_mul_right s hi
    have q2 : n * s ≤ cap * s := Nat.mul_le_mul_right s hc
    have q3 : (i + 1) * s = i * s + s := Nat.succ_mul i s
    have hB : Blk W g cur t := hh
    obtain ⟨r1, r2⟩ := setCells_row vs (i * s) W cur hB (by omega)
    refine ⟨there_row hB _ _ (by omega), ⟨?_, .inr ⟨g, cap, _, rfl, hb, r1, hc, hm, ?_, ?_⟩⟩, r2⟩
    · simp only [List.length_append, List.length_take, List.length_drop]
      omega
    · simp only [List.size_toArray, List.length_append, List.length_take, List.length_drop, Array.length_toList]
      omega
    · rw [List.toList_toArray, take_mid _ _ _ _ (by omega) (by rw [Array.length_toList]; omega), ht, hv]
/-- A key of one's own row is written over. -/
theorem wpList_storeG {ops : Array Oper} {rest : List Oper} {op : Oper} {a : Act} {w : World} {Q : Exit → Act → World → Prop} (hgd : op.guard = none) (x y : Operand) (ho : op.op = .store elT x y) (B g n cap : Nat) (ks : List EL) (hown : OwnG w B (.slice (some ⟨g, 0, none⟩) n cap) ks) (i : Nat) (hi : i < ks.length) (hx : a.eval x = .pointer (some ⟨g, i * 33, none⟩)) (k : EL) (hy : a.eval y = elV k)
    (h : ∀ w', Hid (OwnG w' B (.slice (some ⟨g, 0, none⟩) n cap) (ks.set i k)) → Hid (w.grownBy w' (some g)) → wpList Try.prog ops Q rest (a.put op.dst undef) w') : wpList Try.prog ops Q (op :: rest) a w := by
  have hn : n = ks.length := by
    obtain ⟨_, ⟨e, _⟩ | ⟨g', cap', cur, e, _⟩⟩ := id hown
    · cases e
    · cases e; rfl
  subst hn
  obtain ⟨q1, q2, q3⟩ := rowSetQ hown hi (elC k) (elC_len k)
  refine wpList_store_mid hgd elT x y ho g (i * 33) (elA k) hx hy (by simpa [elA, elC_len] using q1) (by simpa [elA, elC_len] using elS) (all_oneCell_toArray (elC_one k)) (h _ (hide ?_) (hide q3))
  unfold OwnG
  rw [List.length_set, show rowC (ks.set i k) = (rowC ks).take (i * 33) ++ elC k ++ (rowC ks).drop (i * 33 + 33) from flat_set ks i k (fun y hy => elC_len y) hi]
  exact q2
/-- A mark: the zero key, a number. -/
def mkE (n : Int) : EL := ⟨List.replicate 32 0, n, rfl⟩
theorem run_buildM {op : Oper} {ev : Operand → Value} {x : Operand} {n : Int} (ho : op.op = .build elT #[(1, x)]) (hx : ev x = .int .i64 n) (w : World) : (execOp ev op).run Try.prog w = .ok (.value (elV (mkE n))) w := by
  simp only [execOp, ho, List.map_toArray, List.map_cons, List.map_nil, hx]
  kernel_rfl
theorem wpList_buildM {ops : Array Oper} {rest : List Oper} {op : Oper} {a : Act} {w : World} {Q : Exit → Act → World → Prop} (hg : Region.wanted op (yielded ops a.tmps) = true) (x : Operand) (ho : op.op = .build elT #[(1, x)]) (n : Int) (hx : a.eval x = .int .i64 n)
    (hK : wpList Try.prog ops Q rest (a.put op.dst (elV (mkE n))) w) : wpList Try.prog ops Q (op :: rest) a w :=
  wpList_valG _ hg (run_buildM ho hx w) hK
/-- What All leaves is a row of one's own. -/
theorem own_all {w : World} {B d : Nat} {V : List EL} (h : RowEl w d V) (hB : B ≤ d) (hl : V.length ≤ 3518437208000) : OwnG w B (.slice (some ⟨d, 0, none⟩) V.length V.length) V :=
  ⟨rowC_len V, .inr ⟨d, V.length, _, rfl, hB, h, Nat.le_refl _, by unfold maxLen; omega, by simp [rowC_len], by simp [List.take_of_length_le, rowC_len]⟩⟩
end RG
end Go.Proofs.Ytiogblfdchdioaa
