/- Rows of ints: written over; what an append leaves as it was. -/
import Derived.Test.YtamajnaeladehaaDoorGL2
namespace Go.Proofs.YtamajnaeladehaaDoor
set_option linter.unusedVariables false
set_option linter.unusedSimpArgs false
open Go.RowKit

theorem OwnsI.set {w : World} {base g n cap : Nat} {xs : List Int} (h : OwnsI w base (.slice (some ⟨g, 0, none⟩) n cap) xs) (k : Nat) (y : Int) : OwnsI (w.setCell ⟨g, k, none⟩ (.int .i64 y)) base (.slice (some ⟨g, 0, none⟩) n cap) (xs.set k y) := by
  obtain ⟨hl, ⟨h1, _⟩ | ⟨g', cap', cur, e, hb, hg, hc, hm, hs, ht⟩⟩ := h
  · cases h1
  · cases e
    refine ⟨by simp, .inr ⟨g, cap, cur.setIfInBounds k (i64c y), by simp, hb, heap_setCell_same w g k cur _ _ hg, by simpa using hc, hm, by simpa using hs, ?_⟩⟩
    rw [Array.toList_setIfInBounds, List.map_set, ← ht, List.take_set, List.length_set]
theorem OwnsI.frozen {w : World} {base g n cap : Nat} {xs : List Int} (h : OwnsI w base (.slice (some ⟨g, 0, none⟩) n cap) xs) (k : Nat) : w.frozen? ⟨g, k, none⟩ = false := by
  obtain ⟨hl, ⟨h1, _⟩ | ⟨g', cap', cur, e, hb, hg, hc, hm, hs, ht⟩⟩ := h
  · cases h1
  · cases e
    have hB : Blk w g cur 3 := hg
    exact hB.frozen k
theorem fillI (xs : List Int) (k : Nat) (y : Int) (hk : k < xs.length) : (List.replicate k y ++ xs.drop k).set k y = List.replicate (k + 1) y ++ xs.drop (k + 1) := by
  rw [List.set_append_right _ _ (by simp), List.length_replicate, Nat.sub_self, List.drop_eq_getElem_cons hk, List.set_cons_zero, List.replicate_succ', List.append_assoc]
  rfl
theorem OwnsI.grown {w w' : World} {base : Nat} {v : Value} {xs : List Int} {row : Option Nat} (h : OwnsI w base v xs) (hg : w.grownBy w' row) (hne : ∀ g, v.ownBlock = some g → some g ≠ row) : OwnsI w' base v xs := owns_grown h hg hne
/-- An append onto a row keeps what can be read of rows that are not longer, wherever they lie. -/
theorem wpList_append_keep {ops : Array Oper} {rest : List Oper} {o : Oper} {a : Act} {w : World} {Q : Exit → Act → World → Prop} (hgd : o.guard = none) (s x : Operand) (ho : o.op = .call { callee := .builtin .append, args := #[s, x], argTypes := #[29, 29] })
    (base : Nat) (v : Value) (xs : List Int) (hs : a.eval s = v) (hown : OwnsI w base v xs) (z c : Nat) (hx : a.eval x = .slice (some ⟨z, 0, none⟩) 1 c) (y q : Int) (hq : q = y) (hc : w.cell? ⟨z, 0, none⟩ = some (.int .i64 q)) (hlen : xs.length + 1 ≤ 17592186044000) (hbase : base ≤ w.heap.size)
    (h : ∀ v' w', Hid (OwnsI w' base v' (xs ++ [y])) → Hid (w.grownBy w' v.ownBlock) → Hid (v'.ownBlock = v.ownBlock ∨ v'.ownBlock = some w.heap.size) → Hid (∀ u A, RdI w u A → A.length ≤ xs.length → RdI w' u A) → wpList Tryd.prog ops Q rest (a.put o.dst v') w') : wpList Tryd.prog ops Q (o :: rest) a w := by
  subst hq
  obtain ⟨i0, hi, hz0, hz1, hz2⟩ := info_parts infoI64
  have hnews : ∀ j u, [Value.int .i64 q][j]? = some u → w.cell? ((⟨z, 0, none⟩ : Addr).add j) = some u := by
    intro j u hj
    cases j with
    | zero => cases hj; exact hc
    | succ j => simp at hj
  have h1c : ∀ u ∈ [Value.int .i64 q], u.oneCell' = true := by intro v hv; simp at hv; subst hv; rfl
  obtain ⟨v', w', hr, r2, r3, _, r5⟩ := run_append_own_at (P := Tryd.prog) w base 29 o.type 3 i0 (.int .i64 0) 1 8 Tryd.underlying29 hi hz0 hz1 hz2 rfl (by decide) v xs.length (xs.map i64c) hown ⟨z, 0, none⟩ 1 c [.int .i64 q] rfl hnews h1c (by unfold maxLen; omega) (by omega) hbase
  have hown' : OwnsI w' base v' (xs ++ [q]) := by unfold OwnsI; rw [List.length_append, List.map_append]; exact r2
  have keep : ∀ g cap, v = .slice (some ⟨g, 0, none⟩) xs.length cap → ∀ k, k < xs.length → w'.cell? ⟨g, k, none⟩ = w.cell? ⟨g, k, none⟩ := by
    intro g cap e k hk
    subst e
    by_cases hroom : xs.length + 1 ≤ cap
    · obtain ⟨hl, ⟨n1, _⟩ | ⟨g', cap', cur, e, hb, hg, hcl, hm, hsz, ht⟩⟩ := id hown
      · cases n1
      · cases e
        have hr2 := run_append_room (P := Tryd.prog) w 29 o.type 3 i0 Tryd.underlying29 hi g xs.length cap cur hg ⟨z, 0, none⟩ 1 c [.int .i64 q] (by rw [hz1]; rfl) hnews h1c hroom (by rw [hz1]; simp; omega)
        rw [hr2] at hr
        obtain ⟨e1, e2⟩ := (Result.ok.injEq ..).mp hr
        subst e1
        rw [hown.at k hk, hown'.at k (by simp; omega), List.getElem_append_left hk]
    · obtain ⟨hl, ⟨n1, _⟩ | ⟨g', cap', cur, e, hb, hg, hcl, hm, hsz, ht⟩⟩ := id hown
      · cases n1
      · cases e
        have holds : ∀ j u, (xs.map i64c)[j]? = some u → w.cell? ((⟨g, 0, none⟩ : Addr).add j) = some u := fun j u hj => World.ownsRow.cells (g := g) hown rfl j u hj
        have hr2 := run_append_grow (P := Tryd.prog) w 29 o.type 3 i0 (.int .i64 0) Tryd.underlying29 hi hz0 ⟨g, 0, none⟩ xs.length cap (xs.map i64c) (by rw [hz1]; simp) holds ⟨z, 0, none⟩ 1 c [.int .i64 q] (by rw [hz1]; rfl) hnews (by omega) (by omega) (by rw [hz2]; exact growslice_fits (by omega) (by omega))
        rw [hr2] at hr
        obtain ⟨e1, e2⟩ := (Result.ok.injEq ..).mp hr
        subst e2
        have hgl : g < w.heap.size := Blk.lt (cs := cur) (t := 3) hg
        unfold World.cell?
        simp only
        rw [Below.heap_alloc w.drew _ g hgl]
        rfl
  refine wpList_plain hgd fun K hK => ?_
  unfold Oper.wp execOp
  simp only [ho, resolve, invoke, builtin, Sem.run_bind, Sem.run_pure, Result.andThen_ok, List.map_toArray, List.map_cons, List.map_nil, hs, hx, hr]
  refine hK _ _ (h v' w' (hide hown') (hide r3) (hide r5) (hide fun u A hu hA => ?_))
  obtain ⟨ao, cu, e, hl, hf⟩ := hu
  refine ⟨ao, cu, e, hl, fun h0 => ?_⟩
  obtain ⟨g, e2, hcell⟩ := hf h0
  refine ⟨g, e2, fun k hk => ?_⟩
  rw [← hcell k hk]
  by_cases hb : v.ownBlock = some g
  · obtain ⟨hl, ⟨rfl, _⟩ | ⟨g', cap', cur, e', hb', hg, hcl, hm, hsz, ht⟩⟩ := id hown
    · cases hb
    · subst e'
      have : g' = g := by simpa [Value.ownBlock] using hb
      subst this
      exact keep g' cap' rfl k (by omega)
  · have hgl := World.block_lt_of_cell? w _ (hcell k hk)
    unfold World.cell?
    simp only
    rw [r3.block g hgl (fun e => hb e.symm)]
end Go.Proofs.YtamajnaeladehaaDoor
