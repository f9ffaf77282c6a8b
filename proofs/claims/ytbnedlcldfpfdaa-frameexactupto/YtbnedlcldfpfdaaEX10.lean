/- own: the lists are grown. -/
import Derived.Test.YtbnedlcldfpfdaaEX9
import Derived.Maps.AppendAt
namespace Go.Proofs.Ytbnedlcldfpfdaa
set_option linter.unusedVariables false
set_option linter.unusedSimpArgs false
open Go.RowKit Go.Sort

/-- append of one byte to a row of the call's own: what was read of it stays. -/
theorem wpList_append_keepB {ops : Array Oper} {rest : List Oper} {o : Oper} {a : Act} {w : World} {Q : Exit → Act → World → Prop} (hgd : o.guard = none) (s x : Operand) (ho : o.op = .call { callee := .builtin .append, args := #[s, x], argTypes := #[22, 22] })
    (base : Nat) (v : Value) (xs : List UInt8) (hs : a.eval s = v) (hown : OwnsB w base v xs) (z c : Nat) (hx : a.eval x = .slice (some ⟨z, 0, none⟩) 1 c) (y : UInt8) (hc : w.cell? ⟨z, 0, none⟩ = some (u8c y)) (hlen : xs.length ≤ 100000000000000) (hbase : base ≤ w.heap.size)
    (h : ∀ v' w', Hid (OwnsB w' base v' (xs ++ [y])) → Hid (w.grownBy w' v.ownBlock) → Hid (v'.ownBlock = v.ownBlock ∨ v'.ownBlock = some w.heap.size) → Hid (∀ g k, v.ownBlock = some g → k < xs.length → w'.cell? ⟨g, k, none⟩ = w.cell? ⟨g, k, none⟩) → wpList Try.prog ops Q rest (a.put o.dst v') w') : wpList Try.prog ops Q (o :: rest) a w := by
  obtain ⟨i0, hi, hz0, hz1, hz2⟩ := info_parts infoU8
  have hnews : ∀ j u, [u8c y][j]? = some u → w.cell? ((⟨z, 0, none⟩ : Addr).add j) = some u := by
    intro j u hj
    cases j with
    | zero => cases hj; exact hc
    | succ j => simp at hj
  have h1c : ∀ u ∈ [u8c y], u.oneCell' = true := u8c_one [y]
  obtain ⟨v', w', hr, r2, r3, _, r5⟩ := run_append_own_at (P := Try.prog) w base 22 o.type 5 i0 (.int .u8 0) 1 1 Try.underlying22 hi hz0 hz1 hz2 rfl (by decide) v xs.length (xs.map u8c) hown ⟨z, 0, none⟩ 1 c [u8c y] rfl hnews h1c (by unfold maxLen; omega) (by omega) hbase
  have hown' : OwnsB w' base v' (xs ++ [y]) := by unfold OwnsB; rw [List.length_append, List.map_append]; exact r2
  have keep : ∀ g k, v.ownBlock = some g → k < xs.length → w'.cell? ⟨g, k, none⟩ = w.cell? ⟨g, k, none⟩ := by
    intro g k hvg hk
    obtain ⟨hl, ⟨n1, _⟩ | ⟨g', cap, cur, e, hb, hg, hcl, hm, hsz, ht⟩⟩ := id hown
    · subst n1; cases hvg
    · subst e
      obtain rfl : g' = g := by simpa [Value.ownBlock] using hvg
      by_cases hroom : xs.length + 1 ≤ cap
      · have hr2 := run_append_room (P := Try.prog) w 22 o.type 5 i0 Try.underlying22 hi g' xs.length cap cur hg ⟨z, 0, none⟩ 1 c [u8c y] (by rw [hz1]; rfl) hnews h1c hroom (by rw [hz1]; simp; omega)
        rw [hr2] at hr
        obtain ⟨e1, e2⟩ := (Result.ok.injEq ..).mp hr
        subst e1
        rw [(hown.atB k hk).1, (hown'.atB k (by simp; omega)).1, List.getElem_append_left hk]
      · have holds : ∀ j u, (xs.map u8c)[j]? = some u → w.cell? ((⟨g', 0, none⟩ : Addr).add j) = some u := fun j u hj => World.ownsRow.cells (g := g') hown rfl j u hj
        have hr2 := run_append_grow (P := Try.prog) w 22 o.type 5 i0 (.int .u8 0) Try.underlying22 hi hz0 ⟨g', 0, none⟩ xs.length cap (xs.map u8c) (by rw [hz1]; simp) holds ⟨z, 0, none⟩ 1 c [u8c y] (by rw [hz1]; rfl) hnews (by omega) (by omega) (by rw [hz2]; exact growslice_fits (by omega) (by omega))
        rw [hr2] at hr
        obtain ⟨e1, e2⟩ := (Result.ok.injEq ..).mp hr
        subst e2
        have hgl : g' < w.heap.size := Blk.lt (cs := cur) (t := 5) hg
        unfold World.cell?
        simp only
        rw [Below.heap_alloc w.drew _ g' hgl]
        rfl
  refine wpList_plain hgd fun K hK => ?_
  unfold Oper.wp execOp
  simp only [ho, resolve, invoke, builtin, Sem.run_bind, Sem.run_pure, Result.andThen_ok, List.map_toArray, List.map_cons, List.map_nil, hs, hx, hr]
  exact hK _ _ (h v' w' (hide hown') (hide r3) (hide r5) (hide keep))
end Go.Proofs.Ytbnedlcldfpfdaa
