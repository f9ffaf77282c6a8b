/- ObjectKids: for every input the call returns true, and each argument reads afterwards as it read before. No condition. -/
import Derived.Test.YtjcfndiceinkjaaOB16
import Derived.Test.YtjcfndiceinkjaaOB13
namespace Go.Proofs.Ytjcfndiceinkjaa
set_option linter.unusedVariables false
set_option linter.unusedSimpArgs false
open Go.ChangeShapes Go.WideShapes Go.RowKit Go.Deep

theorem kids16_of {H : Type} {ts : List TypeId} {ds : List (DataW H)} (h : (DataW.weightsEach Try.prog ts ds).all (· ≤ reachBytes) = true) {j : Nat} {o : ObjR} {y0 y4 y6 y7 dd dp di dk : DataW H} (ht : ts[j]? = some 30) (hd : ds[j]? = some (.agg [y0, dd, dp, di, y4, dk, y6, y7]))
    (h2 : o.parts.length = 0 ∨ ∃ e s, dp = .slice e s ∧ o.parts.length = e.length) (h3 : o.items.length = 0 ∨ ∃ e s, di = .slice e s ∧ o.items.length = e.length) (h4 : o.parents.length = 0 ∨ ∃ e s, dk = .slice e s ∧ o.parents.length = e.length) : ((kidsO o).length + 16) * 32 ≤ 140737488355328 := by
  have p : o.parts.length * 40 ≤ 140737488351232 := by
    rcases h2 with h0 | ⟨e, s, rfl, hl⟩
    · omega
    · have := sized_fld h (i := 2) ht hd Try.underlying30 rfl rfl Try.underlying24
      rw [bytesP] at this
      simp only [reachBytes] at this
      omega
  have i : o.items.length * 64 ≤ 140737488351232 := by
    rcases h3 with h0 | ⟨e, s, rfl, hl⟩
    · omega
    · have := sized_fld h (i := 3) ht hd Try.underlying30 rfl rfl Try.underlying25
      rw [bytesI] at this
      simp only [reachBytes] at this
      omega
  have k : o.parents.length * 32 ≤ 140737488351232 := by
    rcases h4 with h0 | ⟨e, s, rfl, hl⟩
    · omega
    · have := sized_fld h (i := 5) ht hd Try.underlying30 rfl rfl Try.underlying28
      rw [bytesK] at this
      simp only [reachBytes] at this
      omega
  unfold kidsO
  split
  · rw [List.length_map]; omega
  split
  · rw [List.length_map]; omega
  split
  · rw [List.length_cons]; omega
  · rw [List.length_nil]; omega
set_option maxRecDepth 100000 in
theorem objectKids_lifted (os : Os) (started : os.Started) (H : Type) (enc : TypeId × Value → H) :
    ReturnsInHanded {} Try.checked os 3 .any (Rows.objectKidsSpec.pre6 enc Try.prog Try.f3 Rows.objectKidsRow.domain false) (Rows.objectKidsSpec.post enc Try.prog Try.f3 false true false false) := by
  refine returnsInHanded_of_change_sized (C := Try.checked) own started (by kernel_rfl) Try.func3
    (ChangeSpec.witness6 (enc := enc) (C := Try.checked) false ⟨#[], #[zeroArg], []⟩ 8 (by kernel_rfl) (by kernel_rfl) (by kernel_rfl) (by kernel_rfl)) ?_
  intro W base args ds gs before hval0 hW _ hsz0 _
  have hsz : (DataW.weightsEach Try.prog (Try.f3.params.toList ++ Rows.objectKidsSpec.plain.varTypes Try.prog) (ds ++ gs)).all (· ≤ reachBytes) = true := hsz0
  have hval : ∀ (j : Nat) t v, Try.f3.params[j]? = some t → args[j]? = some v → Value.okWide Try.prog W .any base t v := hval0
  have hW' := hW
  obtain ⟨p, q, hA0, hV, rfl, hfz, hnd⟩ := hW
  have hA : DataW.TrodAll enc Try.prog W 0 (fun _ => true) true Try.f3.params.toList args.toList ds p := hA0
  rw [Try.params3] at hA hval hsz
  obtain ⟨v0, vs0, d0, ds0, p0, q0, hargs, rfl, rfl, h0, r0⟩ := trodAll_cons hA
  obtain ⟨rfl, rfl, rfl⟩ := trodAll_nil r0
  obtain rfl : args = #[v0] := by cases args; simp_all
  obtain ⟨rfl, rfl⟩ := trodVars_none hV
  have k0 := h0
  have lt0 : ∀ x ∈ p0, x.block < W.heap.size := by obtain ⟨m, hm⟩ := k0; exact DataW.trod_lt m _ _ _ hm
  obtain ⟨cs0, rfl, hcs0⟩ := okWide_struct Try.underlying30 (hval 0 30 v0 rfl rfl)
  obtain ⟨fuel0, hf0⟩ := h0
  obtain ⟨x, vx, a0, a4, a6, a7, add, adp, adi, adk, hx, hrx, hdx, _, hx1, hx2, hx3, hx4⟩ := open_obj hf0
  have hdx' : d0 = .agg [a0, add, adp, adi, a4, adk, a6, a7] := hdx
  have sx : ObjSz x := objSz_of hsz (j := 0) rfl (by rw [hdx']; rfl) hx1 hx2 hx3 hx4
  have s16 := kids16_of (o := x) hsz (j := 0) rfl (by rw [hdx']; rfl) hx2 hx3 hx4
  have ex : Value.agg cs0 = .agg (objL x vx).toArray := by rw [← hx]; rfl
  clear hA0 hval0 hsz0
  have hlaw := kids_law W x vx hrx sx s16
  rw [← ex] at hlaw
  refine hlaw.mono fun e W' ⟨he, bel⟩ => ?_
  subst he
  exact ⟨_, rfl, _, _, _, [], _, [], hW', trodAll_mk1 (shut_bool Try.underlying4 _), (trodAll_cons_mk (Below.trod laidOut (by kernel_rfl) (of_decide_eq_true (by kernel_rfl)) k0 bel lt0) trodAll_mk0), rfl, bel.frame _, fun h => by cases h⟩

theorem objectKids_holds : Rows.ObjectKidsSaid :=
  OpenClaim.holds_of_wide 3 Try.f3 rfl rfl rfl rfl rfl rfl rfl ⟨rfl, rfl, rfl, rfl, rfl⟩ rfl rfl rfl rfl rfl (by kernel_rfl) Try.func3 (by kernel_rfl)
    (of_decide_eq_true (by kernel_rfl)) (by unfold Func.isWrapper; first | (rw [if_pos (by decide +kernel)]; kernel_rfl) | (rw [if_neg (by decide +kernel)]; exact ⟨rfl, rfl⟩))
    (fun os started H enc _ => objectKids_lifted os started H enc)
#print axioms objectKids_holds
end Go.Proofs.Ytjcfndiceinkjaa
