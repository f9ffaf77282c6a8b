/- Floats as keys: a table and a plain list of pairs. -/
import Derived.Test.YtnknjcnbbljagaaTG1
import Derived.Test.YtnknjcnbbljagaaTM4
namespace Go.Proofs.Ytnknjcnbbljagaa
set_option linter.unusedVariables false
set_option linter.unusedSimpArgs false
namespace FF

/-- A pair, but for a nought's sign. -/
def cP (x : Nat × Int) : Nat × Int := (canF x.1, x.2)
/-- Keys are words. -/
def WdL (M : List (Nat × Int)) : Prop := ∀ x ∈ M, x.1 < 18446744073709551616
/-- The last place whose key is equal. -/
def atF (M : List (Nat × Int)) (k : Nat) : Nat → Int
  | 0 => -1
  | j + 1 => if eqK (M.getD j (0, 0)).1 k then (j : Int) else atF M k j
/-- A table holds what a list of pairs does. -/
structure Rel (hf : Nat → Nat) (T : TB) (M : List (Nat × Int)) (P : Nat) : Prop where
  inv : Inv hf T P
  pm : (T.prs.map cP).Perm (M.map cP)
  nd : ∀ i j, i < M.length → j < M.length → eqK (M.getD i (0, 0)).1 (M.getD j (0, 0)).1 = true → i = j
  wd : WdL M
  wt : WdL T.prs
theorem eqK_can {a b c : Nat} (ha : a < 18446744073709551616) (hb : b < 18446744073709551616) (hc : c < 18446744073709551616) (h : canF a = canF b) : eqK a c = eqK b c := by
  have e1 := eqK_iff a c ha hc
  have e2 := eqK_iff b c hb hc
  have hn : nnF a ↔ nnF b := by
    unfold nnF
    unfold canF at h
    split at h
    · split at h
      · constructor <;> intro _ <;> (have : infR = 9218868437227405312 := rfl; omega)
      · omega
    · split at h
      · omega
      · rw [h]
  cases h1 : eqK a c <;> cases h2 : eqK b c <;> first | rfl | skip
  · rw [h1] at e1; rw [h2] at e2
    have := e2.1 rfl
    exact absurd (e1.2 ⟨h.trans this.1, hn.2 this.2⟩) (by decide)
  · rw [h1] at e1; rw [h2] at e2
    have := e1.1 rfl
    exact absurd (e2.2 ⟨h.symm.trans this.1, hn.1 this.2⟩) (by decide)
theorem eqK_symm {a b : Nat} (ha : a < 18446744073709551616) (hb : b < 18446744073709551616) (h : eqK a b = true) : eqK b a = true ∧ canF a = canF b := by
  obtain ⟨h1, h2⟩ := (eqK_iff a b ha hb).1 h
  have e : eqK b b = true := by rw [← eqK_can ha hb hb h1]; exact h
  exact ⟨by rw [eqK_iff b a hb ha]; exact ⟨h1.symm, ((eqK_iff b b hb hb).1 e).2⟩, h1⟩
theorem atF_spec (M : List (Nat × Int)) (k : Nat) : ∀ j, (atF M k j = -1 ∧ ∀ q, q < j → eqK (M.getD q (0, 0)).1 k = false) ∨ ∃ q, q < j ∧ atF M k j = (q : Int) ∧ eqK (M.getD q (0, 0)).1 k = true := by
  intro j
  induction j with
  | zero => exact .inl ⟨rfl, fun q h => by omega⟩
  | succ j ih =>
    unfold atF
    by_cases e : eqK (M.getD j (0, 0)).1 k = true
    · rw [if_pos e]
      exact .inr ⟨j, by omega, rfl, e⟩
    · rw [if_neg e]
      rcases ih with ⟨h1, h2⟩ | ⟨q, h1, h2, h3⟩
      · refine .inl ⟨h1, fun q hq => ?_⟩
        by_cases e2 : q = j
        · rw [e2]; simpa using e
        · exact h2 q (by omega)
      · exact .inr ⟨q, by omega, h2, h3⟩
theorem getD_mem {M : List (Nat × Int)} {q : Nat} (h : q < M.length) : M.getD q (0, 0) ∈ M := by
  rw [List.getD_eq_getElem?_getD, List.getElem?_eq_getElem h]
  exact List.getElem_mem _
theorem splitF (M : List (Nat × Int)) (q : Nat) (hq : q < M.length) : ∃ A C, M = A ++ M.getD q (0, 0) :: C ∧ A.length = q ∧ (∀ x, M.set q x = A ++ x :: C) ∧ M.eraseIdx q = A ++ C := by
  refine ⟨M.take q, M.drop (q + 1), ?_, by simp; omega, fun x => ?_, List.eraseIdx_eq_take_drop_succ ..⟩
  · conv => lhs; rw [← List.take_append_drop q M]
    rw [List.drop_eq_getElem_cons hq]
    simp [List.getD_eq_getElem?_getD, List.getElem?_eq_getElem hq]
  · rw [List.set_eq_take_append_cons_drop, if_pos hq]
section
variable {hf : Nat → Nat} {T : TB} {M : List (Nat × Int)} {P : Nat}
theorem Rel.len (h : Rel hf T M P) : T.len = M.length := by
  rw [Tb.len_prs]
  have := h.pm.length_eq
  simpa using this
/-- Is there an equal key in the table? Just if there is one in the list. -/
theorem rel_any (pm : (T.prs.map cP).Perm (M.map cP)) (wd : WdL M) (wt : WdL T.prs) {k : Nat} (hk : k < 18446744073709551616) : (∀ x ∈ T.prs, eqK x.1 k = false) ↔ ∀ x ∈ M, eqK x.1 k = false := by
  have go : ∀ (A B : List (Nat × Int)), WdL A → WdL B → (A.map cP).Perm (B.map cP) → (∀ x ∈ A, eqK x.1 k = false) → ∀ x ∈ B, eqK x.1 k = false := by
    intro A B wa wb hp h x hx
    have hm : cP x ∈ A.map cP := hp.mem_iff.2 (List.mem_map.2 ⟨x, hx, rfl⟩)
    obtain ⟨y, hy, e⟩ := List.mem_map.1 hm
    have e1 : canF y.1 = canF x.1 := congrArg Prod.fst e
    rw [← eqK_can (wa y hy) (wb x hx) hk e1]
    exact h y hy
  exact ⟨go _ _ wt wd pm, go _ _ wd wt pm.symm⟩
theorem rel_seek (hh : ∀ a b, eqK a b = true → hf a = hf b) (wy : WayOk hf T.y) (we : WayOk hf T.e) (pm : (T.prs.map cP).Perm (M.map cP)) (wd : WdL M) (wt : WdL T.prs) (k : Nat) (hk : k < 18446744073709551616) :
    (atF M k M.length = -1 ∧ (seek eqK hf T k).1 = none) ∨ ∃ q, q < M.length ∧ atF M k M.length = (q : Int) ∧ eqK (M.getD q (0, 0)).1 k = true ∧ (seek eqK hf T k).1 ≠ none := by
  have hany := rel_any pm wd wt hk
  cases hsk : seek eqK hf T k with
  | mk r n =>
    rcases atF_spec M k M.length with ⟨h1, h2⟩ | ⟨q, h1, h2, h3⟩
    · refine .inl ⟨h1, ?_⟩
      cases r with
      | none => rfl
      | some bp =>
        exfalso
        obtain ⟨b, p⟩ := bp
        have hno : ∀ x ∈ M, eqK x.1 k = false := fun x hx => by
          obtain ⟨i, hi, rfl⟩ := List.mem_iff_getElem.1 hx
          have := h2 i hi
          simpa [List.getD_eq_getElem?_getD, List.getElem?_eq_getElem hi] using this
        have : ∃ x ∈ T.prs, eqK x.1 k = true := by
          rcases seek_some hsk with ⟨rfl, hp, ⟨k', v', hs', he⟩, _⟩ | ⟨rfl, hp, ⟨k', v', hs', he⟩, _⟩
          · obtain ⟨A, B, a1, _⟩ := prs_split T.y p hp
            refine ⟨(k', v'), List.mem_append_right _ ?_, he⟩
            rw [a1, hs']; simp [prS]
          · obtain ⟨A, B, a1, _⟩ := prs_split T.e p hp
            refine ⟨(k', v'), List.mem_append_left _ ?_, he⟩
            rw [a1, hs']; simp [prS]
        obtain ⟨x, hx, he⟩ := this
        rw [hany.2 hno x hx] at he
        cases he
    · refine .inr ⟨q, h1, h2, h3, fun e => ?_⟩
      have e' : r = none := e
      subst e'
      have := hany.1 (seek_no wy we hh hsk) _ (getD_mem h1)
      rw [h3] at this
      cases this
theorem rel_val (pm : (T.prs.map cP).Perm (M.map cP)) (nd : ∀ i j, i < M.length → j < M.length → eqK (M.getD i (0, 0)).1 (M.getD j (0, 0)).1 = true → i = j) (wd : WdL M) (wt : WdL T.prs) {k k0 : Nat} (hk : k < 18446744073709551616) {q : Nat} (hq : q < M.length) (he : eqK (M.getD q (0, 0)).1 k = true) (he0 : eqK k0 k = true) {v0 : Int} {R : List (Nat × Int)} (hp : T.prs.Perm ((k0, v0) :: R)) :
    v0 = (M.getD q (0, 0)).2 ∧ canF k0 = canF k ∧ canF (M.getD q (0, 0)).1 = canF k ∧ ∃ A C, M = A ++ M.getD q (0, 0) :: C ∧ (R.map cP).Perm ((A ++ C).map cP) ∧ (∀ x, M.set q x = A ++ x :: C) ∧ M.eraseIdx q = A ++ C := by
  have hk0 : k0 < 18446744073709551616 := wt (k0, v0) (hp.mem_iff.2 (by simp))
  have hkq := wd _ (getD_mem hq)
  have c0 := (eqK_symm hk0 hk he0).2
  have cq := (eqK_symm hkq hk he).2
  obtain ⟨A, C, h1, h2, h3, h4⟩ := splitF M q hq
  have pm2 : ((canF k0, v0) :: R.map cP).Perm (M.map cP) := (hp.map cP).symm.trans pm
  have hmem : (canF k0, v0) ∈ M.map cP := pm2.mem_iff.1 (by simp)
  obtain ⟨y, hy, ey⟩ := List.mem_map.1 hmem
  obtain ⟨i, hi, rfl⟩ := List.mem_iff_getElem.1 hy
  have gi : M.getD i (0, 0) = M[i] := by simp [List.getD_eq_getElem?_getD, List.getElem?_eq_getElem hi]
  have eci : canF M[i].1 = canF k0 := congrArg Prod.fst ey
  have evi : M[i].2 = v0 := congrArg Prod.snd ey
  have hki := wd _ (List.getElem_mem hi)
  have hiq : i = q := nd i q hi hq (by
    rw [gi, eqK_can hki hk hkq (eci.trans c0)]
    exact (eqK_symm hkq hk he).1)
  subst hiq
  refine ⟨by rw [gi]; exact evi.symm, c0, cq, A, C, h1, ?_, h3, h4⟩
  have hx : cP (M.getD i (0, 0)) = (canF k0, v0) := by rw [gi]; exact ey
  have h5 : ((canF k0, v0) :: R.map cP).Perm ((canF k0, v0) :: (A ++ C).map cP) := by
    refine pm2.trans ?_
    conv => lhs; rw [h1]
    rw [List.map_append, List.map_cons, hx, List.map_append]
    exact List.perm_middle
  exact h5.cons_inv
theorem wd_perm {A B : List (Nat × Int)} (h : A.Perm B) (hb : WdL B) : WdL A := fun x hx => hb x (h.mem_iff.1 hx)
theorem nd_set {q : Nat} (hq : q < M.length) (nd : ∀ i j, i < M.length → j < M.length → eqK (M.getD i (0, 0)).1 (M.getD j (0, 0)).1 = true → i = j) (v : Int) : ∀ i j, i < (M.set q ((M.getD q (0, 0)).1, v)).length → j < (M.set q ((M.getD q (0, 0)).1, v)).length → eqK ((M.set q ((M.getD q (0, 0)).1, v)).getD i (0, 0)).1 ((M.set q ((M.getD q (0, 0)).1, v)).getD j (0, 0)).1 = true → i = j := by
  have key : ∀ i, i < M.length → ((M.set q ((M.getD q (0, 0)).1, v)).getD i (0, 0)).1 = (M.getD i (0, 0)).1 := fun i hi => by
    simp only [List.getD_eq_getElem?_getD]
    by_cases e : i = q
    · subst e; rw [List.getElem?_set_self hi]; rfl
    · rw [List.getElem?_set_ne (fun h => e h.symm)]
  intro i j hi hj
  rw [List.length_set] at hi hj
  rw [key i hi, key j hj]
  exact nd i j hi hj
end
end FF
end Go.Proofs.Ytnknjcnbbljagaa
