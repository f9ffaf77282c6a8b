/- Whole numbers as keys: a table and a plain list of pairs. -/
import Derived.Test.YtnknjcnbbljagaaTM3
import Derived.Test.YtnknjcnbbljagaaTN2
namespace Go.Proofs.Ytnknjcnbbljagaa
set_option linter.unusedVariables false
set_option linter.unusedSimpArgs false

section
theorem eqK_hs (ti ma : Int) : ∀ a b, eqK a b = true → hsh ti ma a = hsh ti ma b := fun a b h => by
  unfold eqK at h
  rw [eq_of_beq h]
theorem atG_spec (M : List (Int × Int)) (k : Int) : ∀ f i, i + f = M.length → (atG M k f i = -1 ∧ ∀ q, i ≤ q → q < M.length → (M.getD q (0, 0)).1 ≠ k) ∨ ∃ q, i ≤ q ∧ q < M.length ∧ atG M k f i = (q : Int) ∧ (M.getD q (0, 0)).1 = k := by
  intro f
  induction f with
  | zero => intro i h; exact .inl ⟨rfl, fun q h1 h2 => by omega⟩
  | succ f ih =>
    intro i h
    unfold atG
    by_cases e : (M.getD i (0, 0)).1 = k
    · rw [if_pos (beq_iff_eq.2 e)]
      exact .inr ⟨i, Nat.le_refl _, by omega, rfl, e⟩
    · rw [if_neg (fun h => e (beq_iff_eq.1 h))]
      rcases ih (i + 1) (by omega) with ⟨h1, h2⟩ | ⟨q, h1, h2, h3, h4⟩
      · refine .inl ⟨h1, fun q g1 g2 => ?_⟩
        by_cases e2 : q = i
        · rw [e2]; exact e
        · exact h2 q (by omega) g2
      · exact .inr ⟨q, by omega, h2, h3, h4⟩
theorem atM_spec (M : List (Int × Int)) (k : Int) : (atM M k = -1 ∧ ∀ x ∈ M, x.1 ≠ k) ∨ ∃ q, q < M.length ∧ atM M k = (q : Int) ∧ (M.getD q (0, 0)).1 = k := by
  rcases atG_spec M k M.length 0 (by omega) with ⟨h1, h2⟩ | ⟨q, _, h2, h3, h4⟩
  · refine .inl ⟨h1, fun x hx => ?_⟩
    obtain ⟨p, hp, rfl⟩ := List.mem_iff_getElem.1 hx
    have := h2 p (Nat.zero_le _) hp
    simpa [List.getD_eq_getElem?_getD, List.getElem?_eq_getElem hp] using this
  · exact .inr ⟨q, h2, h3, h4⟩
/-- A table holds what a list of pairs does. -/
structure Rel (ti ma : Int) (T : TB) (M : List (Int × Int)) (P : Nat) : Prop where
  inv : Inv (hsh ti ma) T P
  pm : T.prs.Perm M
  nd : (M.map Prod.fst).Nodup
theorem split_at (M : List (Int × Int)) (q : Nat) (hq : q < M.length) : ∃ A C, M = A ++ M.getD q (0, 0) :: C ∧ A.length = q ∧ (∀ x, M.set q x = A ++ x :: C) ∧ M.eraseIdx q = A ++ C := by
  refine ⟨M.take q, M.drop (q + 1), ?_, by simp; omega, fun x => ?_, List.eraseIdx_eq_take_drop_succ ..⟩
  · conv => lhs; rw [← List.take_append_drop q M]
    rw [List.drop_eq_getElem_cons hq]
    simp [List.getD_eq_getElem?_getD, List.getElem?_eq_getElem hq]
  · rw [List.set_eq_take_append_cons_drop, if_pos hq]
theorem key_one {M : List (Int × Int)} (nd : (M.map Prod.fst).Nodup) {A C : List (Int × Int)} {k a b : Int} (hM : M = A ++ (k, a) :: C) (hb : (k, b) ∈ M) : b = a := by
  subst hM
  rw [List.map_append, List.map_cons] at nd
  have h2 := List.nodup_append.1 nd
  rcases List.mem_append.1 hb with h | h
  · exact absurd rfl (h2.2.2 k (List.mem_map.2 ⟨_, h, rfl⟩) k (by simp))
  · rcases List.mem_cons.1 h with h | h
    · cases h; rfl
    · exact absurd (List.mem_map.2 ⟨_, h, rfl⟩) (List.nodup_cons.1 h2.2.1).1
variable {ti ma : Int} {T : TB} {M : List (Int × Int)} {P : Nat}
theorem Rel.len (h : Rel ti ma T M P) : T.len = M.length := by rw [Tb.len_prs, h.pm.length_eq]
/-- What finding a key tells. -/
theorem rel_seek {T : TB} (wy : WayOk (hsh ti ma) T.y) (we : WayOk (hsh ti ma) T.e) (pm : T.prs.Perm M) (nd : (M.map Prod.fst).Nodup) (k : Int) :
    (atM M k = -1 ∧ (seek eqK (hsh ti ma) T k).1 = none ∧ ∀ x ∈ M, x.1 ≠ k) ∨ ∃ q, q < M.length ∧ atM M k = (q : Int) ∧ (M.getD q (0, 0)).1 = k ∧ (seek eqK (hsh ti ma) T k).1 ≠ none := by
  cases hsk : seek eqK (hsh ti ma) T k with
  | mk r n =>
    rcases atM_spec M k with ⟨h1, h2⟩ | ⟨q, h1, h2, h3⟩
    · refine .inl ⟨h1, ?_, h2⟩
      cases r with
      | none => rfl
      | some bp =>
        exfalso
        obtain ⟨b, p⟩ := bp
        have : ∃ v, (k, v) ∈ T.prs := by
          rcases seek_some hsk with ⟨rfl, hp, ⟨k', v', hs', he⟩, _⟩ | ⟨rfl, hp, ⟨k', v', hs', he⟩, _⟩
          · obtain ⟨A, B, a1, _⟩ := prs_split T.y p hp
            refine ⟨v', List.mem_append_right _ ?_⟩
            rw [a1, hs', ← eq_of_beq he]; simp [prS]
          · obtain ⟨A, B, a1, _⟩ := prs_split T.e p hp
            refine ⟨v', List.mem_append_left _ ?_⟩
            rw [a1, hs', ← eq_of_beq he]; simp [prS]
        obtain ⟨v, hv⟩ := this
        exact h2 _ (pm.mem_iff.1 hv) rfl
    · refine .inr ⟨q, h1, h2, h3, fun e => ?_⟩
      have e' : r = none := e
      subst e'
      have hm : M.getD q (0, 0) ∈ T.prs := pm.mem_iff.2 (by
        rw [List.getD_eq_getElem?_getD, List.getElem?_eq_getElem h1]
        exact List.getElem_mem _)
      have := seek_no wy we (eqK_hs ti ma) hsk _ hm
      rw [h3] at this
      simp [eqK] at this
theorem rel_val {T : TB} (pm : T.prs.Perm M) (nd : (M.map Prod.fst).Nodup) {k : Int} {q : Nat} (hq : q < M.length) (hk : (M.getD q (0, 0)).1 = k) {v0 : Int} {R : List (Int × Int)} (hp : T.prs.Perm ((k, v0) :: R)) : v0 = (M.getD q (0, 0)).2 ∧ ∃ A C, M = A ++ (k, v0) :: C ∧ R.Perm (A ++ C) ∧ (∀ x, M.set q x = A ++ x :: C) ∧ M.eraseIdx q = A ++ C := by
  obtain ⟨A, C, h1, _, h3, h4⟩ := split_at M q hq
  have hx : M.getD q (0, 0) = (k, (M.getD q (0, 0)).2) := Prod.ext hk rfl
  rw [hx] at h1
  have hmem : (k, v0) ∈ M := (pm.symm.trans hp).mem_iff.2 (by simp)
  have hv := key_one nd h1 hmem
  refine ⟨hv, A, C, by rw [hv]; exact h1, ?_, h3, h4⟩
  have h5 : ((k, v0) :: R).Perm ((k, v0) :: (A ++ C)) := by
    refine hp.symm.trans (pm.trans ?_)
    rw [h1, ← hv]
    exact List.perm_middle
  exact h5.cons_inv
theorem rel_put (h : Rel ti ma T M P) (k v : Int) :
    (atM M k = -1 ∧ (seek eqK (hsh ti ma) (stepT (hsh ti ma) T) k).1 = none ∧ Rel ti ma (putT eqK (hsh ti ma) T k v) (M ++ [(k, v)]) (P + 1)) ∨ ∃ q, q < M.length ∧ atM M k = (q : Int) ∧ (M.getD q (0, 0)).1 = k ∧ (seek eqK (hsh ti ma) (stepT (hsh ti ma) T) k).1.isSome = true ∧ valT 0 (stepT (hsh ti ma) T) (seek eqK (hsh ti ma) (stepT (hsh ti ma) T) k).1 = (M.getD q (0, 0)).2 ∧ Rel ti ma (putT eqK (hsh ti ma) T k v) (M.set q (k, v)) (P + 1) := by
  obtain ⟨s1, s2, _⟩ := h.inv.step
  have pm1 := s2.trans h.pm
  have hp := s1.put (eqK_hs ti ma) k v (0 : Int)
  rcases rel_seek s1.wy s1.we pm1 h.nd k with ⟨h1, h2, h3⟩ | ⟨q, h1, h2, h3, h4⟩
  · refine .inl ⟨h1, h2, hp.inv, ((hp.no h2).1.trans (pm1.cons _)).trans (List.perm_append_singleton _ _).symm, ?_⟩
    rw [List.map_append]
    refine List.nodup_append.2 ⟨h.nd, by simp, fun a ha b hb => ?_⟩
    simp at hb
    subst hb
    obtain ⟨x, hx, rfl⟩ := List.mem_map.1 ha
    exact h3 x hx
  · obtain ⟨k0, k1, R, e1, e2, e3, e4⟩ := hp.yes h4
    have e0 : k0 = k := eq_of_beq e1
    subst e0
    have e5 : k1 = k0 := by rcases e2 with e | e <;> exact e
    subst e5
    obtain ⟨g1, A, C, g2, g3, g4, g5⟩ := rel_val pm1 h.nd h1 h3 e3
    refine .inr ⟨q, h1, h2, h3, Option.isSome_iff_ne_none.2 h4, g1, hp.inv, ?_, ?_⟩
    · rw [g4]
      exact e4.trans ((g3.cons _).trans List.perm_middle.symm)
    · rw [g4]
      have := h.nd
      rw [g2] at this
      simpa using this
theorem rel_del (h : Rel ti ma T M P) (k : Int) :
    (atM M k = -1 ∧ (seek eqK (hsh ti ma) (stepT (hsh ti ma) T) k).1 = none ∧ Rel ti ma (delT eqK (hsh ti ma) T k) M P) ∨ ∃ q, q < M.length ∧ atM M k = (q : Int) ∧ (M.getD q (0, 0)).1 = k ∧ (seek eqK (hsh ti ma) (stepT (hsh ti ma) T) k).1.isSome = true ∧ valT 0 (stepT (hsh ti ma) T) (seek eqK (hsh ti ma) (stepT (hsh ti ma) T) k).1 = (M.getD q (0, 0)).2 ∧ Rel ti ma (delT eqK (hsh ti ma) T k) (M.eraseIdx q) P := by
  obtain ⟨s1, s2, _⟩ := h.inv.step
  have pm1 := s2.trans h.pm
  have hp := s1.del (eqK_hs ti ma) k (0 : Int)
  rcases rel_seek s1.wy s1.we pm1 h.nd k with ⟨h1, h2, h3⟩ | ⟨q, h1, h2, h3, h4⟩
  · refine .inl ⟨h1, h2, hp.inv, ?_, h.nd⟩
    show (delG eqK (hsh ti ma) (stepT (hsh ti ma) T) k).prs.Perm M
    rw [(hp.no h2).1]
    exact pm1
  · obtain ⟨k0, e1, e3⟩ := hp.yes h4
    have e0 : k0 = k := eq_of_beq e1
    subst e0
    obtain ⟨g1, A, C, g2, g3, g4, g5⟩ := rel_val pm1 h.nd h1 h3 e3
    refine .inr ⟨q, h1, h2, h3, Option.isSome_iff_ne_none.2 h4, g1, hp.inv, ?_, ?_⟩
    · rw [g5]; exact g3
    · rw [g5]
      have := h.nd
      rw [g2] at this
      refine this.sublist ?_
      simp
theorem rel_get (h : Rel ti ma T M P) (k : Int) :
    (atM M k = -1 ∧ (seek eqK (hsh ti ma) T k).1 = none) ∨ ∃ q, q < M.length ∧ atM M k = (q : Int) ∧ (M.getD q (0, 0)).1 = k ∧ (seek eqK (hsh ti ma) T k).1.isSome = true ∧ valT 0 T (seek eqK (hsh ti ma) T k).1 = (M.getD q (0, 0)).2 := by
  rcases rel_seek h.inv.wy h.inv.we h.pm h.nd k with ⟨h1, h2, h3⟩ | ⟨q, h1, h2, h3, h4⟩
  · exact .inl ⟨h1, h2⟩
  · refine .inr ⟨q, h1, h2, h3, Option.isSome_iff_ne_none.2 h4, ?_⟩
    cases hsk : seek eqK (hsh ti ma) T k with
    | mk r n =>
      rw [hsk] at h4
      cases r with
      | none => exact absurd rfl h4
      | some bp =>
        obtain ⟨b, p⟩ := bp
        rcases seek_some hsk with ⟨rfl, hp, ⟨k', v', hs', he⟩, _⟩ | ⟨rfl, hp, ⟨k', v', hs', he⟩, _⟩
        · have e0 : k' = k := eq_of_beq he
          subst e0
          have hval : valT 0 T (some (false, p)) = v' := by simp [valT, hs', valS]
          obtain ⟨u1, _⟩ := bury_spec (hs := hsh ti ma) hp hs'
          show valT 0 T (some (false, p)) = _
          rw [hval]
          exact (rel_val h.pm h.nd h1 h3 ((u1.append_left _).trans List.perm_middle)).1
        · have e0 : k' = k := eq_of_beq he
          subst e0
          have hval : valT 0 T (some (true, p)) = v' := by simp [valT, hs', valS]
          obtain ⟨u1, _⟩ := bury_spec (hs := hsh ti ma) hp hs'
          show valT 0 T (some (true, p)) = _
          rw [hval]
          exact (rel_val h.pm h.nd h1 h3 (u1.append_right _)).1
end
end Go.Proofs.Ytnknjcnbbljagaa
