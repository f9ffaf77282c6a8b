/- Floats as keys: what a put, a taking out and an asking tell. -/
import Derived.Test.YtnknjcnbbljagaaTG3
namespace Go.Proofs.Ytnknjcnbbljagaa
set_option linter.unusedVariables false
set_option linter.unusedSimpArgs false
namespace FF

section
variable {hf : Nat → Nat} {T : TB} {M : List (Nat × Int)} {P : Nat}
theorem getD_app (M : List (Nat × Int)) (x : Nat × Int) (i : Nat) : (M ++ [x]).getD i (0, 0) = if i < M.length then M.getD i (0, 0) else if i = M.length then x else (0, 0) := by
  simp only [List.getD_eq_getElem?_getD]
  rcases Nat.lt_trichotomy i M.length with h | h | h
  · rw [if_pos h, List.getElem?_append_left h]
  · subst h
    rw [if_neg (Nat.lt_irrefl _), if_pos rfl, List.getElem?_append_right (Nat.le_refl _)]
    simp
  · rw [if_neg (by omega), if_neg (by omega), List.getElem?_eq_none (by simp; omega)]
    rfl
theorem nd_app (nd : ∀ i j, i < M.length → j < M.length → eqK (M.getD i (0, 0)).1 (M.getD j (0, 0)).1 = true → i = j) (wd : WdL M) {k : Nat} (hk : k < 18446744073709551616) (v : Int) (hno : ∀ x ∈ M, eqK x.1 k = false) : ∀ i j, i < (M ++ [(k, v)]).length → j < (M ++ [(k, v)]).length → eqK ((M ++ [(k, v)]).getD i (0, 0)).1 ((M ++ [(k, v)]).getD j (0, 0)).1 = true → i = j := by
  intro i j hi hj h
  rw [List.length_append, List.length_singleton] at hi hj
  rw [getD_app, getD_app] at h
  by_cases i1 : i < M.length
  · by_cases j1 : j < M.length
    · rw [if_pos i1, if_pos j1] at h; exact nd i j i1 j1 h
    · rw [if_pos i1, if_neg j1, if_pos (by omega)] at h
      rw [hno _ (getD_mem i1)] at h; cases h
  · by_cases j1 : j < M.length
    · rw [if_neg i1, if_pos (by omega), if_pos j1] at h
      have := (eqK_symm hk (wd _ (getD_mem j1)) h).1
      rw [hno _ (getD_mem j1)] at this; cases this
    · omega
theorem getD_erase (M : List (Nat × Int)) (q i : Nat) : (M.eraseIdx q).getD i (0, 0) = M.getD (if i < q then i else i + 1) (0, 0) := by
  simp only [List.getD_eq_getElem?_getD, List.getElem?_eraseIdx]
  split <;> rfl
theorem nd_erase {q : Nat} (hq : q < M.length) (nd : ∀ i j, i < M.length → j < M.length → eqK (M.getD i (0, 0)).1 (M.getD j (0, 0)).1 = true → i = j) : ∀ i j, i < (M.eraseIdx q).length → j < (M.eraseIdx q).length → eqK ((M.eraseIdx q).getD i (0, 0)).1 ((M.eraseIdx q).getD j (0, 0)).1 = true → i = j := by
  intro i j hi hj h
  rw [List.length_eraseIdx, if_pos hq] at hi hj
  rw [getD_erase, getD_erase] at h
  have := nd _ _ (by split <;> omega) (by split <;> omega) h
  split at this <;> split at this <;> omega
theorem rel_put (h : Rel hf T M P) (hh : ∀ a b, eqK a b = true → hf a = hf b) (k : Nat) (hk : k < 18446744073709551616) (v : Int) :
    (atF M k M.length = -1 ∧ (seek eqK hf (stepT hf T) k).1 = none ∧ Rel hf (putT eqK hf T k v) (M ++ [(k, v)]) (P + 1)) ∨ ∃ q, q < M.length ∧ atF M k M.length = (q : Int) ∧ (seek eqK hf (stepT hf T) k).1.isSome = true ∧ valT 0 (stepT hf T) (seek eqK hf (stepT hf T) k).1 = (M.getD q (0, 0)).2 ∧ Rel hf (putT eqK hf T k v) (M.set q ((M.getD q (0, 0)).1, v)) (P + 1) := by
  obtain ⟨s1, s2, _⟩ := h.inv.step
  have pm1 := (s2.map cP).trans h.pm
  have wt1 := wd_perm s2 h.wt
  have hp := s1.put hh k v (0 : Int)
  rcases rel_seek hh s1.wy s1.we pm1 h.wd wt1 k hk with ⟨h1, h2⟩ | ⟨q, h1, h2, h3, h4⟩
  · obtain ⟨n1, n2⟩ := hp.no h2
    have hno := (rel_any pm1 h.wd wt1 hk).1 n2
    refine .inl ⟨h1, h2, hp.inv, ?_, nd_app h.nd h.wd hk v hno, ?_, wd_perm n1 (fun x hx => ?_)⟩
    · refine (n1.map cP).trans ?_
      rw [List.map_cons, List.map_append]
      exact (pm1.cons _).trans (List.perm_append_singleton _ _).symm
    · intro x hx
      rcases List.mem_append.1 hx with e | e
      · exact h.wd x e
      · simp at e; rw [e]; exact hk
    · rcases List.mem_cons.1 hx with e | e
      · rw [e]; exact hk
      · exact wt1 x e
  · obtain ⟨k0, k1, R, e1, e2, e3, e4⟩ := hp.yes h4
    obtain ⟨g1, g2, g3, A, C, g4, g5, g6, g7⟩ := rel_val pm1 h.nd h.wd wt1 hk h1 h3 e1 e3
    have hk0 : k0 < 18446744073709551616 := wt1 _ (e3.mem_iff.2 List.mem_cons_self)
    have hk1 : k1 < 18446744073709551616 ∧ canF k1 = canF k := by
      rcases e2 with e | e
      · rw [e]; exact ⟨hk0, g2⟩
      · rw [e]; exact ⟨hk, rfl⟩
    refine .inr ⟨q, h1, h2, Option.isSome_iff_ne_none.2 h4, g1, hp.inv, ?_, nd_set h1 h.nd v, ?_, wd_perm e4 (fun x hx => ?_)⟩
    · rw [g6]
      refine (e4.map cP).trans ?_
      rw [List.map_cons, List.map_append, List.map_cons]
      have ec : cP (k1, v) = cP ((M.getD q (0, 0)).1, v) := by unfold cP; rw [hk1.2, g3]
      rw [ec]
      rw [List.map_append] at g5
      exact (g5.cons _).trans List.perm_middle.symm
    · intro x hx
      rw [g6] at hx
      rcases List.mem_append.1 hx with e | e
      · exact h.wd x (by rw [g4]; exact List.mem_append_left _ e)
      · rcases List.mem_cons.1 e with e | e
        · rw [e]; exact h.wd (M.getD q (0, 0)) (getD_mem h1)
        · exact h.wd x (by rw [g4]; exact List.mem_append_right _ (List.mem_cons_of_mem _ e))
    · rcases List.mem_cons.1 hx with e | e
      · rw [e]; exact hk1.1
      · exact wt1 x (e3.mem_iff.2 (List.mem_cons_of_mem _ e))
theorem rel_del (h : Rel hf T M P) (hh : ∀ a b, eqK a b = true → hf a = hf b) (k : Nat) (hk : k < 18446744073709551616) :
    (atF M k M.length = -1 ∧ (seek eqK hf (stepT hf T) k).1 = none ∧ Rel hf (delT eqK hf T k) M P) ∨ ∃ q, q < M.length ∧ atF M k M.length = (q : Int) ∧ (seek eqK hf (stepT hf T) k).1.isSome = true ∧ valT 0 (stepT hf T) (seek eqK hf (stepT hf T) k).1 = (M.getD q (0, 0)).2 ∧ Rel hf (delT eqK hf T k) (M.eraseIdx q) P := by
  obtain ⟨s1, s2, _⟩ := h.inv.step
  have pm1 := (s2.map cP).trans h.pm
  have wt1 := wd_perm s2 h.wt
  have hp := s1.del hh k (0 : Int)
  rcases rel_seek hh s1.wy s1.we pm1 h.wd wt1 k hk with ⟨h1, h2⟩ | ⟨q, h1, h2, h3, h4⟩
  · have e : delT eqK hf T k = stepT hf T := (hp.no h2).1
    have hi := hp.inv
    refine .inl ⟨h1, h2, hi, ?_, h.nd, h.wd, ?_⟩
    · rw [e]; exact pm1
    · rw [e]; exact wt1
  · obtain ⟨k0, e1, e3⟩ := hp.yes h4
    obtain ⟨g1, g2, g3, A, C, g4, g5, g6, g7⟩ := rel_val pm1 h.nd h.wd wt1 hk h1 h3 e1 e3
    refine .inr ⟨q, h1, h2, Option.isSome_iff_ne_none.2 h4, g1, hp.inv, ?_, nd_erase h1 h.nd, ?_, fun x hx => wt1 x (e3.mem_iff.2 (List.mem_cons_of_mem _ hx))⟩
    · rw [g7]; exact g5
    · intro x hx
      rw [g7] at hx
      rcases List.mem_append.1 hx with e | e
      · exact h.wd x (by rw [g4]; exact List.mem_append_left _ e)
      · exact h.wd x (by rw [g4]; exact List.mem_append_right _ (List.mem_cons_of_mem _ e))
theorem rel_get (h : Rel hf T M P) (hh : ∀ a b, eqK a b = true → hf a = hf b) (k : Nat) (hk : k < 18446744073709551616) :
    (atF M k M.length = -1 ∧ (seek eqK hf T k).1 = none) ∨ ∃ q, q < M.length ∧ atF M k M.length = (q : Int) ∧ (seek eqK hf T k).1.isSome = true ∧ valT 0 T (seek eqK hf T k).1 = (M.getD q (0, 0)).2 := by
  rcases rel_seek hh h.inv.wy h.inv.we h.pm h.wd h.wt k hk with ⟨h1, h2⟩ | ⟨q, h1, h2, h3, h4⟩
  · exact .inl ⟨h1, h2⟩
  · refine .inr ⟨q, h1, h2, Option.isSome_iff_ne_none.2 h4, ?_⟩
    cases hsk : seek eqK hf T k with
    | mk r n =>
      rw [hsk] at h4
      cases r with
      | none => exact absurd rfl h4
      | some bp =>
        obtain ⟨b, p⟩ := bp
        rcases seek_some hsk with ⟨rfl, hp, ⟨k', v', hs', he⟩, _⟩ | ⟨rfl, hp, ⟨k', v', hs', he⟩, _⟩
        · have hval : valT 0 T (some (false, p)) = v' := by simp [valT, hs', valS]
          obtain ⟨u1, _⟩ := bury_spec (hs := hf) hp hs'
          show valT 0 T (some (false, p)) = _
          rw [hval]
          exact (rel_val h.pm h.nd h.wd h.wt hk h1 h3 he ((u1.append_left _).trans List.perm_middle)).1
        · have hval : valT 0 T (some (true, p)) = v' := by simp [valT, hs', valS]
          obtain ⟨u1, _⟩ := bury_spec (hs := hf) hp hs'
          show valT 0 T (some (true, p)) = _
          rw [hval]
          exact (rel_val h.pm h.nd h.wd h.wt hk h1 h3 he (u1.append_right _)).1
theorem rel_new (hf : Nat → Nat) : Rel hf newT [] 0 := by
  have c1 : cnt (List.replicate 8 (Slt.emp : SL)) 1 = 0 := by unfold cnt; rw [List.countP_replicate]; rfl
  have c2 : cnt (List.replicate 8 (Slt.emp : SL)) 2 = 0 := by unfold cnt; rw [List.countP_replicate]; rfl
  refine ⟨⟨⟨.inl ⟨rfl, rfl⟩, ⟨0, rfl⟩, ⟨0, rfl⟩⟩, WayOk.new _ 8, WayOk.nil _, fun p hp => absurd hp (Nat.not_lt_zero _), ⟨by decide, by decide⟩, .inl ⟨rfl, ?_⟩, ?_, .inl rfl⟩, List.Perm.refl _, fun i j hi => absurd hi (Nat.not_lt_zero _), (fun x hx => by cases hx), (fun x hx => by cases hx)⟩
  · show 4 * (cnt (List.replicate 8 (Slt.emp : SL)) 1 + cnt (List.replicate 8 (Slt.emp : SL)) 2) ≤ 3 * 8
    omega
  · show cnt (List.replicate 8 (Slt.emp : SL)) 1 + cnt (List.replicate 8 (Slt.emp : SL)) 2 + cnt ([] : List SL) 1 ≤ 0
    have : cnt ([] : List SL) 1 = 0 := rfl
    omega
theorem inv_mono {hs : Nat → Nat} {T : TB} {P Q : Nat} (h : Inv hs T P) (hq : P ≤ Q) : Inv hs T Q := ⟨h.ok, h.wy, h.we, h.el, h.y8, h.cap, by have := h.np; omega, by rcases h.bd with e | e <;> omega⟩
theorem Rel.mono {Q : Nat} (h : Rel hf T M P) (hq : P ≤ Q) : Rel hf T M Q := ⟨inv_mono h.inv hq, h.pm, h.nd, h.wd, h.wt⟩
theorem Rel.lenP (h : Rel hf T M P) : M.length ≤ P := by
  rw [← h.len]
  have h1 := h.inv.np
  have h2 := cnt_used T.y
  unfold Tb.len
  omega
theorem stepT_y (hs : Nat → Nat) (T : TB) : (stepT hs T).y.length = T.y.length := by
  unfold stepT
  split
  · rfl
  · unfold endT
    have := (mvN_lenG (hs := hs) 8 T).2.1
    split <;> exact this
theorem grow_ok (h : Inv hf T P) (ly : ∃ a, a ≤ 43 ∧ T.y.length = 2 ^ a) (hP : P + 1 ≤ 5864062014700) (k : Nat) (v : Int) : GrowOk (⟨lay (stepT hf T).y (hf k) k v, (stepT hf T).e, (stepT hf T).m⟩ : TB) := by
  intro hl hg
  obtain ⟨s1, _, _⟩ := h.step
  obtain ⟨_, _, _, h4⟩ := s1.more k v
  have h5 := h4 hl (by
    have e : (lay (stepT hf T).y (hf k) k v).length = (stepT hf T).y.length := lay_length ..
    rw [← e]; exact hg)
  show growN (lay (stepT hf T).y (hf k) k v).length _ ≤ _
  rw [lay_length]
  obtain ⟨a, _, ha⟩ := ly
  rw [← stepT_y hf T] at ha
  obtain ⟨b, _, hb⟩ := dbl_pow (2 * Tb.len (⟨lay (stepT hf T).y (hf k) k v, (stepT hf T).e, (stepT hf T).m⟩ : TB) + 2) 64 a
  rw [← ha] at hb
  have hb' : growN (stepT hf T).y.length (Tb.len (⟨lay (stepT hf T).y (hf k) k v, (stepT hf T).e, (stepT hf T).m⟩ : TB)) = 2 ^ b := hb
  rw [hb'] at h5 ⊢
  rcases Nat.lt_or_ge 43 b with g | g
  · have : 2 ^ 44 ≤ 2 ^ b := Nat.pow_le_pow_right (by decide) g
    omega
  · exact Nat.pow_le_pow_right (n := 2) (by decide) g
end
end FF
end Go.Proofs.Ytnknjcnbbljagaa
