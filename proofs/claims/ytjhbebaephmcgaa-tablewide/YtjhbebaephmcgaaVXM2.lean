/- A table is a map, pure: the invariant; a step, a put, a taking out. -/
import Derived.Test.YtjhbebaephmcgaaVXM1
namespace Go.Proofs.Ytjhbebaephmcgaa
set_option linter.unusedVariables false
set_option linter.unusedSimpArgs false
namespace TX

section
variable {K V : Type} {hs : K → Nat} {eq : K → K → Bool}
/-- What stands of a table behind P puts. -/
structure Inv (hs : K → Nat) (T : Tb K V) (P : Nat) : Prop where
  ok : TOk T
  wy : WayOk hs T.y
  we : WayOk hs T.e
  el : ∀ p, p < T.m → (sat T.e p).st ≠ 1
  y8 : 8 ≤ T.y.length ∧ 8 ∣ T.y.length
  cap : (T.e.length = 0 ∧ 4 * used T.y ≤ 3 * T.y.length) ∨ (T.e.length ≠ 0 ∧ T.e.length ≤ T.y.length ∧ 2 * (used T.y + cnt T.e 1 + 1) ≤ T.y.length + 2 * (T.m / 8))
  np : used T.y + cnt T.e 1 ≤ P
  bd : T.y.length = 8 ∨ 3 * T.y.length ≤ 8 * P
theorem cnt_used (L : List (Slt K V)) : cnt L 1 ≤ used L := Nat.le_add_right _ _
theorem Inv.room {T : Tb K V} {P : Nat} (h : Inv hs T P) : cnt T.y 1 + 1 ≤ T.y.length := by
  have h1 := cnt_used T.y
  have h2 := h.y8.1
  have h3 := h.ok.mv
  rcases h.cap with ⟨_, h4⟩ | ⟨h4, h5, h6⟩
  · omega
  · omega
theorem Inv.small {T : Tb K V} {P : Nat} (h : Inv hs T P) : T.len ≤ T.y.length ∧ T.e.length ≤ T.y.length := by
  have h1 := cnt_used T.y
  have h2 := cnt_le T.e 1
  have h3 := h.ok.mv
  have h4 := h.y8.1
  unfold Tb.len
  rcases h.cap with ⟨h5, h6⟩ | ⟨h5, h6, h7⟩
  · omega
  · omega
/-- The same, in the midst of a step: how many slots of it are done. -/
structure Mid (hs : K → Nat) (T : Tb K V) (j P : Nat) : Prop where
  wy : WayOk hs T.y
  we : WayOk hs T.e
  el : ∀ p, p < T.m → (sat T.e p).st ≠ 1
  le : T.e.length ≤ T.y.length
  y8 : 8 ≤ T.y.length ∧ 8 ∣ T.y.length
  m : T.m + (8 - j) ≤ T.e.length
  cap : 2 * (used T.y + cnt T.e 1 + 1) ≤ T.y.length + 2 * ((T.m - j) / 8)
  np : used T.y + cnt T.e 1 ≤ P
theorem Mid.one {T : Tb K V} {j P : Nat} (h : Mid hs T j P) (hj : j < 8) : Mid hs (mv1 hs T) (j + 1) P ∧ (mv1 hs T).prs.Perm T.prs := by
  have hm : T.m < T.e.length := by have := h.m; omega
  have b1 := h.m
  have b2 := h.cap
  have b3 := h.np
  have b4 := cnt_used T.y
  have b5 := h.le
  have b6 := h.y8.1
  have sub : T.m + 1 - (j + 1) = T.m - j := by omega
  unfold mv1
  cases hs' : sat T.e T.m with
  | emp =>
    refine ⟨⟨h.wy, h.we, fun p hp => ?_, h.le, h.y8, by show T.m + 1 + (8 - (j + 1)) ≤ T.e.length; omega, by show 2 * _ ≤ _ + 2 * ((T.m + 1 - (j + 1)) / 8); rw [sub]; exact b2, h.np⟩, List.Perm.refl _⟩
    by_cases e : p = T.m
    · rw [e, hs']; intro h; cases h
    · exact h.el p (by have : p < T.m + 1 := hp; omega)
  | tmb =>
    refine ⟨⟨h.wy, h.we, fun p hp => ?_, h.le, h.y8, by show T.m + 1 + (8 - (j + 1)) ≤ T.e.length; omega, by show 2 * _ ≤ _ + 2 * ((T.m + 1 - (j + 1)) / 8); rw [sub]; exact b2, h.np⟩, List.Perm.refl _⟩
    by_cases e : p = T.m
    · rw [e, hs']; intro h; cases h
    · exact h.el p (by have : p < T.m + 1 := hp; omega)
  | ful k v =>
    have hroom : cnt T.y 1 < T.y.length := by omega
    obtain ⟨l1, l2, l3, l4⟩ := lay_spec (hs := hs) k v hroom
    obtain ⟨u1, u2, u3, u4⟩ := bury_spec (hs := hs) hm hs'
    refine ⟨⟨l2 h.wy, u2 h.we, fun p hp => ?_, ?_, ?_, ?_, ?_, ?_⟩, ?_⟩
    · rw [sat_set hm]
      by_cases e : p = T.m
      · rw [if_pos e]; intro h; cases h
      · rw [if_neg e]; exact h.el p (by have : p < T.m + 1 := hp; omega)
    · show (T.e.set T.m .tmb).length ≤ (lay T.y (hs k) k v).length
      rw [lay_length, List.length_set]; exact h.le
    · show 8 ≤ (lay T.y (hs k) k v).length ∧ 8 ∣ (lay T.y (hs k) k v).length
      rw [lay_length]; exact h.y8
    · show T.m + 1 + (8 - (j + 1)) ≤ (T.e.set T.m .tmb).length
      rw [List.length_set]; omega
    · show 2 * (used (lay T.y (hs k) k v) + cnt (T.e.set T.m .tmb) 1 + 1) ≤ (lay T.y (hs k) k v).length + 2 * ((T.m + 1 - (j + 1)) / 8)
      rw [lay_length, sub]; omega
    · show used (lay T.y (hs k) k v) + cnt (T.e.set T.m .tmb) 1 ≤ P
      omega
    · show (prs (T.e.set T.m .tmb) ++ prs (lay T.y (hs k) k v)).Perm (prs T.e ++ prs T.y)
      refine (l1.append_left _).trans ?_
      refine List.perm_middle.trans ?_
      exact (u1.append_right _).symm
theorem Mid.all {T : Tb K V} {P : Nat} (h : Mid hs T 0 P) : ∀ j, j ≤ 8 → Mid hs (mvN hs j T) j P ∧ (mvN hs j T).prs.Perm T.prs := by
  intro j
  induction j with
  | zero => intro _; exact ⟨h, List.Perm.refl _⟩
  | succ j ih =>
    intro hj
    obtain ⟨h1, h2⟩ := ih (by omega)
    obtain ⟨h3, h4⟩ := h1.one (by omega)
    exact ⟨h3, h4.trans h2⟩
theorem mv1_lenG (T : Tb K V) : (mv1 hs T).e.length = T.e.length ∧ (mv1 hs T).y.length = T.y.length ∧ (mv1 hs T).m = T.m + 1 := by
  unfold mv1
  split
  · exact ⟨List.length_set, lay_length .., rfl⟩
  · exact ⟨rfl, rfl, rfl⟩
  · exact ⟨rfl, rfl, rfl⟩
theorem mvN_lenG (n : Nat) (T : Tb K V) : (mvN hs n T).e.length = T.e.length ∧ (mvN hs n T).y.length = T.y.length ∧ (mvN hs n T).m = T.m + n := by
  induction n with
  | zero => exact ⟨rfl, rfl, rfl⟩
  | succ n ih =>
    have := mv1_lenG (hs := hs) (mvN hs n T)
    exact ⟨this.1.trans ih.1, this.2.1.trans ih.2.1, by rw [mvN, this.2.2, ih.2.2]; rfl⟩
theorem prs_none {L : List (Slt K V)} (h : ∀ p, p < L.length → (sat L p).st ≠ 1) : prs L = [] := by
  apply List.eq_nil_of_length_eq_zero
  rw [← cnt_prs]
  unfold cnt
  rw [List.countP_eq_zero]
  intro x hx
  obtain ⟨p, hp, rfl⟩ := List.mem_iff_getElem.1 hx
  have := h p hp
  rw [show sat L p = L[p] by simp [sat, List.getD_eq_getElem?_getD, List.getElem?_eq_getElem hp]] at this
  simp [this]
theorem TOk.eightG {T : Tb K V} (h : TOk T) (hl : T.left ≠ 0) : T.m + 8 ≤ T.e.length := by
  obtain ⟨a, ha⟩ := h.m8
  obtain ⟨b, hb⟩ := h.e8
  unfold Tb.left at hl
  rcases h.mv with ⟨h1, h2⟩ | h1 <;> omega
/-- Behind a step: what it leaves, with room for one more. -/
structure Stp (hs : K → Nat) (T : Tb K V) (P : Nat) : Prop where
  ok : TOk T
  wy : WayOk hs T.y
  we : WayOk hs T.e
  el : ∀ p, p < T.m → (sat T.e p).st ≠ 1
  y8 : 8 ≤ T.y.length ∧ 8 ∣ T.y.length
  cap : (T.e.length = 0 ∧ 4 * used T.y ≤ 3 * T.y.length) ∨ (T.e.length ≠ 0 ∧ T.e.length ≤ T.y.length ∧ 2 * (used T.y + cnt T.e 1 + 1 + 1) ≤ T.y.length + 2 * (T.m / 8))
  np : used T.y + cnt T.e 1 ≤ P
  bd : T.y.length = 8 ∨ 3 * T.y.length ≤ 8 * P
theorem Stp.inv {T : Tb K V} {P : Nat} (h : Stp hs T P) : Inv hs T P := ⟨h.ok, h.wy, h.we, h.el, h.y8, h.cap.imp id (fun ⟨h1, h2, h3⟩ => ⟨h1, h2, by omega⟩), h.np, h.bd⟩
theorem Inv.step {T : Tb K V} {P : Nat} (h : Inv hs T P) : Stp hs (stepT hs T) P ∧ (stepT hs T).prs.Perm T.prs ∧ (8 < T.left → (stepT hs T).left = T.left - 8) := by
  have hy := h.y8
  by_cases hl : T.left = 0
  · have e : stepT hs T = T := by unfold stepT; rw [if_pos hl]
    rw [e]
    have he : T.e.length = 0 := by
      unfold Tb.left at hl
      rcases h.ok.mv with h1 | h1 <;> omega
    refine ⟨⟨h.ok, h.wy, h.we, h.el, h.y8, ?_, h.np, h.bd⟩, List.Perm.refl _, fun g => by omega⟩
    rcases h.cap with h1 | ⟨h1, _⟩
    · exact .inl h1
    · exact absurd he h1
  · have h8 := h.ok.eightG hl
    have ce : T.e.length ≠ 0 := by omega
    obtain ⟨c1, c2, c3⟩ : T.e.length ≠ 0 ∧ T.e.length ≤ T.y.length ∧ 2 * (used T.y + cnt T.e 1 + 1) ≤ T.y.length + 2 * (T.m / 8) := by
      rcases h.cap with ⟨h1, _⟩ | h1
      · exact absurd h1 ce
      · exact h1
    have hmid : Mid hs T 0 P := ⟨h.wy, h.we, h.el, c2, h.y8, by omega, c3, h.np⟩
    obtain ⟨m1, m2⟩ := hmid.all 8 (Nat.le_refl _)
    obtain ⟨l1, l2, l3⟩ := mvN_lenG (hs := hs) 8 T
    have hb := h.bd
    rw [← l2] at hb hy
    have e : stepT hs T = endT (mvN hs 8 T) := by unfold stepT; rw [if_neg hl]
    rw [e]
    have m8 := h.ok.m8
    have e8 := h.ok.e8
    have hd : (mvN hs 8 T).m - 8 = T.m := by omega
    have mc := m1.cap
    rw [hd] at mc
    have hm8 : (mvN hs 8 T).m / 8 = T.m / 8 + 1 := by rw [l3]; omega
    by_cases h0 : (mvN hs 8 T).left = 0
    · have e2 : endT (mvN hs 8 T) = ⟨(mvN hs 8 T).y, [], 0⟩ := by unfold endT; rw [if_pos h0]
      rw [e2]
      have hz : prs (mvN hs 8 T).e = [] := prs_none (fun p hp => m1.el p (by unfold Tb.left at h0; omega))
      have hc0 : cnt (mvN hs 8 T).e 1 = 0 := by rw [cnt_prs, hz]; rfl
      have mn := m1.np
      refine ⟨⟨⟨.inl ⟨rfl, rfl⟩, ⟨0, rfl⟩, ⟨0, rfl⟩⟩, m1.wy, WayOk.nil hs, fun p hp => absurd hp (Nat.not_lt_zero _), hy, .inl ⟨rfl, ?_⟩, ?_, hb⟩, ?_, fun g => ?_⟩
      · show 4 * used (mvN hs 8 T).y ≤ 3 * (mvN hs 8 T).y.length
        unfold Tb.left at h0
        have := m1.le
        have := hy.1
        omega
      · show used (mvN hs 8 T).y + cnt ([] : List (Slt K V)) 1 ≤ P
        have : cnt ([] : List (Slt K V)) 1 = 0 := rfl
        omega
      · refine List.Perm.trans ?_ m2
        show (prs [] ++ prs (mvN hs 8 T).y).Perm (prs (mvN hs 8 T).e ++ prs (mvN hs 8 T).y)
        rw [hz]; exact List.Perm.refl _
      · unfold Tb.left at h0 g
        omega
    · have e2 : endT (mvN hs 8 T) = mvN hs 8 T := by unfold endT; rw [if_neg h0]
      rw [e2]
      refine ⟨⟨⟨.inr ?_, by rw [l3]; exact Nat.dvd_add m8 ⟨1, rfl⟩, by rw [l1]; exact e8⟩, m1.wy, m1.we, m1.el, hy, .inr ⟨by omega, m1.le, by omega⟩, m1.np, hb⟩, m2, fun g => ?_⟩
      · unfold Tb.left at h0; omega
      · unfold Tb.left at g ⊢; omega
end
end TX
end Go.Proofs.Ytjhbebaephmcgaa
