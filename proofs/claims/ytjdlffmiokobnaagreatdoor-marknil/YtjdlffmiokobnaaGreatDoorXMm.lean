/- A table is a map, pure: what finding misses, what laying and burying leave. -/
import Derived.Test.YtjdlffmiokobnaaGreatDoorXP
namespace Go.Proofs.YtjdlffmiokobnaaGreatDoor
set_option linter.unusedVariables false
set_option linter.unusedSimpArgs false
namespace TX

section
variable {K V C : Type}
/-- The pairs of a row of slots, split at a place. -/
theorem prs_split (L : List (Slt K V)) (p : Nat) (hp : p < L.length) : ∃ A B, prs L = A ++ (prS (sat L p) ++ B) ∧ ∀ s, prs (L.set p s) = A ++ (prS s ++ B) := by
  induction L generalizing p with
  | nil => simp at hp
  | cons x L ih =>
    cases p with
    | zero =>
      refine ⟨[], prs L, ?_, fun s => ?_⟩
      · show prs (x :: L) = prS x ++ prs L
        rw [← prs_one, ← prs_append]; rfl
      · show prs (s :: L) = prS s ++ prs L
        rw [← prs_one, ← prs_append]; rfl
    | succ p =>
      obtain ⟨A, B, h1, h2⟩ := ih p (by simpa using hp)
      have e : sat (x :: L) (p + 1) = sat L p := by simp [sat]
      refine ⟨prS x ++ A, B, ?_, fun s => ?_⟩
      · show prs ([x] ++ L) = _
        rw [prs_append, prs_one, h1, e]; simp
      · show prs ([x] ++ L.set p s) = _
        rw [prs_append, prs_one, h2]; simp
theorem cnt_prs (L : List (Slt K V)) : cnt L 1 = (prs L).length := by
  unfold cnt
  induction L with
  | nil => rfl
  | cons x L ih =>
    rw [List.countP_cons, ih]
    cases x <;> simp [prs, Slt.st]
theorem Tb.len_prs (T : Tb K V) : T.len = T.prs.length := by
  unfold Tb.len Tb.prs
  rw [cnt_prs, cnt_prs, List.length_append]; omega
theorem mem_prs (L : List (Slt K V)) (k : K) (v : V) (h : (k, v) ∈ prs L) : ∃ p, p < L.length ∧ sat L p = .ful k v := by
  induction L with
  | nil => cases h
  | cons x L ih =>
    have go : (k, v) ∈ prs L → ∃ p, p < (x :: L).length ∧ sat (x :: L) p = .ful k v := fun h => by
      obtain ⟨p, h1, h2⟩ := ih h
      exact ⟨p + 1, by simpa using h1, by simpa [sat] using h2⟩
    cases x with
    | emp => exact go h
    | tmb => exact go h
    | ful k' v' =>
      rcases List.mem_cons.1 h with e | e
      · cases e; exact ⟨0, by simp, rfl⟩
      · exact go e
variable (hs : K → Nat)
/-- Each pair is met on its key's way. -/
def WayOk (L : List (Slt K V)) : Prop := ∀ p, p < L.length → ∀ k v, sat L p = .ful k v → ∃ i, i < L.length ∧ p = (hs k + i) % L.length ∧ ∀ j, j < i → sat L ((hs k + j) % L.length) ≠ .emp
theorem sat_rep (n p : Nat) : sat (List.replicate n (Slt.emp : Slt K V)) p = .emp := by
  simp only [sat, List.getD_eq_getElem?_getD, List.getElem?_replicate]
  split <;> rfl
theorem WayOk.new (n : Nat) : WayOk hs (List.replicate n (Slt.emp : Slt K V)) := fun p _ k v h => by rw [sat_rep] at h; cases h
theorem WayOk.nil : WayOk hs ([] : List (Slt K V)) := fun p hp => by simp at hp
variable {hs}
/-- A slot that becomes no empty one. -/
theorem WayOk.set {L : List (Slt K V)} (h : WayOk hs L) (p : Nat) (hp : p < L.length) (s : Slt K V) (he : s ≠ .emp) (hw : ∀ k v, s = .ful k v → ∃ i, i < L.length ∧ p = (hs k + i) % L.length ∧ ∀ j, j < i → sat L ((hs k + j) % L.length) ≠ .emp) : WayOk hs (L.set p s) := by
  intro q hq k v hs'
  rw [List.length_set] at hq
  rw [sat_set hp] at hs'
  have key : ∃ i, i < L.length ∧ q = (hs k + i) % L.length ∧ ∀ j, j < i → sat L ((hs k + j) % L.length) ≠ .emp := by
    by_cases e : q = p
    · rw [if_pos e] at hs'; rw [e]; exact hw k v hs'
    · rw [if_neg e] at hs'; exact h q hq k v hs'
  obtain ⟨i, h1, h2, h3⟩ := key
  rw [List.length_set]
  refine ⟨i, h1, h2, fun j hj => ?_⟩
  rw [sat_set hp]
  by_cases e : (hs k + j) % L.length = p
  · rw [if_pos e]; exact he
  · rw [if_neg e]; exact h3 j hj
variable {eq : K → K → Bool}
theorem find_miss {L : List (Slt K V)} (h : WayOk hs L) (hh : ∀ a b, eq a b = true → hs a = hs b) {k : K} {m : Nat} (hf : find eq L (hs k) k = (none, m)) : ∀ p, p < L.length → ∀ k' v', sat L p = .ful k' v' → eq k' k = false := by
  intro p hp k' v' hs'
  cases he : eq k' k with
  | false => rfl
  | true =>
    exfalso
    obtain ⟨i0, h1, h2, h3⟩ := h p hp k' v' hs'
    rw [hh _ _ he] at h2 h3
    have key : ∀ f i, i + f = L.length → i ≤ i0 → (fnd eq L (hs k) k f i).1 ≠ none := by
      intro f
      induction f with
      | zero => intro i e1 e2; omega
      | succ f ih =>
        intro i e1 e2
        by_cases e : i = i0
        · rw [e, fnd_yes (k' := k') (v := v') (by rw [← h2]; exact hs') he]; simp
        · have hlt : i < i0 := by omega
          have hn := h3 i hlt
          cases hsi : sat L ((hs k + i) % L.length) with
          | emp => exact absurd hsi hn
          | tmb => rw [fnd_tmb hsi]; exact ih _ (by omega) (by omega)
          | ful a b =>
            cases hab : eq a k with
            | true => rw [fnd_yes hsi hab]; simp
            | false => rw [fnd_no hsi hab]; exact ih _ (by omega) (by omega)
    have := key L.length 0 (by omega) (Nat.zero_le _)
    unfold find at hf
    rw [hf] at this
    exact this rfl
/-- Where a pair is laid. -/
theorem lyg_at {L : List (Slt K V)} {h : Nat} {k : K} {v : V} (i0 : Nat) (hi0 : i0 < L.length) (hn : (sat L ((h + i0) % L.length)).st ≠ 1) : ∀ f i, i + f = L.length → i ≤ i0 → ∃ j, i ≤ j ∧ j ≤ i0 ∧ lyg L h k v f i = L.set ((h + j) % L.length) (.ful k v) ∧ (sat L ((h + j) % L.length)).st ≠ 1 ∧ ∀ q, i ≤ q → q < j → (sat L ((h + q) % L.length)).st = 1 := by
  intro f
  induction f with
  | zero => intro i e1 e2; omega
  | succ f ih =>
    intro i e1 e2
    cases hsi : sat L ((h + i) % L.length) with
    | emp => exact ⟨i, Nat.le_refl _, e2, lyg_emp hsi, (by rw [hsi]; exact (fun h => by cases h)), fun q h1 h2 => by omega⟩
    | tmb => exact ⟨i, Nat.le_refl _, e2, lyg_tmb hsi, (by rw [hsi]; exact (fun h => by cases h)), fun q h1 h2 => by omega⟩
    | ful a b =>
      have hne : i ≠ i0 := fun e => by rw [← e, hsi] at hn; exact hn rfl
      obtain ⟨j, h1, h2, h3, h4, h5⟩ := ih (i + 1) (by omega) (by omega)
      refine ⟨j, by omega, h2, by rw [lyg_ful hsi]; exact h3, h4, fun q g1 g2 => ?_⟩
      by_cases e : q = i
      · rw [e, hsi]; rfl
      · exact h5 q (by omega) g2
theorem cnt_full {L : List (Slt K V)} (h : ∀ p, p < L.length → (sat L p).st = 1) : cnt L 1 = L.length := by
  unfold cnt
  rw [List.countP_eq_length]
  intro x hx
  obtain ⟨p, hp, rfl⟩ := List.mem_iff_getElem.1 hx
  have := h p hp
  rw [show sat L p = L[p] by simp [sat, List.getD_eq_getElem?_getD, List.getElem?_eq_getElem hp]] at this
  simp [this]
theorem way_reach (h n p : Nat) (hp : p < n) : ∃ i, i < n ∧ (h + i) % n = p := by
  refine ⟨(p + n - h % n) % n, Nat.mod_lt _ (by omega), ?_⟩
  rw [Nat.add_mod_mod]
  have hh : h % n < n := Nat.mod_lt _ (by omega)
  rw [← Nat.mod_add_mod, show h % n + (p + n - h % n) = p + n by omega, Nat.add_mod_right]
  exact Nat.mod_eq_of_lt hp
/-- Where there is a slot that is not full, the pair is laid. -/
theorem lay_at {L : List (Slt K V)} (h : Nat) (k : K) (v : V) (hc : cnt L 1 < L.length) : ∃ j, j < L.length ∧ lay L h k v = L.set ((h + j) % L.length) (.ful k v) ∧ (sat L ((h + j) % L.length)).st ≠ 1 ∧ ∀ q, q < j → (sat L ((h + q) % L.length)).st = 1 := by
  obtain ⟨p, hp, hn⟩ : ∃ p, p < L.length ∧ (sat L p).st ≠ 1 := by
    apply Classical.byContradiction
    intro hno
    have := cnt_full (L := L) (fun p hp => Classical.byContradiction fun hh => hno ⟨p, hp, hh⟩)
    omega
  obtain ⟨i0, h1, h2⟩ := way_reach h L.length p hp
  obtain ⟨j, _, h4, h5, h6, h7⟩ := lyg_at (h := h) (k := k) (v := v) i0 h1 (by rw [h2]; exact hn) L.length 0 (by omega) (Nat.zero_le _)
  exact ⟨j, by omega, h5, h6, fun q hq => h7 q (Nat.zero_le _) hq⟩
theorem st_ful {s : Slt K V} (h : s.st = 1) : s ≠ .emp := by cases s <;> simp_all [Slt.st]
theorem prS_no {s : Slt K V} (h : s.st ≠ 1) : prS s = [] := by cases s <;> simp_all [Slt.st, prS]
/-- Slots that are not empty. -/
def used (L : List (Slt K V)) : Nat := cnt L 1 + cnt L 2
/-- What laying a pair leaves. -/
theorem lay_spec {L : List (Slt K V)} (k : K) (v : V) (hc : cnt L 1 < L.length) : (prs (lay L (hs k) k v)).Perm ((k, v) :: prs L) ∧ (WayOk hs L → WayOk hs (lay L (hs k) k v)) ∧ used (lay L (hs k) k v) ≤ used L + 1 ∧ cnt (lay L (hs k) k v) 1 = cnt L 1 + 1 := by
  obtain ⟨j, hj, e, hn, hq⟩ := lay_at (hs k) k v hc
  have hp : (hs k + j) % L.length < L.length := Nat.mod_lt _ (by omega)
  rw [e]
  obtain ⟨A, B, h1, h2⟩ := prs_split L _ hp
  rw [prS_no hn] at h1
  have k1 := cnt_set L _ hp (.ful k v) 1
  have k2 := cnt_set L _ hp (.ful k v) 2
  refine ⟨?_, fun hw => hw.set _ hp _ (by simp) (fun k' v' e' => by cases e'; exact ⟨j, hj, rfl, fun q h => st_ful (hq q h)⟩), ?_, ?_⟩
  · rw [h1, h2]
    show (A ++ ([(k, v)] ++ B)).Perm ([(k, v)] ++ (A ++ ([] ++ B)))
    simp only [List.nil_append]
    exact List.perm_append_comm_assoc _ _ _
  · rw [if_neg hn, if_pos (show (Slt.ful k v : Slt K V).st = 1 from rfl)] at k1
    rw [if_neg (show (Slt.ful k v : Slt K V).st ≠ 2 by simp [Slt.st])] at k2
    unfold used
    split at k2 <;> omega
  · rw [if_neg hn, if_pos (show (Slt.ful k v : Slt K V).st = 1 from rfl)] at k1
    omega
/-- What burying one leaves. -/
theorem bury_spec {L : List (Slt K V)} {p : Nat} (hp : p < L.length) {k : K} {v : V} (h : sat L p = .ful k v) : (prs L).Perm ((k, v) :: prs (L.set p .tmb)) ∧ (WayOk hs L → WayOk hs (L.set p .tmb)) ∧ used (L.set p .tmb) = used L ∧ cnt (L.set p .tmb) 1 + 1 = cnt L 1 := by
  obtain ⟨A, B, h1, h2⟩ := prs_split L p hp
  have k1 := cnt_set L p hp .tmb 1
  have k2 := cnt_set L p hp .tmb 2
  rw [h] at h1 k1 k2
  simp [Slt.st] at k1 k2
  refine ⟨?_, fun hw => hw.set _ hp _ (by simp) (fun k' v' e' => by cases e'), ?_, by omega⟩
  · rw [h1, h2]
    show (A ++ ([(k, v)] ++ B)).Perm ([(k, v)] ++ (A ++ ([] ++ B)))
    simp only [List.nil_append]
    exact List.perm_append_comm_assoc _ _ _
  · unfold used; omega
end
end TX
end Go.Proofs.YtjdlffmiokobnaaGreatDoor

/- A table is a map, pure: the invariant; a step, a put, a taking out. -/
namespace Go.Proofs.YtjdlffmiokobnaaGreatDoor
set_option linter.unusedVariables false
set_option linter.unusedSimpArgs false
namespace TX

section
variable {K V : Type} {hs : K → Nat} {eq : K → K → Bool}
/-- What stands of a table behind P puts. -/
structure Inv (hs : K → Nat) (T : Tb K V) (P : Nat) : Prop where
  ok : TOk T
  wy : WayOk hs T.y
  we : WayOk hs T.e
  el : ∀ p, p < T.m → (sat T.e p).st ≠ 1
  y8 : 8 ≤ T.y.length ∧ 8 ∣ T.y.length
  cap : (T.e.length = 0 ∧ 4 * used T.y ≤ 3 * T.y.length) ∨ (T.e.length ≠ 0 ∧ T.e.length ≤ T.y.length ∧ 2 * (used T.y + cnt T.e 1 + 1) ≤ T.y.length + 2 * (T.m / 8))
  np : used T.y + cnt T.e 1 ≤ P
  bd : T.y.length = 8 ∨ 3 * T.y.length ≤ 8 * P
theorem cnt_used (L : List (Slt K V)) : cnt L 1 ≤ used L := Nat.le_add_right _ _
theorem Inv.room {T : Tb K V} {P : Nat} (h : Inv hs T P) : cnt T.y 1 + 1 ≤ T.y.length := by
  have h1 := cnt_used T.y
  have h2 := h.y8.1
  have h3 := h.ok.mv
  rcases h.cap with ⟨_, h4⟩ | ⟨h4, h5, h6⟩
  · omega
  · omega
theorem Inv.small {T : Tb K V} {P : Nat} (h : Inv hs T P) : T.len ≤ T.y.length ∧ T.e.length ≤ T.y.length := by
  have h1 := cnt_used T.y
  have h2 := cnt_le T.e 1
  have h3 := h.ok.mv
  have h4 := h.y8.1
  unfold Tb.len
  rcases h.cap with ⟨h5, h6⟩ | ⟨h5, h6, h7⟩
  · omega
  · omega
/-- The same, in the midst of a step: how many slots of it are done. -/
structure Mid (hs : K → Nat) (T : Tb K V) (j P : Nat) : Prop where
  wy : WayOk hs T.y
  we : WayOk hs T.e
  el : ∀ p, p < T.m → (sat T.e p).st ≠ 1
  le : T.e.length ≤ T.y.length
  y8 : 8 ≤ T.y.length ∧ 8 ∣ T.y.length
  m : T.m + (8 - j) ≤ T.e.length
  cap : 2 * (used T.y + cnt T.e 1 + 1) ≤ T.y.length + 2 * ((T.m - j) / 8)
  np : used T.y + cnt T.e 1 ≤ P
theorem Mid.one {T : Tb K V} {j P : Nat} (h : Mid hs T j P) (hj : j < 8) : Mid hs (mv1 hs T) (j + 1) P ∧ (mv1 hs T).prs.Perm T.prs := by
  have hm : T.m < T.e.length := by have := h.m; omega
  have b1 := h.m
  have b2 := h.cap
  have b3 := h.np
  have b4 := cnt_used T.y
  have b5 := h.le
  have b6 := h.y8.1
  have sub : T.m + 1 - (j + 1) = T.m - j := by omega
  unfold mv1
  cases hs' : sat T.e T.m with
  | emp =>
    refine ⟨⟨h.wy, h.we, fun p hp => ?_, h.le, h.y8, by show T.m + 1 + (8 - (j + 1)) ≤ T.e.length; omega, by show 2 * _ ≤ _ + 2 * ((T.m + 1 - (j + 1)) / 8); rw [sub]; exact b2, h.np⟩, List.Perm.refl _⟩
    by_cases e : p = T.m
    · rw [e, hs']; intro h; cases h
    · exact h.el p (by have : p < T.m + 1 := hp; omega)
  | tmb =>
    refine ⟨⟨h.wy, h.we, fun p hp => ?_, h.le, h.y8, by show T.m + 1 + (8 - (j + 1)) ≤ T.e.length; omega, by show 2 * _ ≤ _ + 2 * ((T.m + 1 - (j + 1)) / 8); rw [sub]; exact b2, h.np⟩, List.Perm.refl _⟩
    by_cases e : p = T.m
    · rw [e, hs']; intro h; cases h
    · exact h.el p (by have : p < T.m + 1 := hp; omega)
  | ful k v =>
    have hroom : cnt T.y 1 < T.y.length := by omega
    obtain ⟨l1, l2, l3, l4⟩ := lay_spec (hs := hs) k v hroom
    obtain ⟨u1, u2, u3, u4⟩ := bury_spec (hs := hs) hm hs'
    refine ⟨⟨l2 h.wy, u2 h.we, fun p hp => ?_, ?_, ?_, ?_, ?_, ?_⟩, ?_⟩
    · rw [sat_set hm]
      by_cases e : p = T.m
      · rw [if_pos e]; intro h; cases h
      · rw [if_neg e]; exact h.el p (by have : p < T.m + 1 := hp; omega)
    · show (T.e.set T.m .tmb).length ≤ (lay T.y (hs k) k v).length
      rw [lay_length, List.length_set]; exact h.le
    · show 8 ≤ (lay T.y (hs k) k v).length ∧ 8 ∣ (lay T.y (hs k) k v).length
      rw [lay_length]; exact h.y8
    · show T.m + 1 + (8 - (j + 1)) ≤ (T.e.set T.m .tmb).length
      rw [List.length_set]; omega
    · show 2 * (used (lay T.y (hs k) k v) + cnt (T.e.set T.m .tmb) 1 + 1) ≤ (lay T.y (hs k) k v).length + 2 * ((T.m + 1 - (j + 1)) / 8)
      rw [lay_length, sub]; omega
    · show used (lay T.y (hs k) k v) + cnt (T.e.set T.m .tmb) 1 ≤ P
      omega
    · show (prs (T.e.set T.m .tmb) ++ prs (lay T.y (hs k) k v)).Perm (prs T.e ++ prs T.y)
      refine (l1.append_left _).trans ?_
      refine List.perm_middle.trans ?_
      exact (u1.append_right _).symm
theorem Mid.all {T : Tb K V} {P : Nat} (h : Mid hs T 0 P) : ∀ j, j ≤ 8 → Mid hs (mvN hs j T) j P ∧ (mvN hs j T).prs.Perm T.prs := by
  intro j
  induction j with
  | zero => intro _; exact ⟨h, List.Perm.refl _⟩
  | succ j ih =>
    intro hj
    obtain ⟨h1, h2⟩ := ih (by omega)
    obtain ⟨h3, h4⟩ := h1.one (by omega)
    exact ⟨h3, h4.trans h2⟩
theorem mv1_lenG (T : Tb K V) : (mv1 hs T).e.length = T.e.length ∧ (mv1 hs T).y.length = T.y.length ∧ (mv1 hs T).m = T.m + 1 := by
  unfold mv1
  split
  · exact ⟨List.length_set, lay_length .., rfl⟩
  · exact ⟨rfl, rfl, rfl⟩
  · exact ⟨rfl, rfl, rfl⟩
theorem mvN_lenG (n : Nat) (T : Tb K V) : (mvN hs n T).e.length = T.e.length ∧ (mvN hs n T).y.length = T.y.length ∧ (mvN hs n T).m = T.m + n := by
  induction n with
  | zero => exact ⟨rfl, rfl, rfl⟩
  | succ n ih =>
    have := mv1_lenG (hs := hs) (mvN hs n T)
    exact ⟨this.1.trans ih.1, this.2.1.trans ih.2.1, by rw [mvN, this.2.2, ih.2.2]; rfl⟩
theorem prs_none {L : List (Slt K V)} (h : ∀ p, p < L.length → (sat L p).st ≠ 1) : prs L = [] := by
  apply List.eq_nil_of_length_eq_zero
  rw [← cnt_prs]
  unfold cnt
  rw [List.countP_eq_zero]
  intro x hx
  obtain ⟨p, hp, rfl⟩ := List.mem_iff_getElem.1 hx
  have := h p hp
  rw [show sat L p = L[p] by simp [sat, List.getD_eq_getElem?_getD, List.getElem?_eq_getElem hp]] at this
  simp [this]
theorem TOk.eightG {T : Tb K V} (h : TOk T) (hl : T.left ≠ 0) : T.m + 8 ≤ T.e.length := by
  obtain ⟨a, ha⟩ := h.m8
  obtain ⟨b, hb⟩ := h.e8
  unfold Tb.left at hl
  rcases h.mv with ⟨h1, h2⟩ | h1 <;> omega
/-- Behind a step: what it leaves, with room for one more. -/
structure Stp (hs : K → Nat) (T : Tb K V) (P : Nat) : Prop where
  ok : TOk T
  wy : WayOk hs T.y
  we : WayOk hs T.e
  el : ∀ p, p < T.m → (sat T.e p).st ≠ 1
  y8 : 8 ≤ T.y.length ∧ 8 ∣ T.y.length
  cap : (T.e.length = 0 ∧ 4 * used T.y ≤ 3 * T.y.length) ∨ (T.e.length ≠ 0 ∧ T.e.length ≤ T.y.length ∧ 2 * (used T.y + cnt T.e 1 + 1 + 1) ≤ T.y.length + 2 * (T.m / 8))
  np : used T.y + cnt T.e 1 ≤ P
  bd : T.y.length = 8 ∨ 3 * T.y.length ≤ 8 * P
theorem Stp.inv {T : Tb K V} {P : Nat} (h : Stp hs T P) : Inv hs T P := ⟨h.ok, h.wy, h.we, h.el, h.y8, h.cap.imp id (fun ⟨h1, h2, h3⟩ => ⟨h1, h2, by omega⟩), h.np, h.bd⟩
theorem Inv.step {T : Tb K V} {P : Nat} (h : Inv hs T P) : Stp hs (stepT hs T) P ∧ (stepT hs T).prs.Perm T.prs ∧ (8 < T.left → (stepT hs T).left = T.left - 8) := by
  have hy := h.y8
  by_cases hl : T.left = 0
  · have e : stepT hs T = T := by unfold stepT; rw [if_pos hl]
    rw [e]
    have he : T.e.length = 0 := by
      unfold Tb.left at hl
      rcases h.ok.mv with h1 | h1 <;> omega
    refine ⟨⟨h.ok, h.wy, h.we, h.el, h.y8, ?_, h.np, h.bd⟩, List.Perm.refl _, fun g => by omega⟩
    rcases h.cap with h1 | ⟨h1, _⟩
    · exact .inl h1
    · exact absurd he h1
  · have h8 := h.ok.eightG hl
    have ce : T.e.length ≠ 0 := by omega
    obtain ⟨c1, c2, c3⟩ : T.e.length ≠ 0 ∧ T.e.length ≤ T.y.length ∧ 2 * (used T.y + cnt T.e 1 + 1) ≤ T.y.length + 2 * (T.m / 8) := by
      rcases h.cap with ⟨h1, _⟩ | h1
      · exact absurd h1 ce
      · exact h1
    have hmid : Mid hs T 0 P := ⟨h.wy, h.we, h.el, c2, h.y8, by omega, c3, h.np⟩
    obtain ⟨m1, m2⟩ := hmid.all 8 (Nat.le_refl _)
    obtain ⟨l1, l2, l3⟩ := mvN_lenG (hs := hs) 8 T
    have hb := h.bd
    rw [← l2] at hb hy
    have e : stepT hs T = endT (mvN hs 8 T) := by unfold stepT; rw [if_neg hl]
    rw [e]
    have m8 := h.ok.m8
    have e8 := h.ok.e8
    have hd : (mvN hs 8 T).m - 8 = T.m := by omega
    have mc := m1.cap
    rw [hd] at mc
    have hm8 : (mvN hs 8 T).m / 8 = T.m / 8 + 1 := by rw [l3]; omega
    by_cases h0 : (mvN hs 8 T).left = 0
    · have e2 : endT (mvN hs 8 T) = ⟨(mvN hs 8 T).y, [], 0⟩ := by unfold endT; rw [if_pos h0]
      rw [e2]
      have hz : prs (mvN hs 8 T).e = [] := prs_none (fun p hp => m1.el p (by unfold Tb.left at h0; omega))
      have hc0 : cnt (mvN hs 8 T).e 1 = 0 := by rw [cnt_prs, hz]; rfl
      have mn := m1.np
      refine ⟨⟨⟨.inl ⟨rfl, rfl⟩, ⟨0, rfl⟩, ⟨0, rfl⟩⟩, m1.wy, WayOk.nil hs, fun p hp => absurd hp (Nat.not_lt_zero _), hy, .inl ⟨rfl, ?_⟩, ?_, hb⟩, ?_, fun g => ?_⟩
      · show 4 * used (mvN hs 8 T).y ≤ 3 * (mvN hs 8 T).y.length
        unfold Tb.left at h0
        have := m1.le
        have := hy.1
        omega
      · show used (mvN hs 8 T).y + cnt ([] : List (Slt K V)) 1 ≤ P
        have : cnt ([] : List (Slt K V)) 1 = 0 := rfl
        omega
      · refine List.Perm.trans ?_ m2
        show (prs [] ++ prs (mvN hs 8 T).y).Perm (prs (mvN hs 8 T).e ++ prs (mvN hs 8 T).y)
        rw [hz]; exact List.Perm.refl _
      · unfold Tb.left at h0 g
        omega
    · have e2 : endT (mvN hs 8 T) = mvN hs 8 T := by unfold endT; rw [if_neg h0]
      rw [e2]
      refine ⟨⟨⟨.inr ?_, by rw [l3]; exact Nat.dvd_add m8 ⟨1, rfl⟩, by rw [l1]; exact e8⟩, m1.wy, m1.we, m1.el, hy, .inr ⟨by omega, m1.le, by omega⟩, m1.np, hb⟩, m2, fun g => ?_⟩
      · unfold Tb.left at h0; omega
      · unfold Tb.left at g ⊢; omega
end
end TX
end Go.Proofs.YtjdlffmiokobnaaGreatDoor

/- A table is a map, pure: what a put and a taking out leave. -/
namespace Go.Proofs.YtjdlffmiokobnaaGreatDoor
set_option linter.unusedVariables false
set_option linter.unusedSimpArgs false
namespace TX

section
variable {K V : Type} {hs : K → Nat} {eq : K → K → Bool}
theorem dbl_le (l : Nat) : ∀ f n, l ≤ 2 * n → dbl l f n ≤ 2 * n := by
  intro f
  cases f with
  | zero => intro n _; unfold dbl; omega
  | succ f =>
    intro n h
    unfold dbl
    split
    · rw [dbl_no _ _ _ (by omega)]; exact Nat.le_refl _
    · omega
theorem dbl_reach (l : Nat) : ∀ f n, l ≤ n * 2 ^ f → l ≤ dbl l f n := by
  intro f
  induction f with
  | zero => intro n h; unfold dbl; simpa using h
  | succ f ih =>
    intro n h
    unfold dbl
    split
    · refine ih _ ?_
      rw [Nat.pow_succ] at h
      rw [Nat.mul_comm 2 n, Nat.mul_assoc, Nat.mul_comm 2]; exact h
    · omega
theorem dbl_dvd (l : Nat) : ∀ f n, 8 ∣ n → 8 ∣ dbl l f n := by
  intro f
  induction f with
  | zero => intro n h; exact h
  | succ f ih =>
    intro n h
    unfold dbl
    split
    · exact ih _ (Nat.dvd_mul_left_of_dvd h 2)
    · exact h
/-- What growing makes of n slots, where l pairs lie. -/
theorem growN_spec (n l : Nat) (h8 : 8 ≤ n) (hd : 8 ∣ n) (hl : 2 * l + 2 ≤ 2 * n) : n ≤ growN n l ∧ growN n l ≤ 2 * n ∧ 2 * l + 2 ≤ growN n l ∧ 8 ∣ growN n l := by
  unfold growN
  refine ⟨dbl_ge _ _ _, dbl_le _ _ _ hl, dbl_reach _ _ _ ?_, dbl_dvd _ _ _ hd⟩
  have : n * 2 ≤ n * 2 ^ 64 := Nat.mul_le_mul_left n (by decide)
  omega
/-- A pair laid behind a step, and the table grown if it must be. -/
theorem Stp.more {T : Tb K V} {P : Nat} (h : Stp hs T P) (k : K) (v : V) : Inv hs (growT ⟨lay T.y (hs k) k v, T.e, T.m⟩) (P + 1) ∧ (growT ⟨lay T.y (hs k) k v, T.e, T.m⟩).prs.Perm ((k, v) :: T.prs) ∧ (T.left ≠ 0 → (growT ⟨lay T.y (hs k) k v, T.e, T.m⟩).left = T.left) ∧ (T.left = 0 → 3 * T.y.length < 4 * used (lay T.y (hs k) k v) → 3 * growN T.y.length (Tb.len ⟨lay T.y (hs k) k v, T.e, T.m⟩) ≤ 8 * (P + 1)) := by
  have hr := h.inv.room
  obtain ⟨l1, l2, l3, l4⟩ := lay_spec (hs := hs) k v (L := T.y) (by omega)
  obtain ⟨y8, yd⟩ := h.y8
  have hnp := h.np
  have hu := cnt_used (lay T.y (hs k) k v)
  have hperm : (prs T.e ++ prs (lay T.y (hs k) k v)).Perm ((k, v) :: (prs T.e ++ prs T.y)) := (l1.append_left _).trans List.perm_middle
  have hok : TOk (⟨lay T.y (hs k) k v, T.e, T.m⟩ : Tb K V) := ⟨h.ok.mv, h.ok.m8, h.ok.e8⟩
  by_cases hl : T.left = 0
  · obtain ⟨e0, m0⟩ : T.e.length = 0 ∧ T.m = 0 := by
      unfold Tb.left at hl
      rcases h.ok.mv with h1 | h1
      · exact h1
      · omega
    obtain ⟨_, hc⟩ : T.e.length = 0 ∧ 4 * used T.y ≤ 3 * T.y.length := by
      rcases h.cap with h1 | ⟨h1, _⟩
      · exact h1
      · exact absurd e0 h1
    have ce : cnt T.e 1 = 0 := by have := cnt_le T.e 1; omega
    have hlen : Tb.len (⟨lay T.y (hs k) k v, T.e, T.m⟩ : Tb K V) = cnt (lay T.y (hs k) k v) 1 := by show cnt (lay T.y (hs k) k v) 1 + cnt T.e 1 = _; omega
    obtain ⟨g1, g2, g3, g4⟩ := growN_spec T.y.length (cnt (lay T.y (hs k) k v) 1) y8 yd (by omega)
    unfold growT
    by_cases hg : (Tb.left (⟨lay T.y (hs k) k v, T.e, T.m⟩ : Tb K V) ≠ 0 ∨ 4 * (cnt (lay T.y (hs k) k v) 1 + cnt (lay T.y (hs k) k v) 2) ≤ 3 * (lay T.y (hs k) k v).length)
    · rw [if_pos hg]
      have hg2 : 4 * used (lay T.y (hs k) k v) ≤ 3 * T.y.length := by
        rcases hg with h1 | h1
        · exact absurd hl h1
        · rw [lay_length] at h1; exact h1
      refine ⟨⟨hok, l2 h.wy, h.we, h.el, by show _ ≤ (lay T.y (hs k) k v).length ∧ _ ∣ (lay T.y (hs k) k v).length; rw [lay_length]; exact h.y8, .inl ⟨e0, by show _ ≤ 3 * (lay T.y (hs k) k v).length; rw [lay_length]; exact hg2⟩, by show used (lay T.y (hs k) k v) + cnt T.e 1 ≤ _; omega, ?_⟩, hperm, fun _ => rfl, fun _ h2 => by omega⟩
      show (lay T.y (hs k) k v).length = 8 ∨ 3 * (lay T.y (hs k) k v).length ≤ _
      rw [lay_length]
      rcases h.bd with h1 | h1 <;> omega
    · rw [if_neg hg]
      have hg2 : 3 * T.y.length < 4 * used (lay T.y (hs k) k v) := by
        apply Nat.lt_of_not_le
        intro h1
        exact hg (.inr (by rw [lay_length]; exact h1))
      rw [hlen]
      show Inv hs ⟨List.replicate (growN (lay T.y (hs k) k v).length (cnt (lay T.y (hs k) k v) 1)) .emp, lay T.y (hs k) k v, T.m⟩ (P + 1) ∧ (prs (lay T.y (hs k) k v) ++ prs (List.replicate (growN (lay T.y (hs k) k v).length (cnt (lay T.y (hs k) k v) 1)) .emp)).Perm _ ∧ _
      rw [lay_length, m0]
      generalize hG : growN T.y.length (cnt (lay T.y (hs k) k v) 1) = G at *
      have n1 : cnt (List.replicate G (Slt.emp : Slt K V)) 1 = 0 := by unfold cnt; rw [List.countP_replicate]; rfl
      have n2 : cnt (List.replicate G (Slt.emp : Slt K V)) 2 = 0 := by unfold cnt; rw [List.countP_replicate]; rfl
      have nu : used (List.replicate G (Slt.emp : Slt K V)) = 0 := by unfold used; omega
      have np0 : prs (List.replicate G (Slt.emp : Slt K V)) = [] := by apply List.eq_nil_of_length_eq_zero; rw [← cnt_prs]; exact n1
      have pe : prs T.e = [] := by apply List.eq_nil_of_length_eq_zero; rw [← cnt_prs]; exact ce
      refine ⟨⟨⟨.inr ?_, ⟨0, rfl⟩, ?_⟩, WayOk.new hs G, l2 h.wy, fun p hp => absurd hp (Nat.not_lt_zero _), ?_, .inr ⟨?_, ?_, ?_⟩, ?_, .inr ?_⟩, ?_, fun h1 => absurd hl h1, fun _ _ => by omega⟩
      · show 0 < (lay T.y (hs k) k v).length; rw [lay_length]; omega
      · show 8 ∣ (lay T.y (hs k) k v).length; rw [lay_length]; exact yd
      · show 8 ≤ (List.replicate G (Slt.emp : Slt K V)).length ∧ 8 ∣ (List.replicate G (Slt.emp : Slt K V)).length
        rw [List.length_replicate]; exact ⟨by omega, g4⟩
      · show (lay T.y (hs k) k v).length ≠ 0; rw [lay_length]; omega
      · show (lay T.y (hs k) k v).length ≤ (List.replicate G (Slt.emp : Slt K V)).length
        rw [lay_length, List.length_replicate]; exact g1
      · show 2 * (used (List.replicate G (Slt.emp : Slt K V)) + cnt (lay T.y (hs k) k v) 1 + 1) ≤ (List.replicate G (Slt.emp : Slt K V)).length + 2 * (0 / 8)
        rw [nu, List.length_replicate]; omega
      · show used (List.replicate G (Slt.emp : Slt K V)) + cnt (lay T.y (hs k) k v) 1 ≤ P + 1
        rw [nu]; omega
      · show 3 * (List.replicate G (Slt.emp : Slt K V)).length ≤ 8 * (P + 1)
        rw [List.length_replicate]; omega
      · rw [np0, List.append_nil]
        show (prs (lay T.y (hs k) k v)).Perm ((k, v) :: (prs T.e ++ prs T.y))
        rw [pe]; exact l1
  · have e : growT (⟨lay T.y (hs k) k v, T.e, T.m⟩ : Tb K V) = ⟨lay T.y (hs k) k v, T.e, T.m⟩ := by unfold growT; rw [if_pos (.inl hl)]
    rw [e]
    have he : T.e.length ≠ 0 := by unfold Tb.left at hl; omega
    obtain ⟨_, c2, c3⟩ : T.e.length ≠ 0 ∧ T.e.length ≤ T.y.length ∧ 2 * (used T.y + cnt T.e 1 + 1 + 1) ≤ T.y.length + 2 * (T.m / 8) := by
      rcases h.cap with ⟨h1, _⟩ | h1
      · exact absurd h1 he
      · exact h1
    refine ⟨⟨hok, l2 h.wy, h.we, h.el, by show _ ≤ (lay T.y (hs k) k v).length ∧ _ ∣ (lay T.y (hs k) k v).length; rw [lay_length]; exact h.y8, .inr ⟨he, ?_, ?_⟩, ?_, ?_⟩, hperm, fun _ => rfl, fun h1 => absurd h1 hl⟩
    · show T.e.length ≤ (lay T.y (hs k) k v).length; rw [lay_length]; exact c2
    · show 2 * (used (lay T.y (hs k) k v) + cnt T.e 1 + 1) ≤ (lay T.y (hs k) k v).length + 2 * (T.m / 8)
      rw [lay_length]; omega
    · show used (lay T.y (hs k) k v) + cnt T.e 1 ≤ P + 1; omega
    · show (lay T.y (hs k) k v).length = 8 ∨ 3 * (lay T.y (hs k) k v).length ≤ _
      rw [lay_length]
      rcases h.bd with h1 | h1 <;> omega
/-- What a put leaves: one more pair, or another value under its key. -/
structure PutR (hs : K → Nat) (eq : K → K → Bool) (T T' : Tb K V) (P : Nat) (k : K) (v : V) (r : Option (Bool × Nat)) (z : V) : Prop where
  inv : Inv hs T' (P + 1)
  left : T.left ≠ 0 → T'.left = T.left
  no : r = none → T'.prs.Perm ((k, v) :: T.prs) ∧ ∀ x ∈ T.prs, eq x.1 k = false
  yes : r ≠ none → ∃ k0 k1 R, eq k0 k = true ∧ (k1 = k0 ∨ k1 = k) ∧ T.prs.Perm ((k0, valT z T r) :: R) ∧ T'.prs.Perm ((k1, v) :: R)
theorem seek_no {T : Tb K V} (wy : WayOk hs T.y) (we : WayOk hs T.e) (hh : ∀ a b, eq a b = true → hs a = hs b) {k : K} {m : Nat} (hsk : seek eq hs T k = (none, m)) : ∀ x ∈ T.prs, eq x.1 k = false := by
  unfold seek at hsk
  cases hy : find eq T.y (hs k) k with
  | mk oy ny =>
    rw [hy] at hsk
    cases oy with
    | some p => simp only [] at hsk; cases hsk
    | none =>
      simp only [] at hsk
      cases he : find eq T.e (hs k) k with
      | mk oe ne =>
        rw [he] at hsk
        cases oe with
        | some p => simp only [] at hsk; cases hsk
        | none =>
          rintro ⟨a, b⟩ hx
          rcases List.mem_append.1 hx with h1 | h1
          · obtain ⟨p, hp, hs'⟩ := mem_prs _ _ _ h1
            exact find_miss we hh he p hp a b hs'
          · obtain ⟨p, hp, hs'⟩ := mem_prs _ _ _ h1
            exact find_miss wy hh hy p hp a b hs'
theorem Stp.put {T : Tb K V} {P : Nat} (h : Stp hs T P) (hh : ∀ a b, eq a b = true → hs a = hs b) (k : K) (v z : V) : PutR hs eq T (putG eq hs T k v) P k v (seek eq hs T k).1 z := by
  unfold putG
  cases hsk : seek eq hs T k with
  | mk r n =>
    cases r with
    | none =>
      obtain ⟨h1, h2, h3, h4⟩ := h.more k v
      exact ⟨h1, h3, fun _ => ⟨h2, seek_no h.wy h.we hh hsk⟩, fun e => absurd rfl e⟩
    | some bp =>
      obtain ⟨b, p⟩ := bp
      rcases seek_some hsk with ⟨rfl, hp, ⟨k', v', hs', he⟩, _⟩ | ⟨rfl, hp, ⟨k', v', hs', he⟩, _⟩
      · have hrep : repS v (sat T.y p) = .ful k' v := by rw [hs']; rfl
        have hval : valT z T (some (false, p)) = v' := by simp [valT, hs', valS]
        obtain ⟨A, B, a1, a2⟩ := prs_split T.y p hp
        have k1 : cnt (T.y.set p (.ful k' v)) 1 = cnt T.y 1 := by simpa [hs', Slt.st] using cnt_set T.y p hp (.ful k' v) 1
        have k2 : cnt (T.y.set p (.ful k' v)) 2 = cnt T.y 2 := by simpa [hs', Slt.st] using cnt_set T.y p hp (.ful k' v) 2
        have ku : used (T.y.set p (.ful k' v)) = used T.y := by unfold used; omega
        have hi := h.inv
        show PutR hs eq T ⟨T.y.set p (repS v (sat T.y p)), T.e, T.m⟩ P k v _ z
        rw [hrep]
        refine ⟨⟨⟨hi.ok.mv, hi.ok.m8, hi.ok.e8⟩, hi.wy.set p hp _ (by simp) (fun a b e => by cases e; exact hi.wy p hp k' v' hs'), hi.we, hi.el, by show _ ≤ (T.y.set p (.ful k' v)).length ∧ _ ∣ (T.y.set p (.ful k' v)).length; rw [List.length_set]; exact hi.y8, ?_, ?_, ?_⟩, fun _ => rfl, (fun e => by cases e), fun _ => ⟨k', k', prs T.e ++ (A ++ B), he, .inl rfl, ?_, ?_⟩⟩
        · show (_ ∧ 4 * used (T.y.set p (.ful k' v)) ≤ 3 * (T.y.set p (.ful k' v)).length) ∨ (_ ∧ _ ≤ (T.y.set p (.ful k' v)).length ∧ 2 * (used (T.y.set p (.ful k' v)) + _ + 1) ≤ (T.y.set p (.ful k' v)).length + _)
          rw [ku, List.length_set]; exact hi.cap
        · show used (T.y.set p (.ful k' v)) + cnt T.e 1 ≤ P + 1
          rw [ku]; have := hi.np; omega
        · show (T.y.set p (.ful k' v)).length = 8 ∨ 3 * (T.y.set p (.ful k' v)).length ≤ _
          rw [List.length_set]; rcases hi.bd with h1 | h1 <;> omega
        · rw [hval]
          show (prs T.e ++ prs T.y).Perm _
          rw [a1, hs']
          show (prs T.e ++ (A ++ ([(k', v')] ++ B))).Perm ([(k', v')] ++ (prs T.e ++ (A ++ B)))
          exact ((List.perm_append_comm_assoc A _ B).append_left _).trans (List.perm_append_comm_assoc _ _ _)
        · show (prs T.e ++ prs (T.y.set p (.ful k' v))).Perm _
          rw [a2]
          show (prs T.e ++ (A ++ ([(k', v)] ++ B))).Perm ([(k', v)] ++ (prs T.e ++ (A ++ B)))
          exact ((List.perm_append_comm_assoc A _ B).append_left _).trans (List.perm_append_comm_assoc _ _ _)
      · have hval : valT z T (some (true, p)) = v' := by simp [valT, hs', valS]
        have hi := h.inv
        have hr := hi.room
        obtain ⟨l1, l2, l3, l4⟩ := lay_spec (hs := hs) k v (L := T.y) (by omega)
        obtain ⟨u1, u2, u3, u4⟩ := bury_spec (hs := hs) hp hs'
        have hnp := hi.np
        have he0 : T.e.length ≠ 0 := by omega
        obtain ⟨_, c2, c3⟩ : T.e.length ≠ 0 ∧ T.e.length ≤ T.y.length ∧ 2 * (used T.y + cnt T.e 1 + 1) ≤ T.y.length + 2 * (T.m / 8) := by
          rcases hi.cap with ⟨h1, _⟩ | h1
          · exact absurd h1 he0
          · exact h1
        show PutR hs eq T ⟨lay T.y (hs k) k v, T.e.set p .tmb, T.m⟩ P k v _ z
        refine ⟨⟨⟨?_, hi.ok.m8, ?_⟩, l2 hi.wy, u2 hi.we, ?_, ?_, .inr ⟨?_, ?_, ?_⟩, ?_, ?_⟩, ?_, (fun e => by cases e), fun _ => ⟨k', k, prs (T.e.set p .tmb) ++ prs T.y, he, .inr rfl, ?_, ?_⟩⟩
        · show ((T.e.set p .tmb).length = 0 ∧ _) ∨ _ < (T.e.set p .tmb).length; rw [List.length_set]; exact hi.ok.mv
        · show 8 ∣ (T.e.set p .tmb).length; rw [List.length_set]; exact hi.ok.e8
        · intro q hq
          show (sat (T.e.set p .tmb) q).st ≠ 1
          rw [sat_set hp]
          split
          · intro h; cases h
          · exact hi.el q hq
        · show 8 ≤ (lay T.y (hs k) k v).length ∧ 8 ∣ (lay T.y (hs k) k v).length; rw [lay_length]; exact hi.y8
        · show (T.e.set p .tmb).length ≠ 0; rw [List.length_set]; exact he0
        · show (T.e.set p .tmb).length ≤ (lay T.y (hs k) k v).length; rw [List.length_set, lay_length]; exact c2
        · show 2 * (used (lay T.y (hs k) k v) + cnt (T.e.set p .tmb) 1 + 1) ≤ (lay T.y (hs k) k v).length + 2 * (T.m / 8)
          rw [lay_length]; omega
        · show used (lay T.y (hs k) k v) + cnt (T.e.set p .tmb) 1 ≤ P + 1; omega
        · show (lay T.y (hs k) k v).length = 8 ∨ 3 * (lay T.y (hs k) k v).length ≤ _
          rw [lay_length]; rcases hi.bd with h1 | h1 <;> omega
        · intro _; show (T.e.set p .tmb).length - T.m = T.e.length - T.m; rw [List.length_set]
        · rw [hval]
          exact u1.append_right _
        · exact (l1.append_left _).trans List.perm_middle
/-- What a taking out leaves. -/
structure DelR (hs : K → Nat) (eq : K → K → Bool) (T T' : Tb K V) (P : Nat) (k : K) (r : Option (Bool × Nat)) (z : V) : Prop where
  inv : Inv hs T' P
  left : T'.left = T.left
  no : r = none → T' = T ∧ ∀ x ∈ T.prs, eq x.1 k = false
  yes : r ≠ none → ∃ k0, eq k0 k = true ∧ T.prs.Perm ((k0, valT z T r) :: T'.prs)
theorem Stp.del {T : Tb K V} {P : Nat} (h : Stp hs T P) (hh : ∀ a b, eq a b = true → hs a = hs b) (k : K) (z : V) : DelR hs eq T (delG eq hs T k) P k (seek eq hs T k).1 z := by
  unfold delG
  have hi := h.inv
  cases hsk : seek eq hs T k with
  | mk r n =>
    cases r with
    | none => exact ⟨hi, rfl, fun _ => ⟨rfl, seek_no h.wy h.we hh hsk⟩, fun e => absurd rfl e⟩
    | some bp =>
      obtain ⟨b, p⟩ := bp
      rcases seek_some hsk with ⟨rfl, hp, ⟨k', v', hs', he⟩, _⟩ | ⟨rfl, hp, ⟨k', v', hs', he⟩, _⟩
      · have hval : valT z T (some (false, p)) = v' := by simp [valT, hs', valS]
        obtain ⟨u1, u2, u3, u4⟩ := bury_spec (hs := hs) hp hs'
        show DelR hs eq T ⟨T.y.set p .tmb, T.e, T.m⟩ P k _ z
        refine ⟨⟨⟨hi.ok.mv, hi.ok.m8, hi.ok.e8⟩, u2 hi.wy, hi.we, hi.el, by show _ ≤ (T.y.set p .tmb).length ∧ _ ∣ (T.y.set p .tmb).length; rw [List.length_set]; exact hi.y8, ?_, ?_, ?_⟩, rfl, (fun e => by cases e), fun _ => ⟨k', he, ?_⟩⟩
        · show (_ ∧ 4 * used (T.y.set p .tmb) ≤ 3 * (T.y.set p .tmb).length) ∨ (_ ∧ _ ≤ (T.y.set p .tmb).length ∧ 2 * (used (T.y.set p .tmb) + _ + 1) ≤ (T.y.set p .tmb).length + _)
          rw [u3, List.length_set]; exact hi.cap
        · show used (T.y.set p .tmb) + _ ≤ _; rw [u3]; exact hi.np
        · show (T.y.set p .tmb).length = 8 ∨ 3 * (T.y.set p .tmb).length ≤ _
          rw [List.length_set]; exact hi.bd
        · rw [hval]
          exact (u1.append_left _).trans List.perm_middle
      · have hval : valT z T (some (true, p)) = v' := by simp [valT, hs', valS]
        obtain ⟨u1, u2, u3, u4⟩ := bury_spec (hs := hs) hp hs'
        have he0 : T.e.length ≠ 0 := by omega
        have hnp := hi.np
        show DelR hs eq T ⟨T.y, T.e.set p .tmb, T.m⟩ P k _ z
        refine ⟨⟨⟨?_, hi.ok.m8, ?_⟩, hi.wy, u2 hi.we, ?_, hi.y8, ?_, ?_, hi.bd⟩, ?_, (fun e => by cases e), fun _ => ⟨k', he, ?_⟩⟩
        · show ((T.e.set p .tmb).length = 0 ∧ _) ∨ _ < (T.e.set p .tmb).length; rw [List.length_set]; exact hi.ok.mv
        · show 8 ∣ (T.e.set p .tmb).length; rw [List.length_set]; exact hi.ok.e8
        · intro q hq
          show (sat (T.e.set p .tmb) q).st ≠ 1
          rw [sat_set hp]
          split
          · intro h; cases h
          · exact hi.el q hq
        · show ((T.e.set p .tmb).length = 0 ∧ 4 * used T.y ≤ 3 * T.y.length) ∨ ((T.e.set p .tmb).length ≠ 0 ∧ (T.e.set p .tmb).length ≤ T.y.length ∧ 2 * (used T.y + cnt (T.e.set p .tmb) 1 + 1) ≤ T.y.length + 2 * (T.m / 8))
          rw [List.length_set]
          rcases hi.cap with ⟨h1, _⟩ | ⟨h1, h2, h3⟩
          · exact absurd h1 he0
          · exact .inr ⟨h1, h2, by omega⟩
        · show used T.y + cnt (T.e.set p .tmb) 1 ≤ P; omega
        · show (T.e.set p .tmb).length - T.m = T.e.length - T.m; rw [List.length_set]
        · rw [hval]
          exact u1.append_right _
end
end TX
end Go.Proofs.YtjdlffmiokobnaaGreatDoor
