/- A table is a map, pure: what finding misses, what laying and burying leave. -/
import Derived.Test.YtjhbebaephmcgaaVXP
namespace Go.Proofs.Ytjhbebaephmcgaa
set_option linter.unusedVariables false
set_option linter.unusedSimpArgs false
namespace TX

section
variable {K V C : Type}
/-- The pairs of a row of slots, split at a place. -/
theorem prs_split (L : List (Slt K V)) (p : Nat) (hp : p < L.length) : ∃ A B, prs L = A ++ (prS (sat L p) ++ B) ∧ ∀ s, prs (L.set p s) = A ++ (prS s ++ B) := by
  induction L generalizing p with
  | nil => simp at hp
  | cons x L ih =>
    cases p with
    | zero =>
      refine ⟨[], prs L, ?_, fun s => ?_⟩
      · show prs (x :: L) = prS x ++ prs L
        rw [← prs_one, ← prs_append]; rfl
      · show prs (s :: L) = prS s ++ prs L
        rw [← prs_one, ← prs_append]; rfl
    | succ p =>
      obtain ⟨A, B, h1, h2⟩ := ih p (by simpa using hp)
      have e : sat (x :: L) (p + 1) = sat L p := by simp [sat]
      refine ⟨prS x ++ A, B, ?_, fun s => ?_⟩
      · show prs ([x] ++ L) = _
        rw [prs_append, prs_one, h1, e]; simp
      · show prs ([x] ++ L.set p s) = _
        rw [prs_append, prs_one, h2]; simp
theorem cnt_prs (L : List (Slt K V)) : cnt L 1 = (prs L).length := by
  unfold cnt
  induction L with
  | nil => rfl
  | cons x L ih =>
    rw [List.countP_cons, ih]
    cases x <;> simp [prs, Slt.st]
theorem Tb.len_prs (T : Tb K V) : T.len = T.prs.length := by
  unfold Tb.len Tb.prs
  rw [cnt_prs, cnt_prs, List.length_append]; omega
theorem mem_prs (L : List (Slt K V)) (k : K) (v : V) (h : (k, v) ∈ prs L) : ∃ p, p < L.length ∧ sat L p = .ful k v := by
  induction L with
  | nil => cases h
  | cons x L ih =>
    have go : (k, v) ∈ prs L → ∃ p, p < (x :: L).length ∧ sat (x :: L) p = .ful k v := fun h => by
      obtain ⟨p, h1, h2⟩ := ih h
      exact ⟨p + 1, by simpa using h1, by simpa [sat] using h2⟩
    cases x with
    | emp => exact go h
    | tmb => exact go h
    | ful k' v' =>
      rcases List.mem_cons.1 h with e | e
      · cases e; exact ⟨0, by simp, rfl⟩
      · exact go e
variable (hs : K → Nat)
/-- Each pair is met on its key's way. -/
def WayOk (L : List (Slt K V)) : Prop := ∀ p, p < L.length → ∀ k v, sat L p = .ful k v → ∃ i, i < L.length ∧ p = (hs k + i) % L.length ∧ ∀ j, j < i → sat L ((hs k + j) % L.length) ≠ .emp
theorem sat_rep (n p : Nat) : sat (List.replicate n (Slt.emp : Slt K V)) p = .emp := by
  simp only [sat, List.getD_eq_getElem?_getD, List.getElem?_replicate]
  split <;> rfl
theorem WayOk.new (n : Nat) : WayOk hs (List.replicate n (Slt.emp : Slt K V)) := fun p _ k v h => by rw [sat_rep] at h; cases h
theorem WayOk.nil : WayOk hs ([] : List (Slt K V)) := fun p hp => by simp at hp
variable {hs}
/-- A slot that becomes no empty one. -/
theorem WayOk.set {L : List (Slt K V)} (h : WayOk hs L) (p : Nat) (hp : p < L.length) (s : Slt K V) (he : s ≠ .emp) (hw : ∀ k v, s = .ful k v → ∃ i, i < L.length ∧ p = (hs k + i) % L.length ∧ ∀ j, j < i → sat L ((hs k + j) % L.length) ≠ .emp) : WayOk hs (L.set p s) := by
  intro q hq k v hs'
  rw [List.length_set] at hq
  rw [sat_set hp] at hs'
  have key : ∃ i, i < L.length ∧ q = (hs k + i) % L.length ∧ ∀ j, j < i → sat L ((hs k + j) % L.length) ≠ .emp := by
    by_cases e : q = p
    · rw [if_pos e] at hs'; rw [e]; exact hw k v hs'
    · rw [if_neg e] at hs'; exact h q hq k v hs'
  obtain ⟨i, h1, h2, h3⟩ := key
  rw [List.length_set]
  refine ⟨i, h1, h2, fun j hj => ?_⟩
  rw [sat_set hp]
  by_cases e : (hs k + j) % L.length = p
  · rw [if_pos e]; exact he
  · rw [if_neg e]; exact h3 j hj
variable {eq : K → K → Bool}
theorem find_miss {L : List (Slt K V)} (h : WayOk hs L) (hh : ∀ a b, eq a b = true → hs a = hs b) {k : K} {m : Nat} (hf : find eq L (hs k) k = (none, m)) : ∀ p, p < L.length → ∀ k' v', sat L p = .ful k' v' → eq k' k = false := by
  intro p hp k' v' hs'
  cases he : eq k' k with
  | false => rfl
  | true =>
    exfalso
    obtain ⟨i0, h1, h2, h3⟩ := h p hp k' v' hs'
    rw [hh _ _ he] at h2 h3
    have key : ∀ f i, i + f = L.length → i ≤ i0 → (fnd eq L (hs k) k f i).1 ≠ none := by
      intro f
      induction f with
      | zero => intro i e1 e2; omega
      | succ f ih =>
        intro i e1 e2
        by_cases e : i = i0
        · rw [e, fnd_yes (k' := k') (v := v') (by rw [← h2]; exact hs') he]; simp
        · have hlt : i < i0 := by omega
          have hn := h3 i hlt
          cases hsi : sat L ((hs k + i) % L.length) with
          | emp => exact absurd hsi hn
          | tmb => rw [fnd_tmb hsi]; exact ih _ (by omega) (by omega)
          | ful a b =>
            cases hab : eq a k with
            | true => rw [fnd_yes hsi hab]; simp
            | false => rw [fnd_no hsi hab]; exact ih _ (by omega) (by omega)
    have := key L.length 0 (by omega) (Nat.zero_le _)
    unfold find at hf
    rw [hf] at this
    exact this rfl
/-- Where a pair is laid. -/
theorem lyg_at {L : List (Slt K V)} {h : Nat} {k : K} {v : V} (i0 : Nat) (hi0 : i0 < L.length) (hn : (sat L ((h + i0) % L.length)).st ≠ 1) : ∀ f i, i + f = L.length → i ≤ i0 → ∃ j, i ≤ j ∧ j ≤ i0 ∧ lyg L h k v f i = L.set ((h + j) % L.length) (.ful k v) ∧ (sat L ((h + j) % L.length)).st ≠ 1 ∧ ∀ q, i ≤ q → q < j → (sat L ((h + q) % L.length)).st = 1 := by
  intro f
  induction f with
  | zero => intro i e1 e2; omega
  | succ f ih =>
    intro i e1 e2
    cases hsi : sat L ((h + i) % L.length) with
    | emp => exact ⟨i, Nat.le_refl _, e2, lyg_emp hsi, (by rw [hsi]; exact (fun h => by cases h)), fun q h1 h2 => by omega⟩
    | tmb => exact ⟨i, Nat.le_refl _, e2, lyg_tmb hsi, (by rw [hsi]; exact (fun h => by cases h)), fun q h1 h2 => by omega⟩
    | ful a b =>
      have hne : i ≠ i0 := fun e => by rw [← e, hsi] at hn; exact hn rfl
      obtain ⟨j, h1, h2, h3, h4, h5⟩ := ih (i + 1) (by omega) (by omega)
      refine ⟨j, by omega, h2, by rw [lyg_ful hsi]; exact h3, h4, fun q g1 g2 => ?_⟩
      by_cases e : q = i
      · rw [e, hsi]; rfl
      · exact h5 q (by omega) g2
theorem cnt_full {L : List (Slt K V)} (h : ∀ p, p < L.length → (sat L p).st = 1) : cnt L 1 = L.length := by
  unfold cnt
  rw [List.countP_eq_length]
  intro x hx
  obtain ⟨p, hp, rfl⟩ := List.mem_iff_getElem.1 hx
  have := h p hp
  rw [show sat L p = L[p] by simp [sat, List.getD_eq_getElem?_getD, List.getElem?_eq_getElem hp]] at this
  simp [this]
theorem way_reach (h n p : Nat) (hp : p < n) : ∃ i, i < n ∧ (h + i) % n = p := by
  refine ⟨(p + n - h % n) % n, Nat.mod_lt _ (by omega), ?_⟩
  rw [Nat.add_mod_mod]
  have hh : h % n < n := Nat.mod_lt _ (by omega)
  rw [← Nat.mod_add_mod, show h % n + (p + n - h % n) = p + n by omega, Nat.add_mod_right]
  exact Nat.mod_eq_of_lt hp
/-- Where there is a slot that is not full, the pair is laid. -/
theorem lay_at {L : List (Slt K V)} (h : Nat) (k : K) (v : V) (hc : cnt L 1 < L.length) : ∃ j, j < L.length ∧ lay L h k v = L.set ((h + j) % L.length) (.ful k v) ∧ (sat L ((h + j) % L.length)).st ≠ 1 ∧ ∀ q, q < j → (sat L ((h + q) % L.length)).st = 1 := by
  obtain ⟨p, hp, hn⟩ : ∃ p, p < L.length ∧ (sat L p).st ≠ 1 := by
    apply Classical.byContradiction
    intro hno
    have := cnt_full (L := L) (fun p hp => Classical.byContradiction fun hh => hno ⟨p, hp, hh⟩)
    omega
  obtain ⟨i0, h1, h2⟩ := way_reach h L.length p hp
  obtain ⟨j, _, h4, h5, h6, h7⟩ := lyg_at (h := h) (k := k) (v := v) i0 h1 (by rw [h2]; exact hn) L.length 0 (by omega) (Nat.zero_le _)
  exact ⟨j, by omega, h5, h6, fun q hq => h7 q (Nat.zero_le _) hq⟩
theorem st_ful {s : Slt K V} (h : s.st = 1) : s ≠ .emp := by cases s <;> simp_all [Slt.st]
theorem prS_no {s : Slt K V} (h : s.st ≠ 1) : prS s = [] := by cases s <;> simp_all [Slt.st, prS]
/-- Slots that are not empty. -/
def used (L : List (Slt K V)) : Nat := cnt L 1 + cnt L 2
/-- What laying a pair leaves. -/
theorem lay_spec {L : List (Slt K V)} (k : K) (v : V) (hc : cnt L 1 < L.length) : (prs (lay L (hs k) k v)).Perm ((k, v) :: prs L) ∧ (WayOk hs L → WayOk hs (lay L (hs k) k v)) ∧ used (lay L (hs k) k v) ≤ used L + 1 ∧ cnt (lay L (hs k) k v) 1 = cnt L 1 + 1 := by
  obtain ⟨j, hj, e, hn, hq⟩ := lay_at (hs k) k v hc
  have hp : (hs k + j) % L.length < L.length := Nat.mod_lt _ (by omega)
  rw [e]
  obtain ⟨A, B, h1, h2⟩ := prs_split L _ hp
  rw [prS_no hn] at h1
  have k1 := cnt_set L _ hp (.ful k v) 1
  have k2 := cnt_set L _ hp (.ful k v) 2
  refine ⟨?_, fun hw => hw.set _ hp _ (by simp) (fun k' v' e' => by cases e'; exact ⟨j, hj, rfl, fun q h => st_ful (hq q h)⟩), ?_, ?_⟩
  · rw [h1, h2]
    show (A ++ ([(k, v)] ++ B)).Perm ([(k, v)] ++ (A ++ ([] ++ B)))
    simp only [List.nil_append]
    exact List.perm_append_comm_assoc _ _ _
  · rw [if_neg hn, if_pos (show (Slt.ful k v : Slt K V).st = 1 from rfl)] at k1
    rw [if_neg (show (Slt.ful k v : Slt K V).st ≠ 2 by simp [Slt.st])] at k2
    unfold used
    split at k2 <;> omega
  · rw [if_neg hn, if_pos (show (Slt.ful k v : Slt K V).st = 1 from rfl)] at k1
    omega
/-- What burying one leaves. -/
theorem bury_spec {L : List (Slt K V)} {p : Nat} (hp : p < L.length) {k : K} {v : V} (h : sat L p = .ful k v) : (prs L).Perm ((k, v) :: prs (L.set p .tmb)) ∧ (WayOk hs L → WayOk hs (L.set p .tmb)) ∧ used (L.set p .tmb) = used L ∧ cnt (L.set p .tmb) 1 + 1 = cnt L 1 := by
  obtain ⟨A, B, h1, h2⟩ := prs_split L p hp
  have k1 := cnt_set L p hp .tmb 1
  have k2 := cnt_set L p hp .tmb 2
  rw [h] at h1 k1 k2
  simp [Slt.st] at k1 k2
  refine ⟨?_, fun hw => hw.set _ hp _ (by simp) (fun k' v' e' => by cases e'), ?_, by omega⟩
  · rw [h1, h2]
    show (A ++ ([(k, v)] ++ B)).Perm ([(k, v)] ++ (A ++ ([] ++ B)))
    simp only [List.nil_append]
    exact List.perm_append_comm_assoc _ _ _
  · unfold used; omega
end
end TX
end Go.Proofs.Ytjhbebaephmcgaa
