/- A table is a map, pure: what a put and a taking out leave. -/
import Derived.Test.YtjhbebaephmcgaaVXM2
namespace Go.Proofs.Ytjhbebaephmcgaa
set_option linter.unusedVariables false
set_option linter.unusedSimpArgs false
namespace TX

section
variable {K V : Type} {hs : K → Nat} {eq : K → K → Bool}
theorem dbl_le (l : Nat) : ∀ f n, l ≤ 2 * n → dbl l f n ≤ 2 * n := by
  intro f
  cases f with
  | zero => intro n _; unfold dbl; omega
  | succ f =>
    intro n h
    unfold dbl
    split
    · rw [dbl_no _ _ _ (by omega)]; exact Nat.le_refl _
    · omega
theorem dbl_reach (l : Nat) : ∀ f n, l ≤ n * 2 ^ f → l ≤ dbl l f n := by
  intro f
  induction f with
  | zero => intro n h; unfold dbl; simpa using h
  | succ f ih =>
    intro n h
    unfold dbl
    split
    · refine ih _ ?_
      rw [Nat.pow_succ] at h
      rw [Nat.mul_comm 2 n, Nat.mul_assoc, Nat.mul_comm 2]; exact h
    · omega
theorem dbl_dvd (l : Nat) : ∀ f n, 8 ∣ n → 8 ∣ dbl l f n := by
  intro f
  induction f with
  | zero => intro n h; exact h
  | succ f ih =>
    intro n h
    unfold dbl
    split
    · exact ih _ (Nat.dvd_mul_left_of_dvd h 2)
    · exact h
/-- What growing makes of n slots, where l pairs lie. -/
theorem growN_spec (n l : Nat) (h8 : 8 ≤ n) (hd : 8 ∣ n) (hl : 2 * l + 2 ≤ 2 * n) : n ≤ growN n l ∧ growN n l ≤ 2 * n ∧ 2 * l + 2 ≤ growN n l ∧ 8 ∣ growN n l := by
  unfold growN
  refine ⟨dbl_ge _ _ _, dbl_le _ _ _ hl, dbl_reach _ _ _ ?_, dbl_dvd _ _ _ hd⟩
  have : n * 2 ≤ n * 2 ^ 64 := Nat.mul_le_mul_left n (by decide)
  omega
/-- A pair laid behind a step, and the table grown if it must be. -/
theorem Stp.more {T : Tb K V} {P : Nat} (h : Stp hs T P) (k : K) (v : V) : Inv hs (growT ⟨lay T.y (hs k) k v, T.e, T.m⟩) (P + 1) ∧ (growT ⟨lay T.y (hs k) k v, T.e, T.m⟩).prs.Perm ((k, v) :: T.prs) ∧ (T.left ≠ 0 → (growT ⟨lay T.y (hs k) k v, T.e, T.m⟩).left = T.left) ∧ (T.left = 0 → 3 * T.y.length < 4 * used (lay T.y (hs k) k v) → 3 * growN T.y.length (Tb.len ⟨lay T.y (hs k) k v, T.e, T.m⟩) ≤ 8 * (P + 1)) := by
  have hr := h.inv.room
  obtain ⟨l1, l2, l3, l4⟩ := lay_spec (hs := hs) k v (L := T.y) (by omega)
  obtain ⟨y8, yd⟩ := h.y8
  have hnp := h.np
  have hu := cnt_used (lay T.y (hs k) k v)
  have hperm : (prs T.e ++ prs (lay T.y (hs k) k v)).Perm ((k, v) :: (prs T.e ++ prs T.y)) := (l1.append_left _).trans List.perm_middle
  have hok : TOk (⟨lay T.y (hs k) k v, T.e, T.m⟩ : Tb K V) := ⟨h.ok.mv, h.ok.m8, h.ok.e8⟩
  by_cases hl : T.left = 0
  · obtain ⟨e0, m0⟩ : T.e.length = 0 ∧ T.m = 0 := by
      unfold Tb.left at hl
      rcases h.ok.mv with h1 | h1
      · exact h1
      · omega
    obtain ⟨_, hc⟩ : T.e.length = 0 ∧ 4 * used T.y ≤ 3 * T.y.length := by
      rcases h.cap with h1 | ⟨h1, _⟩
      · exact h1
      · exact absurd e0 h1
    have ce : cnt T.e 1 = 0 := by have := cnt_le T.e 1; omega
    have hlen : Tb.len (⟨lay T.y (hs k) k v, T.e, T.m⟩ : Tb K V) = cnt (lay T.y (hs k) k v) 1 := by show cnt (lay T.y (hs k) k v) 1 + cnt T.e 1 = _; omega
    obtain ⟨g1, g2, g3, g4⟩ := growN_spec T.y.length (cnt (lay T.y (hs k) k v) 1) y8 yd (by omega)
    unfold growT
    by_cases hg : (Tb.left (⟨lay T.y (hs k) k v, T.e, T.m⟩ : Tb K V) ≠ 0 ∨ 4 * (cnt (lay T.y (hs k) k v) 1 + cnt (lay T.y (hs k) k v) 2) ≤ 3 * (lay T.y (hs k) k v).length)
    · rw [if_pos hg]
      have hg2 : 4 * used (lay T.y (hs k) k v) ≤ 3 * T.y.length := by
        rcases hg with h1 | h1
        · exact absurd hl h1
        · rw [lay_length] at h1; exact h1
      refine ⟨⟨hok, l2 h.wy, h.we, h.el, by show _ ≤ (lay T.y (hs k) k v).length ∧ _ ∣ (lay T.y (hs k) k v).length; rw [lay_length]; exact h.y8, .inl ⟨e0, by show _ ≤ 3 * (lay T.y (hs k) k v).length; rw [lay_length]; exact hg2⟩, by show used (lay T.y (hs k) k v) + cnt T.e 1 ≤ _; omega, ?_⟩, hperm, fun _ => rfl, fun _ h2 => by omega⟩
      show (lay T.y (hs k) k v).length = 8 ∨ 3 * (lay T.y (hs k) k v).length ≤ _
      rw [lay_length]
      rcases h.bd with h1 | h1 <;> omega
    · rw [if_neg hg]
      have hg2 : 3 * T.y.length < 4 * used (lay T.y (hs k) k v) := by
        apply Nat.lt_of_not_le
        intro h1
        exact hg (.inr (by rw [lay_length]; exact h1))
      rw [hlen]
      show Inv hs ⟨List.replicate (growN (lay T.y (hs k) k v).length (cnt (lay T.y (hs k) k v) 1)) .emp, lay T.y (hs k) k v, T.m⟩ (P + 1) ∧ (prs (lay T.y (hs k) k v) ++ prs (List.replicate (growN (lay T.y (hs k) k v).length (cnt (lay T.y (hs k) k v) 1)) .emp)).Perm _ ∧ _
      rw [lay_length, m0]
      generalize hG : growN T.y.length (cnt (lay T.y (hs k) k v) 1) = G at *
      have n1 : cnt (List.replicate G (Slt.emp : Slt K V)) 1 = 0 := by unfold cnt; rw [List.countP_replicate]; rfl
      have n2 : cnt (List.replicate G (Slt.emp : Slt K V)) 2 = 0 := by unfold cnt; rw [List.countP_replicate]; rfl
      have nu : used (List.replicate G (Slt.emp : Slt K V)) = 0 := by unfold used; omega
      have np0 : prs (List.replicate G (Slt.emp : Slt K V)) = [] := by apply List.eq_nil_of_length_eq_zero; rw [← cnt_prs]; exact n1
      have pe : prs T.e = [] := by apply List.eq_nil_of_length_eq_zero; rw [← cnt_prs]; exact ce
      refine ⟨⟨⟨.inr ?_, ⟨0, rfl⟩, ?_⟩, WayOk.new hs G, l2 h.wy, fun p hp => absurd hp (Nat.not_lt_zero _), ?_, .inr ⟨?_, ?_, ?_⟩, ?_, .inr ?_⟩, ?_, fun h1 => absurd hl h1, fun _ _ => by omega⟩
      · show 0 < (lay T.y (hs k) k v).length; rw [lay_length]; omega
      · show 8 ∣ (lay T.y (hs k) k v).length; rw [lay_length]; exact yd
      · show 8 ≤ (List.replicate G (Slt.emp : Slt K V)).length ∧ 8 ∣ (List.replicate G (Slt.emp : Slt K V)).length
        rw [List.length_replicate]; exact ⟨by omega, g4⟩
      · show (lay T.y (hs k) k v).length ≠ 0; rw [lay_length]; omega
      · show (lay T.y (hs k) k v).length ≤ (List.replicate G (Slt.emp : Slt K V)).length
        rw [lay_length, List.length_replicate]; exact g1
      · show 2 * (used (List.replicate G (Slt.emp : Slt K V)) + cnt (lay T.y (hs k) k v) 1 + 1) ≤ (List.replicate G (Slt.emp : Slt K V)).length + 2 * (0 / 8)
        rw [nu, List.length_replicate]; omega
      · show used (List.replicate G (Slt.emp : Slt K V)) + cnt (lay T.y (hs k) k v) 1 ≤ P + 1
        rw [nu]; omega
      · show 3 * (List.replicate G (Slt.emp : Slt K V)).length ≤ 8 * (P + 1)
        rw [List.length_replicate]; omega
      · rw [np0, List.append_nil]
        show (prs (lay T.y (hs k) k v)).Perm ((k, v) :: (prs T.e ++ prs T.y))
        rw [pe]; exact l1
  · have e : growT (⟨lay T.y (hs k) k v, T.e, T.m⟩ : Tb K V) = ⟨lay T.y (hs k) k v, T.e, T.m⟩ := by unfold growT; rw [if_pos (.inl hl)]
    rw [e]
    have he : T.e.length ≠ 0 := by unfold Tb.left at hl; omega
    obtain ⟨_, c2, c3⟩ : T.e.length ≠ 0 ∧ T.e.length ≤ T.y.length ∧ 2 * (used T.y + cnt T.e 1 + 1 + 1) ≤ T.y.length + 2 * (T.m / 8) := by
      rcases h.cap with ⟨h1, _⟩ | h1
      · exact absurd h1 he
      · exact h1
    refine ⟨⟨hok, l2 h.wy, h.we, h.el, by show _ ≤ (lay T.y (hs k) k v).length ∧ _ ∣ (lay T.y (hs k) k v).length; rw [lay_length]; exact h.y8, .inr ⟨he, ?_, ?_⟩, ?_, ?_⟩, hperm, fun _ => rfl, fun h1 => absurd h1 hl⟩
    · show T.e.length ≤ (lay T.y (hs k) k v).length; rw [lay_length]; exact c2
    · show 2 * (used (lay T.y (hs k) k v) + cnt T.e 1 + 1) ≤ (lay T.y (hs k) k v).length + 2 * (T.m / 8)
      rw [lay_length]; omega
    · show used (lay T.y (hs k) k v) + cnt T.e 1 ≤ P + 1; omega
    · show (lay T.y (hs k) k v).length = 8 ∨ 3 * (lay T.y (hs k) k v).length ≤ _
      rw [lay_length]
      rcases h.bd with h1 | h1 <;> omega
/-- What a put leaves: one more pair, or another value under its key. -/
structure PutR (hs : K → Nat) (eq : K → K → Bool) (T T' : Tb K V) (P : Nat) (k : K) (v : V) (r : Option (Bool × Nat)) (z : V) : Prop where
  inv : Inv hs T' (P + 1)
  left : T.left ≠ 0 → T'.left = T.left
  no : r = none → T'.prs.Perm ((k, v) :: T.prs) ∧ ∀ x ∈ T.prs, eq x.1 k = false
  yes : r ≠ none → ∃ k0 k1 R, eq k0 k = true ∧ (k1 = k0 ∨ k1 = k) ∧ T.prs.Perm ((k0, valT z T r) :: R) ∧ T'.prs.Perm ((k1, v) :: R)
theorem seek_no {T : Tb K V} (wy : WayOk hs T.y) (we : WayOk hs T.e) (hh : ∀ a b, eq a b = true → hs a = hs b) {k : K} {m : Nat} (hsk : seek eq hs T k = (none, m)) : ∀ x ∈ T.prs, eq x.1 k = false := by
  unfold seek at hsk
  cases hy : find eq T.y (hs k) k with
  | mk oy ny =>
    rw [hy] at hsk
    cases oy with
    | some p => simp only [] at hsk; cases hsk
    | none =>
      simp only [] at hsk
      cases he : find eq T.e (hs k) k with
      | mk oe ne =>
        rw [he] at hsk
        cases oe with
        | some p => simp only [] at hsk; cases hsk
        | none =>
          rintro ⟨a, b⟩ hx
          rcases List.mem_append.1 hx with h1 | h1
          · obtain ⟨p, hp, hs'⟩ := mem_prs _ _ _ h1
            exact find_miss we hh he p hp a b hs'
          · obtain ⟨p, hp, hs'⟩ := mem_prs _ _ _ h1
            exact find_miss wy hh hy p hp a b hs'
theorem Stp.put {T : Tb K V} {P : Nat} (h : Stp hs T P) (hh : ∀ a b, eq a b = true → hs a = hs b) (k : K) (v z : V) : PutR hs eq T (putG eq hs T k v) P k v (seek eq hs T k).1 z := by
  unfold putG
  cases hsk : seek eq hs T k with
  | mk r n =>
    cases r with
    | none =>
      obtain ⟨h1, h2, h3, h4⟩ := h.more k v
      exact ⟨h1, h3, fun _ => ⟨h2, seek_no h.wy h.we hh hsk⟩, fun e => absurd rfl e⟩
    | some bp =>
      obtain ⟨b, p⟩ := bp
      rcases seek_some hsk with ⟨rfl, hp, ⟨k', v', hs', he⟩, _⟩ | ⟨rfl, hp, ⟨k', v', hs', he⟩, _⟩
      · have hrep : repS v (sat T.y p) = .ful k' v := by rw [hs']; rfl
        have hval : valT z T (some (false, p)) = v' := by simp [valT, hs', valS]
        obtain ⟨A, B, a1, a2⟩ := prs_split T.y p hp
        have k1 : cnt (T.y.set p (.ful k' v)) 1 = cnt T.y 1 := by simpa [hs', Slt.st] using cnt_set T.y p hp (.ful k' v) 1
        have k2 : cnt (T.y.set p (.ful k' v)) 2 = cnt T.y 2 := by simpa [hs', Slt.st] using cnt_set T.y p hp (.ful k' v) 2
        have ku : used (T.y.set p (.ful k' v)) = used T.y := by unfold used; omega
        have hi := h.inv
        show PutR hs eq T ⟨T.y.set p (repS v (sat T.y p)), T.e, T.m⟩ P k v _ z
        rw [hrep]
        refine ⟨⟨⟨hi.ok.mv, hi.ok.m8, hi.ok.e8⟩, hi.wy.set p hp _ (by simp) (fun a b e => by cases e; exact hi.wy p hp k' v' hs'), hi.we, hi.el, by show _ ≤ (T.y.set p (.ful k' v)).length ∧ _ ∣ (T.y.set p (.ful k' v)).length; rw [List.length_set]; exact hi.y8, ?_, ?_, ?_⟩, fun _ => rfl, (fun e => by cases e), fun _ => ⟨k', k', prs T.e ++ (A ++ B), he, .inl rfl, ?_, ?_⟩⟩
        · show (_ ∧ 4 * used (T.y.set p (.ful k' v)) ≤ 3 * (T.y.set p (.ful k' v)).length) ∨ (_ ∧ _ ≤ (T.y.set p (.ful k' v)).length ∧ 2 * (used (T.y.set p (.ful k' v)) + _ + 1) ≤ (T.y.set p (.ful k' v)).length + _)
          rw [ku, List.length_set]; exact hi.cap
        · show used (T.y.set p (.ful k' v)) + cnt T.e 1 ≤ P + 1
          rw [ku]; have := hi.np; omega
        · show (T.y.set p (.ful k' v)).length = 8 ∨ 3 * (T.y.set p (.ful k' v)).length ≤ _
          rw [List.length_set]; rcases hi.bd with h1 | h1 <;> omega
        · rw [hval]
          show (prs T.e ++ prs T.y).Perm _
          rw [a1, hs']
          show (prs T.e ++ (A ++ ([(k', v')] ++ B))).Perm ([(k', v')] ++ (prs T.e ++ (A ++ B)))
          exact ((List.perm_append_comm_assoc A _ B).append_left _).trans (List.perm_append_comm_assoc _ _ _)
        · show (prs T.e ++ prs (T.y.set p (.ful k' v))).Perm _
          rw [a2]
          show (prs T.e ++ (A ++ ([(k', v)] ++ B))).Perm ([(k', v)] ++ (prs T.e ++ (A ++ B)))
          exact ((List.perm_append_comm_assoc A _ B).append_left _).trans (List.perm_append_comm_assoc _ _ _)
      · have hval : valT z T (some (true, p)) = v' := by simp [valT, hs', valS]
        have hi := h.inv
        have hr := hi.room
        obtain ⟨l1, l2, l3, l4⟩ := lay_spec (hs := hs) k v (L := T.y) (by omega)
        obtain ⟨u1, u2, u3, u4⟩ := bury_spec (hs := hs) hp hs'
        have hnp := hi.np
        have he0 : T.e.length ≠ 0 := by omega
        obtain ⟨_, c2, c3⟩ : T.e.length ≠ 0 ∧ T.e.length ≤ T.y.length ∧ 2 * (used T.y + cnt T.e 1 + 1) ≤ T.y.length + 2 * (T.m / 8) := by
          rcases hi.cap with ⟨h1, _⟩ | h1
          · exact absurd h1 he0
          · exact h1
        show PutR hs eq T ⟨lay T.y (hs k) k v, T.e.set p .tmb, T.m⟩ P k v _ z
        refine ⟨⟨⟨?_, hi.ok.m8, ?_⟩, l2 hi.wy, u2 hi.we, ?_, ?_, .inr ⟨?_, ?_, ?_⟩, ?_, ?_⟩, ?_, (fun e => by cases e), fun _ => ⟨k', k, prs (T.e.set p .tmb) ++ prs T.y, he, .inr rfl, ?_, ?_⟩⟩
        · show ((T.e.set p .tmb).length = 0 ∧ _) ∨ _ < (T.e.set p .tmb).length; rw [List.length_set]; exact hi.ok.mv
        · show 8 ∣ (T.e.set p .tmb).length; rw [List.length_set]; exact hi.ok.e8
        · intro q hq
          show (sat (T.e.set p .tmb) q).st ≠ 1
          rw [sat_set hp]
          split
          · intro h; cases h
          · exact hi.el q hq
        · show 8 ≤ (lay T.y (hs k) k v).length ∧ 8 ∣ (lay T.y (hs k) k v).length; rw [lay_length]; exact hi.y8
        · show (T.e.set p .tmb).length ≠ 0; rw [List.length_set]; exact he0
        · show (T.e.set p .tmb).length ≤ (lay T.y (hs k) k v).length; rw [List.length_set, lay_length]; exact c2
        · show 2 * (used (lay T.y (hs k) k v) + cnt (T.e.set p .tmb) 1 + 1) ≤ (lay T.y (hs k) k v).length + 2 * (T.m / 8)
          rw [lay_length]; omega
        · show used (lay T.y (hs k) k v) + cnt (T.e.set p .tmb) 1 ≤ P + 1; omega
        · show (lay T.y (hs k) k v).length = 8 ∨ 3 * (lay T.y (hs k) k v).length ≤ _
          rw [lay_length]; rcases hi.bd with h1 | h1 <;> omega
        · intro _; show (T.e.set p .tmb).length - T.m = T.e.length - T.m; rw [List.length_set]
        · rw [hval]
          exact u1.append_right _
        · exact (l1.append_left _).trans List.perm_middle
/-- What a taking out leaves. -/
structure DelR (hs : K → Nat) (eq : K → K → Bool) (T T' : Tb K V) (P : Nat) (k : K) (r : Option (Bool × Nat)) (z : V) : Prop where
  inv : Inv hs T' P
  left : T'.left = T.left
  no : r = none → T' = T ∧ ∀ x ∈ T.prs, eq x.1 k = false
  yes : r ≠ none → ∃ k0, eq k0 k = true ∧ T.prs.Perm ((k0, valT z T r) :: T'.prs)
theorem Stp.del {T : Tb K V} {P : Nat} (h : Stp hs T P) (hh : ∀ a b, eq a b = true → hs a = hs b) (k : K) (z : V) : DelR hs eq T (delG eq hs T k) P k (seek eq hs T k).1 z := by
  unfold delG
  have hi := h.inv
  cases hsk : seek eq hs T k with
  | mk r n =>
    cases r with
    | none => exact ⟨hi, rfl, fun _ => ⟨rfl, seek_no h.wy h.we hh hsk⟩, fun e => absurd rfl e⟩
    | some bp =>
      obtain ⟨b, p⟩ := bp
      rcases seek_some hsk with ⟨rfl, hp, ⟨k', v', hs', he⟩, _⟩ | ⟨rfl, hp, ⟨k', v', hs', he⟩, _⟩
      · have hval : valT z T (some (false, p)) = v' := by simp [valT, hs', valS]
        obtain ⟨u1, u2, u3, u4⟩ := bury_spec (hs := hs) hp hs'
        show DelR hs eq T ⟨T.y.set p .tmb, T.e, T.m⟩ P k _ z
        refine ⟨⟨⟨hi.ok.mv, hi.ok.m8, hi.ok.e8⟩, u2 hi.wy, hi.we, hi.el, by show _ ≤ (T.y.set p .tmb).length ∧ _ ∣ (T.y.set p .tmb).length; rw [List.length_set]; exact hi.y8, ?_, ?_, ?_⟩, rfl, (fun e => by cases e), fun _ => ⟨k', he, ?_⟩⟩
        · show (_ ∧ 4 * used (T.y.set p .tmb) ≤ 3 * (T.y.set p .tmb).length) ∨ (_ ∧ _ ≤ (T.y.set p .tmb).length ∧ 2 * (used (T.y.set p .tmb) + _ + 1) ≤ (T.y.set p .tmb).length + _)
          rw [u3, List.length_set]; exact hi.cap
        · show used (T.y.set p .tmb) + _ ≤ _; rw [u3]; exact hi.np
        · show (T.y.set p .tmb).length = 8 ∨ 3 * (T.y.set p .tmb).length ≤ _
          rw [List.length_set]; exact hi.bd
        · rw [hval]
          exact (u1.append_left _).trans List.perm_middle
      · have hval : valT z T (some (true, p)) = v' := by simp [valT, hs', valS]
        obtain ⟨u1, u2, u3, u4⟩ := bury_spec (hs := hs) hp hs'
        have he0 : T.e.length ≠ 0 := by omega
        have hnp := hi.np
        show DelR hs eq T ⟨T.y, T.e.set p .tmb, T.m⟩ P k _ z
        refine ⟨⟨⟨?_, hi.ok.m8, ?_⟩, hi.wy, u2 hi.we, ?_, hi.y8, ?_, ?_, hi.bd⟩, ?_, (fun e => by cases e), fun _ => ⟨k', he, ?_⟩⟩
        · show ((T.e.set p .tmb).length = 0 ∧ _) ∨ _ < (T.e.set p .tmb).length; rw [List.length_set]; exact hi.ok.mv
        · show 8 ∣ (T.e.set p .tmb).length; rw [List.length_set]; exact hi.ok.e8
        · intro q hq
          show (sat (T.e.set p .tmb) q).st ≠ 1
          rw [sat_set hp]
          split
          · intro h; cases h
          · exact hi.el q hq
        · show ((T.e.set p .tmb).length = 0 ∧ 4 * used T.y ≤ 3 * T.y.length) ∨ ((T.e.set p .tmb).length ≠ 0 ∧ (T.e.set p .tmb).length ≤ T.y.length ∧ 2 * (used T.y + cnt (T.e.set p .tmb) 1 + 1) ≤ T.y.length + 2 * (T.m / 8))
          rw [List.length_set]
          rcases hi.cap with ⟨h1, _⟩ | ⟨h1, h2, h3⟩
          · exact absurd h1 he0
          · exact .inr ⟨h1, h2, by omega⟩
        · show used T.y + cnt (T.e.set p .tmb) 1 ≤ P; omega
        · show (T.e.set p .tmb).length - T.m = T.e.length - T.m; rw [List.length_set]
        · rw [hval]
          exact u1.append_right _
end
end TX
end Go.Proofs.Ytjhbebaephmcgaa
