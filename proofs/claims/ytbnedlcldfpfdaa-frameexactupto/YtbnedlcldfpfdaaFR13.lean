/- What comes of a record that is whole, and of one in which bytes are others (pure). -/
import Derived.Test.YtbnedlcldfpfdaaFR11
namespace Go.Proofs.Ytbnedlcldfpfdaa
set_option linter.unusedVariables false
set_option linter.unusedSimpArgs false

theorem ofNat_toNat (n : Nat) : (UInt8.ofNat n).toNat = n % 256 := UInt8.toNat_ofNat'
theorem open_inj {m n : Nat} (hm : m ≤ 65535) (hn : n ≤ 65535) (h1 : (UInt8.ofNat m) = UInt8.ofNat n) (h2 : UInt8.ofNat (m / 256) = UInt8.ofNat (n / 256)) : m = n := by
  have e1 := congrArg UInt8.toNat h1
  have e2 := congrArg UInt8.toNat h2
  rw [ofNat_toNat, ofNat_toNat] at e1 e2
  omega
theorem le4_inj {s t : Nat} (hs : s < 4294967296) (ht : t < 4294967296) (h : le4 s = le4 t) : s = t := by
  unfold le4 at h
  simp only [List.cons.injEq, and_true] at h
  obtain ⟨h1, h2, h3, h4⟩ := h
  have e1 := congrArg UInt8.toNat h1
  have e2 := congrArg UInt8.toNat h2
  have e3 := congrArg UInt8.toNat h3
  have e4 := congrArg UInt8.toNat h4
  rw [ofNat_toNat, ofNat_toNat] at e1 e2 e3 e4
  omega
theorem lenN_open {n : Nat} (hn : n ≤ 65535) (r : List UInt8) : lenN (openL n ++ r) = n := by
  unfold lenN openL
  simp only [List.cons_append, List.getElem?_cons_succ, List.getElem?_cons_zero, Option.getD_some, ofNat_toNat]
  omega
theorem lenN_take {b : List UInt8} {n : Nat} (hn : n ≤ 65535) (h : b.take 6 = openL n) : lenN b = n := by
  rw [← List.take_append_drop 6 b, h]
  exact lenN_open hn _
/-- A record is read, whatever stands behind it. -/
theorem upk_pack (xs r : List UInt8) (h : xs.length ≤ 65526) : upk (packL xs ++ r) = (xs, 10 + xs.length, 0) := by
  have hl : (packL xs ++ r).length = 10 + xs.length + r.length := by rw [List.length_append, packL_len]
  have hb : packL xs ++ r = openL xs.length ++ (sealL (openL xs.length) xs ++ (xs ++ r)) := by unfold packL; simp
  have ht : (packL xs ++ r).take 6 = openL xs.length := by rw [hb]; exact List.take_left' (openL_len _)
  have hn : lenN (packL xs ++ r) = xs.length := lenN_take (by omega) ht
  have hd6 : (packL xs ++ r).drop 6 = sealL (openL xs.length) xs ++ (xs ++ r) := by rw [hb]; exact List.drop_left' (openL_len _)
  have hd10 : (packL xs ++ r).drop 10 = xs ++ r := by
    rw [show 10 = 6 + 4 from rfl, ← List.drop_drop, hd6]; exact List.drop_left' (sealL_len _ _)
  unfold upk
  rw [if_neg (by omega), hn, if_neg (fun h => by rcases h with h | h; omega; exact h ht), if_neg (by omega), hd10, hd6, ht, List.take_left' (sealL_len _ _), List.take_left' rfl, if_neg (fun h => h rfl)]
theorem upk_err {b : List UInt8} (h : (upk b).2.2 ≠ 0) : ∃ e, upk b = ([], 0, e) ∧ e ≠ 0 := by
  refine ⟨(upk b).2.2, ?_, h⟩
  revert h
  unfold upk
  split
  · intro _; rfl
  · split
    · intro _; rfl
    · split
      · intro _; rfl
      · split
        · intro _; rfl
        · intro h; exact absurd rfl h
/-- What is read has a head, a sum and a body that fit. -/
theorem upk_ok {b : List UInt8} (h : (upk b).2.2 = 0) : lenN b ≤ 65526 ∧ b.take 6 = openL (lenN b) ∧ 10 + lenN b ≤ b.length ∧ (b.drop 6).take 4 = sealL (b.take 6) ((b.drop 10).take (lenN b)) := by
  revert h
  unfold upk
  split
  · intro h; cases h
  · split
    · intro h; cases h
    · rename_i h2
      split
      · intro h; cases h
      · split
        · intro h; cases h
        · rename_i h1 h3 h4
          intro _
          refine ⟨by omega, ?_, by omega, ?_⟩
          · exact Decidable.byContradiction fun h => h2 (.inr h)
          · exact Decidable.byContradiction fun h => h4 h
/-- Two lists alike outside of four bytes beside one another, and not alike, have unlike sums. -/
theorem more_window (o xs ys : List UInt8) (a : Nat) (hl : xs.length = ys.length) (hw : ∀ j, (j < a ∨ a + 4 ≤ j) → xs[j]? = ys[j]?) (hne : xs ≠ ys) : moreN 0 (o ++ xs) ≠ moreN 0 (o ++ ys) := by
  have hp : xs.take a = ys.take a := by
    apply List.ext_getElem?
    intro j
    rw [List.getElem?_take, List.getElem?_take]
    split
    · exact hw j (.inl (by assumption))
    · rfl
  have hs : xs.drop (a + 4) = ys.drop (a + 4) := by
    apply List.ext_getElem?
    intro j
    rw [List.getElem?_drop, List.getElem?_drop]
    exact hw _ (.inr (by omega))
  have part : ∀ zs : List UInt8, zs = zs.take a ++ (zs.drop a).take 4 ++ zs.drop (a + 4) := by
    intro zs
    rw [List.append_assoc]
    conv => lhs; rw [← List.take_append_drop a zs]
    congr 1
    conv => lhs; rw [← List.take_append_drop 4 (zs.drop a)]
    rw [List.drop_drop]
  have h := moreN_burst 0 (o ++ xs.take a) ((xs.drop a).take 4) ((ys.drop a).take 4) (xs.drop (a + 4)) (by simp [hl]) (by simp; omega) (fun e => hne (by rw [part xs, part ys, hp, hs, e]))
  have e1 : o ++ xs.take a ++ (xs.drop a).take 4 ++ xs.drop (a + 4) = o ++ xs := by
    conv => rhs; rw [part xs]
    simp
  have e2 : o ++ xs.take a ++ (ys.drop a).take 4 ++ xs.drop (a + 4) = o ++ ys := by
    conv => rhs; rw [part ys]
    rw [hp, hs]; simp
  rwa [e1, e2] at h
/-- Bytes of the body are others. -/
theorem bad_body (xs r b : List UInt8) (h : xs.length ≤ 65526) (hl : b.length = (packL xs ++ r).length) (a : Nat) (ha : 10 ≤ a) (hw : ∀ j, (j < a ∨ a + 4 ≤ j ∨ 10 + xs.length ≤ j) → b[j]? = (packL xs ++ r)[j]?) (hne : b ≠ packL xs ++ r) : (upk b).2.2 ≠ 0 := by
  intro hok
  obtain ⟨k1, k2, k3, k4⟩ := upk_ok hok
  have hb : packL xs ++ r = openL xs.length ++ (sealL (openL xs.length) xs ++ (xs ++ r)) := by unfold packL; simp
  have pl : (packL xs ++ r).length = 10 + xs.length + r.length := by rw [List.length_append, packL_len]
  have low : ∀ m, m ≤ 10 → b.take m = (packL xs ++ r).take m := by
    intro m hm
    apply List.ext_getElem?
    intro j
    rw [List.getElem?_take, List.getElem?_take]
    split
    · exact hw j (.inl (by omega))
    · rfl
  have t6 : b.take 6 = openL xs.length := by rw [low 6 (by omega), hb]; exact List.take_left' (openL_len _)
  have hn : lenN b = xs.length := lenN_take (by omega) t6
  have t4 : (b.drop 6).take 4 = sealL (openL xs.length) xs := by
    rw [List.take_drop, low (6 + 4) (by omega), ← List.take_drop, hb, List.drop_left' (openL_len _), List.take_left' (sealL_len _ _)]
  rw [hn, t6, t4] at k4
  have d10 : (packL xs ++ r).drop 10 = xs ++ r := by
    rw [hb, show 10 = 6 + 4 from rfl, ← List.drop_drop, List.drop_left' (openL_len _)]; exact List.drop_left' (sealL_len _ _)
  have hbl : ((b.drop 10).take xs.length).length = xs.length := by rw [List.length_take, List.length_drop]; omega
  have e := le4_inj (moreN_lt _ _) (moreN_lt _ _) k4
  refine more_window (openL xs.length) xs ((b.drop 10).take xs.length) (a - 10) hbl.symm ?_ ?_ e
  · intro j hj
    by_cases hjn : j < xs.length
    · rw [List.getElem?_take_of_lt hjn, List.getElem?_drop, hw (10 + j) (by omega)]
      have : (packL xs ++ r)[10 + j]? = ((packL xs ++ r).drop 10)[j]? := by rw [List.getElem?_drop]
      rw [this, d10, List.getElem?_append_left hjn]
    · rw [List.getElem?_eq_none (by omega), List.getElem?_eq_none (by omega)]
  · intro heq
    apply hne
    apply List.ext_getElem?
    intro j
    by_cases hj : j < 10 ∨ 10 + xs.length ≤ j
    · rcases hj with hj | hj
      · exact hw j (.inl (by omega))
      · exact hw j (.inr (.inr hj))
    · obtain ⟨i, rfl⟩ : ∃ i, j = 10 + i := ⟨j - 10, by omega⟩
      have hi : i < xs.length := by omega
      have e1 : (packL xs ++ r)[10 + i]? = xs[i]? := by
        have : (packL xs ++ r)[10 + i]? = ((packL xs ++ r).drop 10)[i]? := by rw [List.getElem?_drop]
        rw [this, d10, List.getElem?_append_left hi]
      rw [e1]
      conv => rhs; rw [heq]
      rw [List.getElem?_take_of_lt hi, List.getElem?_drop]
/-- One byte of a record is another. -/
theorem bad_one (xs r b : List UInt8) (h : xs.length ≤ 65526) (hl : b.length = (packL xs ++ r).length) (a : Nat) (ha : a < 10 + xs.length) (hw : ∀ j, j ≠ a → b[j]? = (packL xs ++ r)[j]?) (hne : b ≠ packL xs ++ r) : (upk b).2.2 ≠ 0 := by
  by_cases h10 : 10 ≤ a
  · exact bad_body xs r b h hl a h10 (fun j hj => hw j (by omega)) hne
  intro hok
  obtain ⟨k1, k2, k3, k4⟩ := upk_ok hok
  have hb : packL xs ++ r = openL xs.length ++ (sealL (openL xs.length) xs ++ (xs ++ r)) := by unfold packL; simp
  have pl : (packL xs ++ r).length = 10 + xs.length + r.length := by rw [List.length_append, packL_len]
  have hda : b[a]? ≠ (packL xs ++ r)[a]? := by
    intro e
    apply hne
    apply List.ext_getElem?
    intro j
    by_cases hj : j = a
    · rw [hj, e]
    · exact hw j hj
  have at6 : ∀ j, j < 6 → b[j]? = (openL (lenN b))[j]? := by
    intro j hj
    rw [← k2, List.getElem?_take_of_lt hj]
  have pt6 : ∀ j, j < 6 → (packL xs ++ r)[j]? = (openL xs.length)[j]? := by
    intro j hj
    rw [hb, List.getElem?_append_left (by rw [openL_len]; exact hj)]
  by_cases h6 : a < 6
  · have go : lenN b = xs.length → False := by
      intro e
      rw [e] at at6
      exact hda (by rw [at6 a h6, pt6 a h6])
    have same : ∀ j, j < 6 → j ≠ a → (openL (lenN b))[j]? = (openL xs.length)[j]? := fun j hj hja => by rw [← at6 j hj, ← pt6 j hj]; exact hw j hja
    by_cases h12 : a = 1 ∨ a = 2
    · have s3 := same 3 (by omega) (by omega)
      have s4 := same 4 (by omega) (by omega)
      simp only [openL, List.getElem?_cons_succ, List.getElem?_cons_zero, Option.some.injEq] at s3 s4
      have := open_inj (m := 65535 - lenN b) (n := 65535 - xs.length) (by omega) (by omega) s3 s4
      exact go (by omega)
    · have s1 := same 1 (by omega) (by omega)
      have s2 := same 2 (by omega) (by omega)
      simp only [openL, List.getElem?_cons_succ, List.getElem?_cons_zero, Option.some.injEq] at s1 s2
      exact go (open_inj (by omega) (by omega) s1 s2)
  · have t6 : b.take 6 = openL xs.length := by
      apply List.ext_getElem?
      intro j
      by_cases hj : j < 6
      · rw [List.getElem?_take_of_lt hj, hw j (by omega), pt6 j hj]
      · rw [List.getElem?_eq_none (by rw [List.length_take]; omega), List.getElem?_eq_none (by rw [openL_len]; omega)]
    have hn : lenN b = xs.length := lenN_take (by omega) t6
    have d10 : (packL xs ++ r).drop 10 = xs ++ r := by
      rw [hb, show 10 = 6 + 4 from rfl, ← List.drop_drop, List.drop_left' (openL_len _)]; exact List.drop_left' (sealL_len _ _)
    have body : (b.drop 10).take xs.length = xs := by
      have : b.drop 10 = (packL xs ++ r).drop 10 := by
        apply List.ext_getElem?
        intro j
        rw [List.getElem?_drop, List.getElem?_drop]
        exact hw _ (by omega)
      rw [this, d10]; exact List.take_left' rfl
    rw [hn, t6, body] at k4
    apply hda
    obtain ⟨i, rfl⟩ : ∃ i, a = 6 + i := ⟨a - 6, by omega⟩
    have e1 : b[6 + i]? = (sealL (openL xs.length) xs)[i]? := by
      rw [← k4, List.getElem?_take_of_lt (by omega), List.getElem?_drop]
    rw [e1, hb, List.getElem?_append_right (by rw [openL_len]; omega), openL_len, show 6 + i - 6 = i from by omega, List.getElem?_append_left (by rw [sealL_len]; omega)]
/-- Bytes from a place on, xored. -/
def turnL (l : List UInt8) (a i : Nat) (By : Nat → UInt8) : List UInt8 := l.mapIdx (fun j x => if a ≤ j ∧ j < a + i then x ^^^ By (j - a) else x)
theorem turnL_len (l : List UInt8) (a i : Nat) (By : Nat → UInt8) : (turnL l a i By).length = l.length := by simp [turnL]
theorem turnL_out (l : List UInt8) (a i : Nat) (By : Nat → UInt8) (j : Nat) (h : ¬ (a ≤ j ∧ j < a + i)) : (turnL l a i By)[j]? = l[j]? := by
  simp only [turnL, List.getElem?_mapIdx, if_neg h]; simp
theorem turnL_zero (l : List UInt8) (a : Nat) (By : Nat → UInt8) : turnL l a 0 By = l := by
  apply List.ext_getElem?
  intro j
  exact turnL_out l a 0 By j (by omega)
theorem turnL_in (l : List UInt8) (a i : Nat) (By : Nat → UInt8) (j : Nat) (h : j < i) (hj : a + j < l.length) : (turnL l a i By)[a + j]? = some (l[a + j] ^^^ By j) := by
  simp only [turnL, List.getElem?_mapIdx, if_pos (show a ≤ a + j ∧ a + j < a + i by omega), List.getElem?_eq_getElem hj, show a + j - a = j from by omega]; rfl
theorem turnL_succ (l : List UInt8) (a i : Nat) (By : Nat → UInt8) (h : a + i < l.length) : turnL l a (i + 1) By = (turnL l a i By).set (a + i) (l[a + i] ^^^ By i) := by
  apply List.ext_getElem?
  intro j
  rw [List.getElem?_set]
  by_cases hj : a + i = j
  · subst hj
    rw [if_pos rfl, if_pos (by rw [turnL_len]; exact h), turnL_in l a (i + 1) By i (by omega) h]
  · rw [if_neg hj]
    simp only [turnL, List.getElem?_mapIdx]
    by_cases hc : a ≤ j ∧ j < a + i
    · simp only [if_pos hc, if_pos (show a ≤ j ∧ j < a + (i + 1) by omega)]
    · simp only [if_neg hc, if_neg (show ¬ (a ≤ j ∧ j < a + (i + 1)) by omega)]
/-- Is one of the first i no nought? -/
def anyN (By : Nat → UInt8) : Nat → Bool
  | 0 => false
  | i + 1 => anyN By i || (By i != 0)
theorem anyN_ex (By : Nat → UInt8) : ∀ i, anyN By i = true → ∃ j, j < i ∧ By j ≠ 0
  | 0, h => by cases h
  | i + 1, h => by
    simp only [anyN, Bool.or_eq_true, bne_iff_ne] at h
    rcases h with h | h
    · obtain ⟨j, hj, hn⟩ := anyN_ex By i h
      exact ⟨j, by omega, hn⟩
    · exact ⟨i, by omega, h⟩
theorem anyN_no (By : Nat → UInt8) : ∀ i, anyN By i = false → ∀ j, j < i → By j = 0
  | 0, _, _, hj => by omega
  | i + 1, h, j, hj => by
    simp only [anyN, Bool.or_eq_false_iff, bne_eq_false_iff_eq] at h
    by_cases hji : j = i
    · rw [hji]; exact h.2
    · exact anyN_no By i h.1 j (by omega)
theorem xor_self_ne {x y : UInt8} (h : y ≠ 0) : x ^^^ y ≠ x := by
  intro e
  apply h
  have h2 : x ^^^ (x ^^^ y) = x ^^^ x := by rw [e]
  rw [← UInt8.xor_assoc, UInt8.xor_self, UInt8.zero_xor] at h2
  exact h2
theorem turnL_ne (l : List UInt8) (a i : Nat) (By : Nat → UInt8) (h : anyN By i = true) (hl : a + i ≤ l.length) : turnL l a i By ≠ l := by
  obtain ⟨j, hj, hn⟩ := anyN_ex By i h
  intro e
  have h1 := turnL_in l a i By j hj (by omega)
  rw [e, List.getElem?_eq_getElem (by omega)] at h1
  exact xor_self_ne hn (Option.some.inj h1).symm
theorem turnL_same (l : List UInt8) (a i : Nat) (By : Nat → UInt8) (h : anyN By i = false) : turnL l a i By = l := by
  apply List.ext_getElem?
  intro j
  simp only [turnL, List.getElem?_mapIdx]
  by_cases hc : a ≤ j ∧ j < a + i
  · simp only [if_pos hc, anyN_no By i h (j - a) (by omega), UInt8.xor_zero]; simp
  · simp only [if_neg hc]; simp
end Go.Proofs.Ytbnedlcldfpfdaa
