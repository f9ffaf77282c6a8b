/- The bits of a filter as they are told one by one: what adding, joining and meeting do to them. -/
import Derived.Test.YtbemmhngadpjcaaFJ7
namespace Go.Proofs.Ytbemmhngadpjcaa
set_option linter.unusedVariables false
set_option linter.unusedSimpArgs false
open Go.RowKit Go.Sort Ieee

theorem hsB_test (ws : List Nat) (p : Nat) : hsB ws p = (ws[p / 64]?.getD 0).testBit (p % 64) := by
  unfold hsB
  obtain ⟨x, hx⟩ : ∃ x, x = ws[p / 64]?.getD 0 := ⟨_, rfl⟩
  rw [← hx]
  cases h : x.testBit (p % 64)
  · have h0 : x &&& 2 ^ (p % 64) = 0 := Nat.eq_of_testBit_eq fun j => by
      rw [Nat.testBit_and, Nat.testBit_two_pow, Nat.zero_testBit]
      by_cases e : p % 64 = j
      · rw [← e, h]
        rfl
      · rw [decide_eq_false e, Bool.and_false]
    rw [h0]
    rfl
  · have h1 : (x &&& 2 ^ (p % 64)).testBit (p % 64) = true := by
      rw [Nat.testBit_and, Nat.testBit_two_pow, h, decide_eq_true rfl]
      rfl
    have h2 : (x &&& 2 ^ (p % 64) == 0) = false := by
      rw [beq_eq_false_iff_ne]
      intro e
      rw [e, Nat.zero_testBit] at h1
      cases h1
    rw [h2]
    rfl
theorem hsB_stB (ws : List Nat) (p q : Nat) (hp : p < 64 * ws.length) : hsB (stB ws p) q = (hsB ws q || p == q) := by
  have hd : p / 64 < ws.length := by omega
  rw [hsB_test, hsB_test]
  unfold stB
  by_cases e : p / 64 = q / 64
  · rw [← e, List.getElem?_set_self hd, Option.getD_some, Nat.testBit_or, Nat.testBit_two_pow]
    congr 1
    rw [Bool.eq_iff_iff, decide_eq_true_iff, beq_iff_eq]
    omega
  · rw [List.getElem?_set_ne e]
    have : (p == q) = false := by
      rw [beq_eq_false_iff_ne]
      intro h
      exact e (by rw [h])
    rw [this, Bool.or_false]
theorem plK_lt (a b L k : Nat) (h : 1 ≤ L) : plK a b L k < 64 * L := Nat.mod_lt _ (by omega)
theorem hsB_addK (ws : List Nat) (a b : Nat) (hl : 1 ≤ ws.length) (q : Nat) : ∀ k, hsB (addK ws a b k).1 q = true ↔ hsB ws q = true ∨ ∃ i, i < k ∧ plK a b ws.length i = q
  | 0 => by
    rw [addK]
    exact ⟨.inl, fun h => h.elim id fun ⟨i, hi, _⟩ => absurd hi (by omega)⟩
  | k + 1 => by
    rw [addK, hsB_stB _ _ _ (by rw [addK_len]; exact plK_lt a b _ k hl), Bool.or_eq_true, hsB_addK ws a b hl q k, beq_iff_eq]
    constructor
    · rintro ((h | ⟨i, hi, e⟩) | e)
      · exact .inl h
      · exact .inr ⟨i, by omega, e⟩
      · exact .inr ⟨k, by omega, e⟩
    · rintro (h | ⟨i, hi, e⟩)
      · exact .inl (.inl h)
      · by_cases hk : i = k
        · exact .inr (hk ▸ e)
        · exact .inl (.inr ⟨i, by omega, e⟩)
theorem hasK_iff (ws : List Nat) (a b : Nat) : ∀ k, hasK ws a b k = true ↔ ∀ i, i < k → hsB ws (plK a b ws.length i) = true
  | 0 => by
    rw [hasK]
    exact ⟨fun _ i hi => absurd hi (by omega), fun _ => rfl⟩
  | k + 1 => by
    rw [hasK, Bool.and_eq_true, hasK_iff ws a b k]
    constructor
    · rintro ⟨h1, h2⟩ i hi
      by_cases e : i = k
      · rw [e]
        exact h2
      · exact h1 i (by omega)
    · exact fun h => ⟨fun i hi => h i (by omega), h k (by omega)⟩
/-- All of them added, one behind the other. -/
def addAll (h : Nat) (ws : List Nat) : List (List UInt8) → List Nat
  | [] => ws
  | kb :: ks => addAll h (addK ws (keyA kb) (keyB kb) h).1 ks
theorem addAll_len (h : Nat) : ∀ (ks : List (List UInt8)) (ws : List Nat), (addAll h ws ks).length = ws.length
  | [], _ => rfl
  | kb :: ks, ws => by rw [addAll, addAll_len h ks, addK_len]
theorem addAll_append (h : Nat) (ks js : List (List UInt8)) : ∀ ws, addAll h ws (ks ++ js) = addAll h (addAll h ws ks) js := by
  induction ks with
  | nil => intro ws; rfl
  | cons k ks ih => intro ws; exact ih _
/-- A place that one of the keys has. -/
def Plc (h L : Nat) (ks : List (List UInt8)) (q : Nat) : Prop := ∃ kb, kb ∈ ks ∧ ∃ i, i < h ∧ plK (keyA kb) (keyB kb) L i = q
theorem hsB_addAll (h q : Nat) : ∀ (ks : List (List UInt8)) (ws : List Nat), 1 ≤ ws.length → (hsB (addAll h ws ks) q = true ↔ hsB ws q = true ∨ Plc h ws.length ks q)
  | [], ws, _ => ⟨.inl, fun h => h.elim id fun ⟨kb, hk, _⟩ => absurd hk List.not_mem_nil⟩
  | kb :: ks, ws, hl => by
    rw [addAll, hsB_addAll h q ks _ (by rw [addK_len]; exact hl), addK_len, hsB_addK ws _ _ hl]
    constructor
    · rintro ((a | ⟨i, hi, e⟩) | ⟨k, hk, e⟩)
      · exact .inl a
      · exact .inr ⟨kb, List.mem_cons_self, i, hi, e⟩
      · exact .inr ⟨k, List.mem_cons_of_mem _ hk, e⟩
    · rintro (a | ⟨k, hk, e⟩)
      · exact .inl (.inl a)
      · rcases List.mem_cons.1 hk with rfl | hk
        · exact .inl (.inr e)
        · exact .inr ⟨k, hk, e⟩
theorem has_addAll (h : Nat) (ks : List (List UInt8)) (ws us : List Nat) (hl : us.length = ws.length) (hq : ∀ q, Plc h ws.length ks q → hsB us q = true) (kb : List UInt8) (hk : kb ∈ ks) : hasK us (keyA kb) (keyB kb) h = true :=
  (hasK_iff us _ _ h).2 fun i hi => hq _ ⟨kb, hk, i, hi, by rw [hl]⟩
theorem hsB_zero (n q : Nat) : hsB (List.replicate n 0) q = false := by
  rw [hsB_test, List.getElem?_replicate]
  split <;> simp
theorem hsB_or (us vs : List Nat) (hl : us.length = vs.length) (q : Nat) : hsB (List.zipWith (· ||| ·) us vs) q = (hsB us q || hsB vs q) := by
  rw [hsB_test, hsB_test, hsB_test]
  by_cases h : q / 64 < us.length
  · rw [List.getElem?_eq_getElem h, List.getElem?_eq_getElem (show q / 64 < vs.length by omega), List.getElem?_eq_getElem (by rw [List.length_zipWith]; omega), List.getElem_zipWith]
    simp only [Option.getD_some, Nat.testBit_or]
  · rw [List.getElem?_eq_none (show us.length ≤ q / 64 by omega), List.getElem?_eq_none (show vs.length ≤ q / 64 by omega), List.getElem?_eq_none (by rw [List.length_zipWith]; omega)]
    simp
theorem hsB_and (us vs : List Nat) (hl : us.length = vs.length) (q : Nat) : hsB (List.zipWith (· &&& ·) us vs) q = (hsB us q && hsB vs q) := by
  rw [hsB_test, hsB_test, hsB_test]
  by_cases h : q / 64 < us.length
  · rw [List.getElem?_eq_getElem h, List.getElem?_eq_getElem (show q / 64 < vs.length by omega), List.getElem?_eq_getElem (by rw [List.length_zipWith]; omega), List.getElem_zipWith]
    simp only [Option.getD_some, Nat.testBit_and]
  · rw [List.getElem?_eq_none (show us.length ≤ q / 64 by omega), List.getElem?_eq_none (show vs.length ≤ q / 64 by omega), List.getElem?_eq_none (by rw [List.length_zipWith]; omega)]
    simp
/-- Words whose bits are the same are the same. -/
theorem words_ext (us vs : List Nat) (hl : us.length = vs.length) (hu : ∀ x ∈ us, x < 18446744073709551616) (hv : ∀ x ∈ vs, x < 18446744073709551616) (hq : ∀ q, hsB us q = hsB vs q) : us = vs := by
  refine List.ext_getElem hl fun i h1 h2 => Nat.eq_of_testBit_eq fun j => ?_
  by_cases hj : j < 64
  · have := hq (64 * i + j)
    rw [hsB_test, hsB_test, show (64 * i + j) / 64 = i by omega, show (64 * i + j) % 64 = j by omega, List.getElem?_eq_getElem h1, List.getElem?_eq_getElem h2] at this
    exact this
  · have e : (18446744073709551616 : Nat) = 2 ^ 64 := by decide
    have p := Nat.pow_le_pow_right (n := 2) (by omega) (show 64 ≤ j by omega)
    rw [Nat.testBit_lt_two_pow (Nat.lt_of_lt_of_le (hu _ (List.getElem_mem h1)) (by rw [e]; exact p)), Nat.testBit_lt_two_pow (Nat.lt_of_lt_of_le (hv _ (List.getElem_mem h2)) (by rw [e]; exact p))]
theorem addAll_perm (h : Nat) (ks js : List (List UInt8)) (ws : List Nat) (hl : 1 ≤ ws.length) (hm : ∀ kb, kb ∈ ks ↔ kb ∈ js) (h1 : ∀ x ∈ addAll h ws ks, x < 18446744073709551616) (h2 : ∀ x ∈ addAll h ws js, x < 18446744073709551616) : addAll h ws ks = addAll h ws js := by
  refine words_ext _ _ (by rw [addAll_len, addAll_len]) h1 h2 fun q => ?_
  rw [Bool.eq_iff_iff, hsB_addAll h q ks ws hl, hsB_addAll h q js ws hl]
  have : Plc h ws.length ks q ↔ Plc h ws.length js q := ⟨fun ⟨kb, a, b⟩ => ⟨kb, (hm kb).1 a, b⟩, fun ⟨kb, a, b⟩ => ⟨kb, (hm kb).2 a, b⟩⟩
  rw [this]
theorem popB_pos : ∀ n x j, j < n → x.testBit j = true → 1 ≤ popB n x
  | 0, _, _, h, _ => absurd h (by omega)
  | n + 1, x, 0, _, h => by
    rw [popB]
    rw [Nat.testBit_zero, decide_eq_true_iff] at h
    omega
  | n + 1, x, j + 1, hj, h => by
    rw [popB]
    rw [Nat.testBit_succ] at h
    have := popB_pos n (x / 2) j (by omega) h
    omega
theorem popS_pos (ws : List Nat) : ∀ q, hsB ws q = true → 1 ≤ popS ws := by
  induction ws with
  | nil =>
    intro q h
    rw [hsB_test] at h
    simp at h
  | cons x xs ih =>
    intro q h
    rw [popS]
    by_cases hq : q < 64
    · rw [hsB_test, show q / 64 = 0 by omega, List.getElem?_cons_zero, Option.getD_some] at h
      have := popB_pos 64 x (q % 64) (by omega) h
      omega
    · have := ih (q - 64) (by
        rw [hsB_test] at h ⊢
        rw [show q / 64 = (q - 64) / 64 + 1 by omega, List.getElem?_cons_succ] at h
        rw [show (q - 64) % 64 = q % 64 by omega]
        exact h)
      omega
/-- What a key that was added leaves: a bit. -/
theorem plc_some (h L : Nat) (hh : 1 ≤ h) (ks : List (List UInt8)) (hk : ks ≠ []) : ∃ q, Plc h L ks q := by
  match ks, hk with
  | kb :: ks, _ => exact ⟨_, kb, List.mem_cons_self, 0, by omega, rfl⟩
end Go.Proofs.Ytbemmhngadpjcaa
