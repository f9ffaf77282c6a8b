/- Cuts come back, plainly. -/
import Derived.Test.YtamajnaeladehaaDoorGB1
namespace Go.Proofs.YtamajnaeladehaaDoor
set_option linter.unusedVariables false
set_option linter.unusedSimpArgs false
open Go.RowKit

theorem cut_pos {mn me mx : Int} (hm : mayB mn me mx = true) : ∀ (n : Nat) (xs : List UInt8), xs.length ≤ n → (∀ x ∈ cutL mn me mx xs, 1 ≤ x) ∧ (cutL mn me mx xs).sum = (xs.length : Int)
  | 0, xs, h => by
    obtain rfl : xs = [] := List.eq_nil_of_length_eq_zero (by omega)
    rw [cutL_nil]
    exact ⟨fun x hx => by simp at hx, rfl⟩
  | n + 1, xs, h => by
    rcases Nat.eq_zero_or_pos xs.length with h0 | h0
    · obtain rfl : xs = [] := List.eq_nil_of_length_eq_zero h0
      rw [cutL_nil]
      exact ⟨fun x hx => by simp at hx, rfl⟩
    · have hb := firstP_bounds hm xs h0
      have hr := cut_pos hm n (xs.drop (firstP mn me mx xs).1) (by rw [List.length_drop]; omega)
      rw [cutL_cons hm xs h0]
      refine ⟨fun x hx => ?_, ?_⟩
      · rcases List.mem_cons.1 hx with rfl | hx
        · omega
        · exact hr.1 x hx
      · rw [List.sum_cons, hr.2, List.length_drop]
        omega
theorem cut_at {mn me mx : Int} (hm : mayB mn me mx = true) (xs : List UInt8) : ∀ (i : Nat), i ≤ (cutL mn me mx xs).length → ∃ k : Nat, k ≤ xs.length ∧ (cutL mn me mx xs).drop i = cutL mn me mx (xs.drop k) ∧ ((cutL mn me mx xs).take i).sum = (k : Int)
  | 0, _ => ⟨0, by omega, by simp, by simp⟩
  | i + 1, h => by
    obtain ⟨k, hk, hd, hs⟩ := cut_at hm xs i (by omega)
    have hlt : i < (cutL mn me mx xs).length := by omega
    have hne : 0 < (xs.drop k).length := by
      rcases Nat.eq_zero_or_pos (xs.drop k).length with h0 | h0
      · rw [List.eq_nil_of_length_eq_zero h0, cutL_nil] at hd
        have := congrArg List.length hd
        rw [List.length_drop] at this
        simp at this
        omega
      · exact h0
    have hb := firstP_bounds hm (xs.drop k) hne
    have hd0 := hd
    rw [cutL_cons hm (xs.drop k) hne, List.drop_eq_getElem_cons hlt] at hd
    obtain ⟨e1, e2⟩ := List.cons.inj hd
    rw [List.length_drop] at hb
    refine ⟨k + (firstP mn me mx (xs.drop k)).1, by omega, by rw [e2, List.drop_drop], ?_⟩
    rw [List.take_succ_eq_append_getElem hlt, List.sum_append, hs, e1]
    simp
theorem cut_first {mn me mx : Int} (hm : mayB mn me mx = true) (xs : List UInt8) (i : Nat) (h : i < (cutL mn me mx xs).length) : ∃ k : Nat, k < xs.length ∧ ((cutL mn me mx xs).take i).sum = (k : Int) ∧ (cutL mn me mx xs)[i] = ((firstP mn me mx (xs.drop k)).1 : Int) ∧ (i + 1 < (cutL mn me mx xs).length → k + (firstP mn me mx (xs.drop k)).1 < xs.length) := by
  obtain ⟨k, hk, hd, hs⟩ := cut_at hm xs i (by omega)
  have hne : 0 < (xs.drop k).length := by
    rcases Nat.eq_zero_or_pos (xs.drop k).length with h0 | h0
    · rw [List.eq_nil_of_length_eq_zero h0, cutL_nil] at hd
      have := congrArg List.length hd
      rw [List.length_drop] at this
      simp at this
      omega
    · exact h0
  rw [cutL_cons hm (xs.drop k) hne, List.drop_eq_getElem_cons h] at hd
  obtain ⟨e1, e2⟩ := List.cons.inj hd
  have hb := firstP_bounds hm (xs.drop k) hne
  rw [List.length_drop] at hne hb
  refine ⟨k, by omega, hs, e1, fun h2 => ?_⟩
  rcases Nat.lt_or_ge (k + (firstP mn me mx (xs.drop k)).1) xs.length with g | g
  · exact g
  · rw [List.drop_drop, List.drop_of_length_le g, cutL_nil] at e2
    have := congrArg List.length e2
    rw [List.length_drop] at this
    simp at this
    omega
theorem suf_cut {mn me mx : Int} (hm : mayB mn me mx = true) (xs : List UInt8) (i : Nat) (h : i ≤ (cutL mn me mx xs).length) : ∃ k : Nat, k ≤ xs.length ∧ (cutL mn me mx xs).drop i = cutL mn me mx (xs.drop k) ∧ suf (cutL mn me mx xs) i = (xs.length : Int) - k := by
  obtain ⟨k, hk, hd, -⟩ := cut_at hm xs i h
  refine ⟨k, hk, hd, ?_⟩
  unfold suf
  rw [hd, (cut_pos hm _ (xs.drop k) (Nat.le_refl _)).2, List.length_drop]
  omega
theorem cut_alike {mn me mx : Int} (hm : mayB mn me mx = true) (X Y T : List UInt8) : Alike (cutL mn me mx (X ++ T)) (cutL mn me mx (Y ++ T)) (T.length : Int) := by
  intro i j hi hj he hn
  obtain ⟨k, hk, hd, hs⟩ := suf_cut hm (X ++ T) i hi
  obtain ⟨k', hk', hd', hs'⟩ := suf_cut hm (Y ++ T) j hj
  rw [List.length_append] at hk hs hk' hs'
  rw [hd, hd', List.drop_append, List.drop_append, List.drop_of_length_le (show X.length ≤ k by omega), List.drop_of_length_le (show Y.length ≤ k' by omega)]
  congr 3
  omega
theorem firstG_lost (mn me mx : Int) : ∀ (xs : List UInt8) (h n : Nat), (firstG mn me mx h n xs).2 = false → (firstG mn me mx h n xs).1 = n + xs.length
  | [], h, n, _ => by rw [firstG]; simp
  | b :: r, h, n, e => by
    rw [firstG] at e ⊢
    split at e
    · cases e
    · rename_i hc
      rw [if_neg hc, firstG_lost mn me mx r _ _ e, List.length_cons]
      omega
theorem firstG_same (mn me mx : Int) : ∀ (xs ys : List UInt8) (h n m : Nat), firstG mn me mx h n xs = (m, true) → ys.take (m - n) = xs.take (m - n) → firstG mn me mx h n ys = (m, true)
  | [], ys, h, n, m, e, _ => by
    rw [firstG] at e
    have := congrArg Prod.snd e
    cases this
  | b :: r, ys, h, n, m, e, ht => by
    have hb := firstG_bounds mn me mx (b :: r) h n
    rw [e] at hb
    have hmn : n + 1 ≤ m := hb.2.2 (by simp)
    obtain ⟨q, hq⟩ : ∃ q, m - n = q + 1 := ⟨m - n - 1, by omega⟩
    rw [hq] at ht
    match ys, ht with
    | [], ht => simp at ht
    | y :: s, ht =>
      rw [List.take_succ_cons, List.take_succ_cons] at ht
      obtain ⟨rfl, ht'⟩ := List.cons.inj ht
      rw [firstG] at e ⊢
      split at e
      · rename_i hc
        rw [if_pos hc]; exact e
      · rename_i hc
        rw [if_neg hc]
        exact firstG_same mn me mx r s _ _ _ e (by rw [show m - (n + 1) = q by omega]; exact ht')
theorem firstP_same {mn me mx : Int} (hm : mayB mn me mx = true) (xs ys : List UInt8) (h1 : (firstP mn me mx xs).1 < xs.length) (ht : ys.take (firstP mn me mx xs).1 = xs.take (firstP mn me mx xs).1) : (firstP mn me mx ys).1 = (firstP mn me mx xs).1 := by
  unfold firstP at h1 ht ⊢
  rw [if_pos hm] at h1 ht ⊢
  rw [if_pos hm]
  have hf : (firstG mn me mx 0 0 xs).2 = true := by
    cases hc : (firstG mn me mx 0 0 xs).2 with
    | true => rfl
    | false => rw [firstG_lost mn me mx xs 0 0 hc] at h1; omega
  rw [firstG_same mn me mx xs ys 0 0 (firstG mn me mx 0 0 xs).1 (by rw [← hf]) (by simpa using ht)]
/-- As long as two lists begin alike, they are cut alike. -/
theorem cut_ahead {mn me mx : Int} (hm : mayB mn me mx = true) (A B : List UInt8) (p i : Nat) (hp : A.take p = B.take p) (h1 : i + 1 < (cutL mn me mx A).length) (h2 : i + 1 < (cutL mn me mx B).length)
    (ht : (cutL mn me mx A).take i = (cutL mn me mx B).take i) (hs : ((cutL mn me mx A).take i).sum + (cutL mn me mx A)[i] ≤ (p : Int) ∨ ((cutL mn me mx A).take i).sum + (cutL mn me mx B)[i] ≤ (p : Int)) :
    (cutL mn me mx A)[i] = (cutL mn me mx B)[i] := by
  obtain ⟨k, hk, s1, e1, f1⟩ := cut_first hm A i (by omega)
  obtain ⟨k', hk', s2, e2, f2⟩ := cut_first hm B i (by omega)
  obtain rfl : k = k' := by rw [ht] at s1; omega
  have g1 := f1 h1
  have g2 := f2 h2
  have key : ∀ (q : Nat), k + q ≤ p → (A.drop k).take q = (B.drop k).take q := fun q hq => by
    have := congrArg (fun l => (l.drop k).take q) hp
    simp only [List.drop_take, List.take_take] at this
    rwa [Nat.min_eq_left (by omega)] at this
  rw [s1, e1, e2] at hs
  rw [e1, e2]
  rcases hs with hs | hs
  · rw [firstP_same hm (A.drop k) (B.drop k) (by rw [List.length_drop]; omega) (key _ (by omega)).symm]
  · rw [firstP_same hm (B.drop k) (A.drop k) (by rw [List.length_drop]; omega) (key _ (by omega))]
end Go.Proofs.YtamajnaeladehaaDoor
