/- What was taken off lays to what stood there. -/
import Derived.Test.YtjcfndiceinkjaaDoorYqm
import Derived.Test.YtjcfndiceinkjaaDoorYem
namespace Go.Proofs.YtjcfndiceinkjaaDoor
set_option linter.unusedVariables false
set_option linter.unusedSimpArgs false
open Go.RowKit

theorem firstGo_inv : ∀ (xs : List UInt8) (acc i v n : Nat), firstGo acc i xs = (v, n, 0) → i ≤ 9 →
    ∃ m, v = acc + m * 128 ^ i ∧ i < n ∧ n ≤ i + xs.length ∧ xs.take (n - i) = varGo (9 - i) m ∧ (0 < i → 0 < m)
  | [], acc, i, v, n, h, _ => by simp [firstGo] at h
  | c :: r, acc, i, v, n, h, hi => by
    have hcl := c.toNat_lt
    rw [firstGo] at h
    split at h
    · simp at h
    · rename_i h9
      split at h
      · rename_i hlt
        split at h
        · simp at h
        · rename_i h0
          simp only [Prod.mk.injEq] at h
          obtain ⟨rfl, rfl, _⟩ := h
          refine ⟨c.toNat, by rw [Nat.mod_eq_of_lt hlt], by omega, by rw [List.length_cons]; omega, ?_, by omega⟩
          have e : i + 1 - i = 1 := by omega
          rw [e]
          have hc : UInt8.ofNat c.toNat = c := by simp
          cases h8 : 9 - i with
          | zero => simp [varGo]
          | succ k => rw [varGo, if_pos hlt]; simp
      · rename_i hge
        have hi9 : i ≠ 9 := by omega
        obtain ⟨m, e1, e2, e3, e4, e5⟩ := firstGo_inv r _ (i + 1) v n h (by omega)
        have hm := e5 (by omega)
        refine ⟨c.toNat % 128 + 128 * m, ?_, by omega, by simp; omega, ?_, by omega⟩
        · rw [e1, Nat.pow_succ, Nat.add_mul, Nat.mul_comm 128 m, Nat.mul_assoc, Nat.mul_comm (128 ^ i) 128]
          omega
        · have en : n - i = (n - (i + 1)) + 1 := by omega
          have e9 : 9 - i = (9 - (i + 1)) + 1 := by omega
          rw [en, List.take_succ_cons, e4, e9, varGo, if_neg (by omega)]
          have d1 : (c.toNat % 128 + 128 * m) % 128 + 128 = c.toNat := by omega
          have d2 : (c.toNat % 128 + 128 * m) / 128 = m := by omega
          rw [d1, d2]
          simp
theorem first_inv (xs : List UInt8) (v n : Nat) (h : firstGo 0 0 xs = (v, n, 0)) : n ≤ xs.length ∧ xs.take n = varB v := by
  obtain ⟨m, e1, _, e3, e4, _⟩ := firstGo_inv xs 0 0 v n h (by omega)
  have : v = m := by rw [e1]; simp
  subst this
  exact ⟨by omega, e4⟩

/-- A number that was taken: its bytes stood there. -/
theorem mNum_inv (bs : List UInt8) (s : S) (most : Nat) (hs : s.code = 0) (hp : s.p ≤ bs.length) :
    ((mNum bs s most).2.2.code ≠ 0 ∧ (mNum bs s most).1 = 0 ∧ (mNum bs s most).2.1 = false) ∨
    ((mNum bs s most).2.2.code = 0 ∧ (mNum bs s most).2.1 = true ∧ (mNum bs s most).2.2.p ≤ bs.length ∧ bs.take (mNum bs s most).2.2.p = bs.take s.p ++ varB (mNum bs s most).1 ∧ (mNum bs s most).1 < 18446744073709551616) := by
  unfold mNum
  rw [if_neg (by omega)]
  split
  · rename_i h; exact .inl ⟨h, rfl, rfl⟩
  · rename_i h
    split
    · exact .inl ⟨by simp, rfl, rfl⟩
    · right
      have hz : (firstGo 0 0 (bs.drop s.p)).2.2 = 0 := by omega
      obtain ⟨h1, h2⟩ := first_inv (bs.drop s.p) (firstGo 0 0 (bs.drop s.p)).1 (firstGo 0 0 (bs.drop s.p)).2.1 (Prod.ext rfl (Prod.ext rfl hz))
      have h1 : (firstGo 0 0 (bs.drop s.p)).2.1 ≤ bs.length - s.p := by rw [← List.length_drop]; exact h1
      have h1' : s.p + (firstGo 0 0 (bs.drop s.p)).2.1 ≤ bs.length := by omega
      refine ⟨hs, rfl, h1', ?_, firstGo_lt _ 0 0 (by simp) (by omega)⟩
      simp only []
      rw [List.take_add, h2]
theorem mNext_inv (bs : List UInt8) (s : S) (a k : Nat) (hs : s.code = 0) :
    ((mNext bs s a k).2.code ≠ 0 ∧ (mNext bs s a k).1 = none) ∨
    ((mNext bs s a k).2.code = 0 ∧ ∃ ys, (mNext bs s a k).1 = some ys ∧ ys.length = k ∧ (mNext bs s a k).2.p ≤ bs.length ∧ bs.take (mNext bs s a k).2.p = bs.take s.p ++ ys) := by
  unfold mNext
  rw [if_neg (by omega)]
  split
  · exact .inl ⟨by simp, rfl⟩
  · right
    refine ⟨hs, (bs.drop s.p).take k, rfl, by simp; omega, by simp only []; omega, ?_⟩
    simp only []
    rw [List.take_add]

theorem fixB_le : ∀ xs : List UInt8, fixB xs.length (leNat xs) = xs
  | [] => rfl
  | c :: r => by
    have hc := c.toNat_lt
    rw [List.length_cons, fixB, leNat]
    have e1 : UInt8.ofNat (c.toNat + 256 * leNat r) = c := by
      apply UInt8.toNat_inj.1
      simp
    have e2 : (c.toNat + 256 * leNat r) / 256 = leNat r := by omega
    rw [e1, e2, fixB_le r]

/-- From code 0 to code 0: what stood between is L of what was taken. -/
def Good {α : Type} (bs : List UInt8) (T : S → α × S) (L : α → List UInt8) : Prop := ∀ s, s.code = 0 → s.p ≤ bs.length → (T s).2.code = 0 → (T s).2.p ≤ bs.length ∧ bs.take (T s).2.p = bs.take s.p ++ L (T s).1
def Stp {α : Type} (T : S → α × S) : Prop := ∀ s, s.code ≠ 0 → (T s).2.code ≠ 0
theorem stp_next (bs : List UInt8) (a : S → Nat) (k : Nat) : Stp (fun s => mNext bs s (a s) k) := fun s h => by show (mNext bs s (a s) k).2.code ≠ 0; rw [mNext, if_pos h]; exact h
theorem stp_num (bs : List UInt8) (m : Nat) : Stp (fun s => ((mNum bs s m).1, (mNum bs s m).2.2)) := fun s h => by show (mNum bs s m).2.2.code ≠ 0; rw [mNum, if_pos h]; exact h
theorem stp_key (bs : List UInt8) : Stp (mKeyT bs) := fun s h => stp_next bs mPlace 32 s h
theorem stp_byte (bs : List UInt8) : Stp (mByte bs) := fun s h => stp_next bs mPlace 1 s h
theorem stp_i64 (bs : List UInt8) : Stp (mI64 bs) := fun s h => stp_next bs mPlace 8 s h
theorem stp_part (bs : List UInt8) : Stp (mPart bs) := fun s h => stp_num bs 9223372036854775807 _ (stp_key bs s h)
theorem stp_rtext (bs : List UInt8) (m : Nat) : Stp (fun s => rText bs s m) := fun s h => by show (rText bs s m).2.code ≠ 0; rw [rText, if_pos h]; exact h
theorem stp_mtext (bs : List UInt8) (m : Nat) : Stp (fun s => mText bs s m) := fun s h => by
  show (mText bs s m).2.code ≠ 0
  rw [mText, show mNum bs s m = (0, false, s) by rw [mNum, if_pos h]]
  exact h
theorem stp_ritem (bs : List UInt8) : Stp (rItem bs) := fun s h => stp_key bs _ (stp_num bs 18446744073709551615 _ (stp_byte bs _ (stp_rtext bs 64 s h)))
theorem stp_mitem (bs : List UInt8) : Stp (mItem bs) := fun s h => stp_key bs _ (stp_num bs 18446744073709551615 _ (stp_byte bs _ (stp_mtext bs 64 s h)))
theorem stp_each {α : Type} (T : S → α × S) (n : Nat) (s : S) (acc : List α) (h : s.code ≠ 0) : (eachT T n s acc).2.code ≠ 0 := by rw [eachT_stop _ _ _ _ h]; exact h
theorem good_key (bs : List UInt8) : Good bs (mKeyT bs) id := fun s h hp hc => by
  have hc' : (mNext bs s (mPlace s) 32).2.code = 0 := hc
  rcases mNext_inv bs s (mPlace s) 32 h with ⟨h1, _⟩ | ⟨_, ys, h2, _, h4, h5⟩
  · exact absurd hc' h1
  · refine ⟨h4, ?_⟩
    show bs.take (mNext bs s (mPlace s) 32).2.p = bs.take s.p ++ keyBytes (mNext bs s (mPlace s) 32).1
    rw [h5, h2]
    rfl
theorem good_byte (bs : List UInt8) : Good bs (mByte bs) (fixB 1) := fun s h hp hc => by
  have hc' : (mNext bs s (mPlace s) 1).2.code = 0 := hc
  rcases mNext_inv bs s (mPlace s) 1 h with ⟨h1, _⟩ | ⟨_, ys, h2, h3, h4, h5⟩
  · exact absurd hc' h1
  · refine ⟨h4, ?_⟩
    show bs.take (mNext bs s (mPlace s) 1).2.p = bs.take s.p ++ fixB 1 (leNat ((mNext bs s (mPlace s) 1).1.getD []))
    rw [h5, h2]
    have := fixB_le ys
    rw [h3] at this
    rw [Option.getD_some, this]
theorem arith_i (q : Nat) (h : q < 18446744073709551616) : (IntKind.u64.wrap (IntKind.i64.wrap (q : Int))).toNat = q := by
  simp only [IntKind.wrap_i64, IntKind.wrap_u64]
  omega
theorem good_i64 (bs : List UInt8) : Good bs (mI64 bs) (fun t => fixB 8 (IntKind.u64.wrap t).toNat) := fun s h hp hc => by
  have hc' : (mNext bs s (mPlace s) 8).2.code = 0 := hc
  rcases mNext_inv bs s (mPlace s) 8 h with ⟨h1, _⟩ | ⟨_, ys, h2, h3, h4, h5⟩
  · exact absurd hc' h1
  · refine ⟨h4, ?_⟩
    show bs.take (mNext bs s (mPlace s) 8).2.p = bs.take s.p ++ fixB 8 (IntKind.u64.wrap (IntKind.i64.wrap (leNat ((mNext bs s (mPlace s) 8).1.getD []) : Nat))).toNat
    rw [h5, h2, Option.getD_some]
    have e := fixB_le ys
    rw [h3] at e
    have hlt : leNat ys < 18446744073709551616 := leNat_lt ys 8 (by omega)
    rw [arith_i _ hlt, e]
theorem good_num (bs : List UInt8) (m : Nat) : Good bs (fun s => ((mNum bs s m).1, (mNum bs s m).2.2)) varB := fun s h hp hc => by
  rcases mNum_inv bs s m h hp with ⟨h1, _⟩ | ⟨_, _, h3, h4, _⟩
  · exact absurd hc h1
  · exact ⟨h3, h4⟩
theorem good_part (bs : List UInt8) : Good bs (mPart bs) partB := fun s h hp hc => by
  have k0 : (mKeyT bs s).2.code = 0 := Classical.byContradiction fun e => stp_num bs 9223372036854775807 _ e hc
  obtain ⟨p1, t1⟩ := good_key bs s h hp k0
  obtain ⟨p2, t2⟩ := good_num bs 9223372036854775807 _ k0 p1 hc
  refine ⟨p2, t2.trans ?_⟩
  rw [t1, List.append_assoc]
  rfl
theorem good_rtext (bs : List UInt8) (m : Nat) : Good bs (fun s => rText bs s m) (fun t => varB t.length ++ t) := fun s h hp hc => by
  have hc' : (rText bs s m).2.code = 0 := hc
  show (rText bs s m).2.p ≤ bs.length ∧ bs.take (rText bs s m).2.p = bs.take s.p ++ (varB (rText bs s m).1.length ++ (rText bs s m).1)
  rcases mNum_inv bs s m h hp with ⟨h1, _⟩ | ⟨h1, _, h3, h4, _⟩
  · unfold rText at hc'
    rw [if_neg (by omega), if_pos h1] at hc'
    exact absurd hc' h1
  · rcases mNext_inv bs (mNum bs s m).2.2 (mPlace (mNum bs s m).2.2) (mNum bs s m).1 h1 with ⟨g1, _⟩ | ⟨g1, ys, g2, g3, g4, g5⟩
    · unfold rText at hc'
      rw [if_neg (by omega), if_neg (by omega), if_pos g1] at hc'
      exact absurd hc' g1
    · have e : rText bs s m = (ys, (mNext bs (mNum bs s m).2.2 (mPlace (mNum bs s m).2.2) (mNum bs s m).1).2) := by
        unfold rText
        rw [if_neg (by omega), if_neg (by omega), if_neg (by omega), g2]
        rfl
      rw [e]
      refine ⟨g4, ?_⟩
      show bs.take (mNext bs (mNum bs s m).2.2 (mPlace (mNum bs s m).2.2) (mNum bs s m).1).2.p = bs.take s.p ++ (varB ys.length ++ ys)
      rw [g5, h4, g3, List.append_assoc]
/-- The two Texts: code 0 of one is code 0 of the other, and then they are equal. -/
def Eqv {α : Type} (T T' : S → α × S) : Prop := ∀ s, ((T s).2.code = 0 ↔ (T' s).2.code = 0) ∧ ((T s).2.code = 0 → T s = T' s)
theorem next_any (bs : List UInt8) (s : S) (a b k : Nat) : ((mNext bs s a k).2.code = 0 ↔ (mNext bs s b k).2.code = 0) ∧ ((mNext bs s a k).2.code = 0 → mNext bs s a k = mNext bs s b k) := by
  unfold mNext
  split
  · simp
  · split
    · simp
    · simp
theorem eqv_text (bs : List UInt8) (m : Nat) : Eqv (fun s => rText bs s m) (fun s => mText bs s m) := fun s => by
  show ((rText bs s m).2.code = 0 ↔ (mText bs s m).2.code = 0) ∧ ((rText bs s m).2.code = 0 → rText bs s m = mText bs s m)
  by_cases h : s.code = 0
  · by_cases hn : (mNum bs s m).2.1 = true
    · have h1 : (mNum bs s m).2.2.code = 0 := by
        unfold mNum at hn ⊢
        rw [if_neg (by omega)] at hn ⊢
        split at hn
        · exact absurd hn (by simp)
        · split at hn
          · exact absurd hn (by simp)
          · rename_i a b
            rw [if_neg a, if_neg b]
            exact h
      obtain ⟨n1, n2⟩ := next_any bs (mNum bs s m).2.2 (mPlace (mNum bs s m).2.2) (mPlace s) (mNum bs s m).1
      have em : mText bs s m = ((mNext bs (mNum bs s m).2.2 (mPlace s) (mNum bs s m).1).1.getD [], (mNext bs (mNum bs s m).2.2 (mPlace s) (mNum bs s m).1).2) := by unfold mText; rw [if_pos hn]
      by_cases hx : (mNext bs (mNum bs s m).2.2 (mPlace (mNum bs s m).2.2) (mNum bs s m).1).2.code = 0
      · have er : rText bs s m = ((mNext bs (mNum bs s m).2.2 (mPlace (mNum bs s m).2.2) (mNum bs s m).1).1.getD [], (mNext bs (mNum bs s m).2.2 (mPlace (mNum bs s m).2.2) (mNum bs s m).1).2) := by
          unfold rText
          rw [if_neg (by omega), if_neg (by omega), if_neg (by omega)]
        rw [er, em, n2 hx]
        exact ⟨Iff.rfl, fun _ => rfl⟩
      · have er : (rText bs s m).2.code ≠ 0 := by
          unfold rText
          rw [if_neg (by omega), if_neg (by omega), if_pos hx]
          exact hx
        have hy : (mText bs s m).2.code ≠ 0 := by rw [em]; exact fun e => hx (n1.2 e)
        exact ⟨⟨fun e => absurd e er, fun e => absurd e hy⟩, fun e => absurd e er⟩
    · have h1 : (mNum bs s m).2.2.code ≠ 0 := by
        unfold mNum at hn ⊢
        rw [if_neg (by omega)] at hn ⊢
        split
        · assumption
        · split
          · simp
          · rename_i a b
            rw [if_neg a, if_neg b] at hn
            exact absurd rfl hn
      unfold rText mText
      rw [if_neg (by omega), if_pos h1, if_neg hn]
      simp [h1]
  · have a := stp_rtext bs m s h
    have b := stp_mtext bs m s h
    exact ⟨⟨fun e => absurd e a, fun e => absurd e b⟩, fun e => absurd e a⟩
end Go.Proofs.YtjcfndiceinkjaaDoor

/- Both Decodes tell the same. -/
namespace Go.Proofs.YtjcfndiceinkjaaDoor
set_option linter.unusedVariables false
set_option linter.unusedSimpArgs false
open Go.RowKit

theorem eqv_item (bs : List UInt8) : Eqv (rItem bs) (mItem bs) := fun s => by
  obtain ⟨t1, t2⟩ := eqv_text bs 64 s
  by_cases h : (rText bs s 64).2.code = 0
  · have e : rText bs s 64 = mText bs s 64 := t2 h
    unfold rItem mItem
    rw [e]
    exact ⟨Iff.rfl, fun _ => rfl⟩
  · have h' : (mText bs s 64).2.code ≠ 0 := fun e => h (t1.2 e)
    have a : (rItem bs s).2.code ≠ 0 := stp_key bs _ (stp_num bs 18446744073709551615 _ (stp_byte bs _ h))
    have b : (mItem bs s).2.code ≠ 0 := stp_key bs _ (stp_num bs 18446744073709551615 _ (stp_byte bs _ h'))
    exact ⟨⟨fun e => absurd e a, fun e => absurd e b⟩, fun e => absurd e a⟩
theorem eqv_refl {α : Type} (T : S → α × S) : Eqv T T := fun _ => ⟨Iff.rfl, fun _ => rfl⟩
theorem eqv_each {α : Type} (T T' : S → α × S) (hT : Eqv T T') : ∀ (n : Nat) (s : S) (acc : List α), ((eachT T n s acc).2.code = 0 ↔ (eachT T' n s acc).2.code = 0) ∧ ((eachT T n s acc).2.code = 0 → eachT T n s acc = eachT T' n s acc)
  | 0, s, acc => ⟨Iff.rfl, fun _ => rfl⟩
  | n + 1, s, acc => by
    by_cases h : s.code = 0
    · obtain ⟨t1, t2⟩ := hT s
      rw [show eachT T (n + 1) s acc = eachT T n (T s).2 (acc ++ [(T s).1]) by rw [eachT, if_neg (by omega)], show eachT T' (n + 1) s acc = eachT T' n (T' s).2 (acc ++ [(T' s).1]) by rw [eachT, if_neg (by omega)]]
      by_cases hc : (T s).2.code = 0
      · rw [t2 hc]
        exact eqv_each T T' hT n _ _
      · have hc' : (T' s).2.code ≠ 0 := fun e => hc (t1.2 e)
        have a := stp_each T n _ (acc ++ [(T s).1]) hc
        have b := stp_each T' n _ (acc ++ [(T' s).1]) hc'
        exact ⟨⟨fun e => absurd e a, fun e => absurd e b⟩, fun e => absurd e a⟩
    · rw [eachT_stop _ _ _ _ h, eachT_stop _ _ _ _ h]
      exact ⟨Iff.rfl, fun _ => rfl⟩
theorem mEach_eq {α : Type} (T T' : S → α × S) (hT : Eqv T T') (bs : List UInt8) (s : S) (m : Nat) : ((rEach T bs s m).2.code = 0 ↔ (mEachT T' bs s m).2.code = 0) ∧ ((rEach T bs s m).2.code = 0 → rEach T bs s m = mEachT T' bs s m) := by
  obtain ⟨a, b⟩ := eqv_each T T' hT (mNum bs s m).1 (mNum bs s m).2.2 []
  unfold rEach mEachT
  by_cases h : (eachT T' (mNum bs s m).1 (mNum bs s m).2.2 []).2.code = 0
  · rw [if_neg (by omega)]
    exact ⟨a, b⟩
  · rw [if_pos h]
    exact ⟨⟨fun e => absurd (a.1 e) h, fun e => absurd e h⟩, fun e => absurd (a.1 e) h⟩
theorem good_eachT {α : Type} (bs : List UInt8) (T : S → α × S) (L : α → List UInt8) (hT : Good bs T L) : ∀ (n : Nat) (s : S) (acc : List α), s.code = 0 → s.p ≤ bs.length → (eachT T n s acc).2.code = 0 →
    ∃ ys, (eachT T n s acc).1 = acc ++ ys ∧ ys.length = n ∧ (eachT T n s acc).2.p ≤ bs.length ∧ bs.take (eachT T n s acc).2.p = bs.take s.p ++ (ys.map L).flatten
  | 0, s, acc, h, hp, _ => ⟨[], by simp [eachT], rfl, hp, by simp [eachT]⟩
  | n + 1, s, acc, h, hp, hc => by
    rw [eachT, if_neg (by omega)] at hc ⊢
    have h1 : (T s).2.code = 0 := Classical.byContradiction fun e => stp_each T n _ _ e hc
    obtain ⟨p1, t1⟩ := hT s h hp h1
    obtain ⟨ys, a1, a2, a3, a4⟩ := good_eachT bs T L hT n _ _ h1 p1 hc
    exact ⟨(T s).1 :: ys, by rw [a1]; simp, by simp [a2], a3, by rw [a4, t1]; simp⟩
theorem stp_reach {α : Type} (T : S → α × S) (bs : List UInt8) (m : Nat) : Stp (fun s => rEach T bs s m) := fun s h => stp_each T _ _ _ (stp_num bs m s h)
theorem good_reach {α : Type} (bs : List UInt8) (T : S → α × S) (L : α → List UInt8) (hT : Good bs T L) (m : Nat) : Good bs (fun s => rEach T bs s m) (fun ys => varB ys.length ++ (ys.map L).flatten) := fun s h hp hc => by
  have n0 : (mNum bs s m).2.2.code = 0 := Classical.byContradiction fun e => stp_each T _ _ _ e hc
  obtain ⟨p1, t1⟩ := good_num bs m s h hp n0
  obtain ⟨ys, a1, a2, a3, a4⟩ := good_eachT bs T L hT _ _ [] n0 p1 hc
  refine ⟨a3, ?_⟩
  show bs.take (rEach T bs s m).2.p = bs.take s.p ++ (varB (rEach T bs s m).1.length ++ ((rEach T bs s m).1.map L).flatten)
  have e1 : (rEach T bs s m).1 = ys := by unfold rEach; rw [a1]; rfl
  have e2 : bs.take (rEach T bs s m).2.p = bs.take (mNum bs s m).2.2.p ++ (ys.map L).flatten := a4
  have t1' : bs.take (mNum bs s m).2.2.p = bs.take s.p ++ varB (mNum bs s m).1 := t1
  rw [e1, e2, t1', a2, List.append_assoc]
theorem reach_len {α : Type} (bs : List UInt8) (T : S → α × S) (L : α → List UInt8) (hT : Good bs T L) (m : Nat) (s : S) (h : s.code = 0) (hp : s.p ≤ bs.length) (hc : (rEach T bs s m).2.code = 0) : (rEach T bs s m).1.length = (mNum bs s m).1 := by
  have n0 : (mNum bs s m).2.2.code = 0 := Classical.byContradiction fun e => stp_each T _ _ _ e hc
  obtain ⟨p1, _⟩ := good_num bs m s h hp n0
  obtain ⟨ys, a1, a2, _, _⟩ := good_eachT bs T L hT _ _ [] n0 p1 hc
  unfold rEach
  rw [a1]
  simpa using a2
theorem good_ritem (bs : List UInt8) : Good bs (rItem bs) itemB := fun s h hp hc => by
  have q0 : (mNum bs (mByte bs (rText bs s 64).2).2 18446744073709551615).2.2.code = 0 := Classical.byContradiction fun e => stp_key bs _ e hc
  have m0 : (mByte bs (rText bs s 64).2).2.code = 0 := Classical.byContradiction fun e => stp_num bs 18446744073709551615 _ e q0
  have x0 : (rText bs s 64).2.code = 0 := Classical.byContradiction fun e => stp_byte bs _ e m0
  obtain ⟨p1, t1⟩ := good_rtext bs 64 s h hp x0
  obtain ⟨p2, t2⟩ := good_byte bs _ x0 p1 m0
  obtain ⟨p3, t3⟩ := good_num bs 18446744073709551615 _ m0 p2 q0
  obtain ⟨p4, t4⟩ := good_key bs _ q0 p3 hc
  refine ⟨p4, t4.trans ?_⟩
  have t3' : bs.take (mNum bs (mByte bs (rText bs s 64).2).2 18446744073709551615).2.2.p = bs.take (mByte bs (rText bs s 64).2).2.p ++ varB (mNum bs (mByte bs (rText bs s 64).2).2 18446744073709551615).1 := t3
  have t1' : bs.take (rText bs s 64).2.p = bs.take s.p ++ (varB (rText bs s 64).1.length ++ (rText bs s 64).1) := t1
  rw [t3', t2, t1']
  show _ = bs.take s.p ++ (varB (rText bs s 64).1.length ++ (rText bs s 64).1 ++ fixB 1 (mByte bs (rText bs s 64).2).1 ++ varB (mNum bs (mByte bs (rText bs s 64).2).2 18446744073709551615).1 ++ (mKeyT bs (mNum bs (mByte bs (rText bs s 64).2).2 18446744073709551615).2.2).1)
  simp only [List.append_assoc, id]
theorem num_127 (bs : List UInt8) (s : S) : mNum bs s 128 = mNum bs s 127 ∨ ((mNum bs s 127).2.2.code ≠ 0 ∧ (mNum bs s 128).1 = 128) := by
  unfold mNum
  split
  · exact .inl rfl
  · split
    · exact .inl rfl
    · by_cases h1 : 128 < (firstGo 0 0 (bs.drop s.p)).1
      · rw [if_pos h1, if_pos (by omega)]
        exact .inl rfl
      · by_cases h2 : 127 < (firstGo 0 0 (bs.drop s.p)).1
        · right
          rw [if_neg h1, if_pos h2]
          exact ⟨by simp, by show (firstGo 0 0 (bs.drop s.p)).1 = 128; omega⟩
        · rw [if_neg h1, if_neg h2]
          exact .inl rfl
end Go.Proofs.YtjcfndiceinkjaaDoor

/- Both Decodes tell the same: each kind. -/
namespace Go.Proofs.YtjcfndiceinkjaaDoor
set_option linter.unusedVariables false
set_option linter.unusedSimpArgs false
open Go.RowKit

theorem stp_blob (bs : List UInt8) : Stp (mBlob bs) := fun s h => by show (mNext bs s (mPlace s) (mLeft bs s)).2.code ≠ 0; rw [mNext, if_pos h]; exact h
theorem stp_rlist (bs : List UInt8) : Stp (rList bs) := fun s h => stp_reach (mPart bs) bs 128 s h
theorem stp_rtree (bs : List UInt8) : Stp (rTree bs) := fun s h => stp_reach (rItem bs) bs 128 s h
theorem stp_rsnap (bs : List UInt8) : Stp (rSnap bs) := fun s h => stp_rtext bs 1024 _ (stp_i64 bs _ (stp_reach (mKeyT bs) bs 128 _ (stp_key bs s h)))
theorem good_blob (bs : List UInt8) : Good bs (mBlob bs) (fun o => o.data) := fun s h hp hc => by
  have hc' : (mNext bs s (mPlace s) (mLeft bs s)).2.code = 0 := hc
  rcases mNext_inv bs s (mPlace s) (mLeft bs s) h with ⟨h1, _⟩ | ⟨_, ys, h2, _, h4, h5⟩
  · exact absurd hc' h1
  · refine ⟨h4, ?_⟩
    show bs.take (mNext bs s (mPlace s) (mLeft bs s)).2.p = bs.take s.p ++ (mNext bs s (mPlace s) (mLeft bs s)).1.getD []
    rw [h5, h2]
    rfl
theorem good_rlist (bs : List UInt8) : Good bs (rList bs) (fun o => varB o.parts.length ++ (o.parts.map partB).flatten) := fun s h hp hc => good_reach bs _ _ (good_part bs) 128 s h hp hc
theorem good_rtree (bs : List UInt8) : Good bs (rTree bs) (fun o => varB o.items.length ++ (o.items.map itemB).flatten) := fun s h hp hc => good_reach bs _ _ (good_ritem bs) 128 s h hp hc
theorem good_rsnap (bs : List UInt8) : Good bs (rSnap bs) (fun o => o.tree ++ varB o.parents.length ++ o.parents.flatten ++ fixB 8 (timeN o) ++ (varB o.note.length ++ o.note)) := fun s h hp hc => by
  have i0 : (mI64 bs (rEach (mKeyT bs) bs (mKeyT bs s).2 128).2).2.code = 0 := Classical.byContradiction fun e => stp_rtext bs 1024 _ e hc
  have e0 : (rEach (mKeyT bs) bs (mKeyT bs s).2 128).2.code = 0 := Classical.byContradiction fun e => stp_i64 bs _ e i0
  have k0 : (mKeyT bs s).2.code = 0 := Classical.byContradiction fun e => stp_reach (mKeyT bs) bs 128 _ e e0
  obtain ⟨p1, t1⟩ := good_key bs s h hp k0
  obtain ⟨p2, t2⟩ := good_reach bs _ _ (good_key bs) 128 _ k0 p1 e0
  obtain ⟨p3, t3⟩ := good_i64 bs _ e0 p2 i0
  obtain ⟨p4, t4⟩ := good_rtext bs 1024 _ i0 p3 hc
  refine ⟨p4, t4.trans ?_⟩
  rw [t3, t2, t1]
  show _ = bs.take s.p ++ ((mKeyT bs s).1 ++ varB (rEach (mKeyT bs) bs (mKeyT bs s).2 128).1.length ++ (rEach (mKeyT bs) bs (mKeyT bs s).2 128).1.flatten ++ fixB 8 (IntKind.u64.wrap (mI64 bs (rEach (mKeyT bs) bs (mKeyT bs s).2 128).2).1).toNat ++ (varB (rText bs (mI64 bs (rEach (mKeyT bs) bs (mKeyT bs s).2 128).2).2 1024).1.length ++ (rText bs (mI64 bs (rEach (mKeyT bs) bs (mKeyT bs s).2 128).2).2 1024).1))
  simp only [List.append_assoc, id, List.map_id_fun]
theorem lay_of {α : Type} (bs : List UInt8) (T : S → α × S) (L : α → List UInt8) (K : Nat) (hG : Good bs T L) (hS : Stp T) (hk : (mByte bs s0).1 = K) (hc : (T (mByte bs s0).2).2.code = 0) (hp : ¬ (T (mByte bs s0).2).2.p < bs.length) : fixB 1 K ++ L (T (mByte bs s0).2).1 = bs := by
  have b0 : (mByte bs s0).2.code = 0 := Classical.byContradiction fun e => hS _ e hc
  obtain ⟨p1, t1⟩ := good_byte bs s0 rfl (Nat.zero_le _) b0
  obtain ⟨p2, t2⟩ := hG _ b0 p1 hc
  rw [List.take_of_length_le (by omega), t1, hk] at t2
  rw [show List.take s0.p bs = [] from List.take_zero, List.nil_append] at t2
  exact t2.symm
def tailR (bs : List UInt8) (r : ObjR × S) : Int × ObjR := if r.2.code ≠ 0 ∨ r.2.p < bs.length then (49, zeroO) else if checkO r.1 ≠ 0 then (49, zeroO) else if encO r.1 ≠ bs then (49, zeroO) else (0, r.1)
def tailM (bs : List UInt8) (r : ObjR × S) : Int × ObjR := if r.2.code ≠ 0 ∨ r.2.p < bs.length then (49, zeroO) else if wrongO r.1 ≠ 0 then (49, zeroO) else (0, r.1)
theorem tail_same (bs : List UInt8) (r : ObjR × S) (hl : bs.length ≤ 8192) (hd : r.2.code = 0 → ¬ r.2.p < bs.length → r.1.data.length ≤ 8192 ∧ layO r.1 = bs) : tailR bs r = tailM bs r := by
  unfold tailR tailM
  by_cases h : r.2.code ≠ 0 ∨ r.2.p < bs.length
  · rw [if_pos h, if_pos h]
  · rw [if_neg h, if_neg h]
    obtain ⟨h1, h2⟩ := hd (by omega) (by omega)
    by_cases hw : wrongO r.1 = 0
    · have hc : checkO r.1 = 0 := by
        unfold checkO
        rw [if_neg (by simpa using hw), if_neg (by rw [h2]; omega)]
      rw [if_neg (by simpa using hc), if_neg (by unfold encO; rw [if_pos hc, h2]; simp), if_neg (by simpa using hw)]
    · have hc : checkO r.1 ≠ 0 := by
        unfold checkO
        rw [if_pos hw]
        exact hw
      rw [if_pos hc, if_pos hw]
theorem tail_eqv (bs : List UInt8) (r m : ObjR × S) (h : (r.2.code = 0 ↔ m.2.code = 0) ∧ (r.2.code = 0 → r = m)) : tailM bs r = tailM bs m := by
  by_cases hc : r.2.code = 0
  · rw [h.2 hc]
  · have hm : m.2.code ≠ 0 := fun e => hc (h.1.2 e)
    unfold tailM
    rw [if_pos (.inl hc), if_pos (.inl hm)]
theorem len_of {K : Nat} {xs ys bs : List UInt8} (h : fixB 1 K ++ (xs ++ ys) = bs) (hl : bs.length ≤ 8192) : xs.length ≤ 8192 := by
  have := congrArg List.length h
  simp at this
  omega
theorem same_1 (bs : List UInt8) (hl : bs.length ≤ 8192) (hk : (mByte bs s0).1 = 1) : tailR bs (mBlob bs (mByte bs s0).2) = tailM bs (mBlob bs (mByte bs s0).2) := by
  refine tail_same bs _ hl fun hc hp => ?_
  have h := lay_of bs (mBlob bs) _ 1 (good_blob bs) (stp_blob bs) hk hc hp
  exact ⟨len_of (ys := []) (by rw [List.append_nil]; exact h) hl, h⟩
theorem same_2 (bs : List UInt8) (hl : bs.length ≤ 8192) (hk : (mByte bs s0).1 = 2) : tailR bs (rList bs (mByte bs s0).2) = tailM bs (mList bs (mByte bs s0).2) := by
  rw [tail_same bs _ hl fun hc hp => ⟨by simp [rList, kindO, zeroO], lay_of bs (rList bs) _ 2 (good_rlist bs) (stp_rlist bs) hk hc hp⟩]
  obtain ⟨a, b⟩ := mEach_eq (mPart bs) (mPart bs) (eqv_refl _) bs (mByte bs s0).2 128
  exact tail_eqv bs _ _ ⟨a, fun e => by unfold rList mList; rw [b e]⟩
theorem same_3 (bs : List UInt8) (hl : bs.length ≤ 8192) (hk : (mByte bs s0).1 = 3) : tailR bs (rTree bs (mByte bs s0).2) = tailM bs (mTree bs (mByte bs s0).2) := by
  rw [tail_same bs _ hl fun hc hp => ⟨by simp [rTree, kindO, zeroO], lay_of bs (rTree bs) _ 3 (good_rtree bs) (stp_rtree bs) hk hc hp⟩]
  obtain ⟨a, b⟩ := mEach_eq (rItem bs) (mItem bs) (eqv_item bs) bs (mByte bs s0).2 128
  exact tail_eqv bs _ _ ⟨a, fun e => by unfold rTree mTree; rw [b e]⟩
def snapT (bs : List UInt8) (t : List UInt8) (E : List (List UInt8) × S) (X : S → List UInt8 × S) : ObjR × S := ({ kindO 4 with tree := t, parents := E.1, time := (mI64 bs E.2).1, note := (X (mI64 bs E.2).2).1 }, (X (mI64 bs E.2).2).2)
theorem rSnap_eq (bs : List UInt8) (s : S) : rSnap bs s = snapT bs (mKeyT bs s).1 (rEach (mKeyT bs) bs (mKeyT bs s).2 128) (fun s => rText bs s 1024) := rfl
theorem mSnap_eq (bs : List UInt8) (s : S) : mSnap bs s = snapT bs (mKeyT bs s).1 (mEachT (mKeyT bs) bs (mKeyT bs s).2 127) (fun s => mText bs s 1024) := rfl
theorem snap_eqv (bs t : List UInt8) (E : List (List UInt8) × S) (X X' : S → List UInt8 × S) (h : Eqv X X') : ((snapT bs t E X).2.code = 0 ↔ (snapT bs t E X').2.code = 0) ∧ ((snapT bs t E X).2.code = 0 → snapT bs t E X = snapT bs t E X') := by
  obtain ⟨c, d⟩ := h (mI64 bs E.2).2
  exact ⟨c, fun e => by unfold snapT; rw [d e]⟩
theorem msnap_stop (bs : List UInt8) (s : S) (h : (mEachT (mKeyT bs) bs (mKeyT bs s).2 127).2.code ≠ 0) : (mSnap bs s).2.code ≠ 0 := stp_mtext bs 1024 _ (stp_i64 bs _ h)
theorem rsnap_stop (bs : List UInt8) (s : S) (h : (rEach (mKeyT bs) bs (mKeyT bs s).2 128).2.code ≠ 0) : (rSnap bs s).2.code ≠ 0 := stp_rtext bs 1024 _ (stp_i64 bs _ h)
set_option maxHeartbeats 1000000 in
theorem same_4 (bs : List UInt8) (hl : bs.length ≤ 8192) (hk : (mByte bs s0).1 = 4) : tailR bs (rSnap bs (mByte bs s0).2) = tailM bs (mSnap bs (mByte bs s0).2) := by
  rw [tail_same bs _ hl fun hc hp => ⟨by simp [rSnap, kindO, zeroO], lay_of bs (rSnap bs) _ 4 (good_rsnap bs) (stp_rsnap bs) hk hc hp⟩]
  rcases num_127 bs (mKeyT bs (mByte bs s0).2).2 with hn | ⟨hn, hv⟩
  · obtain ⟨a, b⟩ := mEach_eq (mKeyT bs) (mKeyT bs) (eqv_refl _) bs (mKeyT bs (mByte bs s0).2).2 127
    have he : rEach (mKeyT bs) bs (mKeyT bs (mByte bs s0).2).2 128 = rEach (mKeyT bs) bs (mKeyT bs (mByte bs s0).2).2 127 := by unfold rEach; rw [hn]
    by_cases hx : (rEach (mKeyT bs) bs (mKeyT bs (mByte bs s0).2).2 127).2.code = 0
    · have e1 := b hx
      refine tail_eqv bs _ _ ?_
      rw [rSnap_eq, mSnap_eq, he.trans e1]
      exact snap_eqv bs _ _ _ _ (eqv_text bs 1024)
    · have hy : (mEachT (mKeyT bs) bs (mKeyT bs (mByte bs s0).2).2 127).2.code ≠ 0 := fun e => hx (a.2 e)
      have r1 : (rSnap bs (mByte bs s0).2).2.code ≠ 0 := rsnap_stop bs _ (by rw [he]; exact hx)
      have m1 : (mSnap bs (mByte bs s0).2).2.code ≠ 0 := msnap_stop bs _ hy
      exact tail_eqv bs _ _ ⟨⟨fun e => absurd e r1, fun e => absurd e m1⟩, fun e => absurd e r1⟩
  · have hy : (mEachT (mKeyT bs) bs (mKeyT bs (mByte bs s0).2).2 127).2.code ≠ 0 := by
      have h1 := stp_each (mKeyT bs) (mNum bs (mKeyT bs (mByte bs s0).2).2 127).1 _ [] hn
      unfold mEachT
      rw [if_pos h1]
      exact h1
    have m1 : (mSnap bs (mByte bs s0).2).2.code ≠ 0 := msnap_stop bs _ hy
    have em : tailM bs (mSnap bs (mByte bs s0).2) = (49, zeroO) := by unfold tailM; rw [if_pos (.inl m1)]
    rw [em]
    unfold tailM
    by_cases hc : (rSnap bs (mByte bs s0).2).2.code ≠ 0 ∨ (rSnap bs (mByte bs s0).2).2.p < bs.length
    · rw [if_pos hc]
    · have hc0 : (rSnap bs (mByte bs s0).2).2.code = 0 := Classical.byContradiction fun e => hc (.inl e)
      have e0 : (rEach (mKeyT bs) bs (mKeyT bs (mByte bs s0).2).2 128).2.code = 0 := Classical.byContradiction fun e => rsnap_stop bs _ e hc0
      have k0 : (mKeyT bs (mByte bs s0).2).2.code = 0 := Classical.byContradiction fun e => stp_reach (mKeyT bs) bs 128 _ e e0
      have b0 : (mByte bs s0).2.code = 0 := Classical.byContradiction fun e => stp_key bs _ e k0
      obtain ⟨p1, _⟩ := good_byte bs s0 rfl (Nat.zero_le _) b0
      obtain ⟨p2, _⟩ := good_key bs _ b0 p1 k0
      have hlen := reach_len bs _ _ (good_key bs) 128 _ k0 p2 e0
      have hw : wrongO (rSnap bs (mByte bs s0).2).1 = 42 := by
        have hpl : (rSnap bs (mByte bs s0).2).1.parents.length = 128 := hlen.trans hv
        have hkd : (rSnap bs (mByte bs s0).2).1.kind = 4 := rfl
        have hf : foreignO (rSnap bs (mByte bs s0).2).1 = false := by simp [foreignO, rSnap, kindO, zeroO]
        unfold wrongO wrongSnapO
        rw [hkd, hf, hpl, if_neg (by decide), if_neg (by decide), if_neg (by decide), if_neg (by decide), if_pos rfl, if_pos (by decide)]
      rw [if_neg hc, if_pos (by rw [hw]; decide)]
theorem dec_same (bs : List UInt8) : rdecO bs = decO bs := by
  have er : rdecO bs = if 8192 < bs.length then (48, zeroO) else tailR bs (rObj bs s0) := rfl
  have em : decO bs = if 8192 < bs.length then (48, zeroO) else if (mByte bs s0).1 < 1 ∨ 4 < (mByte bs s0).1 then (49, zeroO) else tailM bs (mObj bs (mByte bs s0).1 (mByte bs s0).2) := rfl
  rw [er, em]
  by_cases hl : 8192 < bs.length
  · rw [if_pos hl, if_pos hl]
  rw [if_neg hl, if_neg hl]
  by_cases hk : (mByte bs s0).1 < 1 ∨ 4 < (mByte bs s0).1
  · rw [if_pos hk]
    have eo : rObj bs s0 = (kindO (mByte bs s0).1, (mByte bs s0).2) := by unfold rObj; rw [if_neg (by omega), if_neg (by omega), if_neg (by omega), if_neg (by omega)]
    rw [eo]
    have hw : wrongO (kindO (mByte bs s0).1) = 40 := by unfold wrongO; rw [if_pos (by exact hk)]
    have hc : checkO (kindO (mByte bs s0).1) ≠ 0 := by unfold checkO; rw [hw, if_pos (by decide)]; decide
    unfold tailR
    split
    · rfl
    · first | rfl | rw [if_pos hc]
  rw [if_neg hk]
  unfold rObj mObj
  rcases (show (mByte bs s0).1 = 1 ∨ (mByte bs s0).1 = 2 ∨ (mByte bs s0).1 = 3 ∨ (mByte bs s0).1 = 4 by omega) with h | h | h | h
  · rw [if_pos h, if_pos h]; exact same_1 bs (by omega) h
  · rw [if_neg (by omega), if_pos h, if_neg (by omega), if_pos h]; exact same_2 bs (by omega) h
  · rw [if_neg (by omega), if_neg (by omega), if_pos h, if_neg (by omega), if_neg (by omega), if_pos h]; exact same_3 bs (by omega) h
  · rw [if_neg (by omega), if_neg (by omega), if_neg (by omega), if_pos h, if_neg (by omega), if_neg (by omega), if_neg (by omega)]; exact same_4 bs (by omega) h
end Go.Proofs.YtjcfndiceinkjaaDoor

/- ObjectDecodes, walked. -/
namespace Go.Proofs.YtjcfndiceinkjaaDoor
set_option linter.unusedVariables false
set_option linter.unusedSimpArgs false
set_option maxRecDepth 100000
open Go.RowKit

theorem decO_few (bs : List UInt8) : (decO bs).2.parts.length ≤ 128 ∧ (decO bs).2.items.length ≤ 128 ∧ (decO bs).2.parents.length ≤ 128 := by
  have hz : zeroO.parts.length ≤ 128 ∧ zeroO.items.length ≤ 128 ∧ zeroO.parents.length ≤ 128 := by decide
  unfold decO
  split
  · exact hz
  split
  · exact hz
  split
  · exact hz
  split
  · exact hz
  · exact mObj_few bs _ _
/-- What is kept from call to call. -/
structure DeS (w W : World) (bs : List UInt8) (b : Value) : Prop where
  old : Below w.heap.size w W
  sp : Blk W w.heap.size ((spL bs).map u8c).toArray 5
  b : RdA W b bs
theorem DeS.below {w W W' : World} {bs : List UInt8} {b : Value} (h : DeS w W bs b) (hb : Below W.heap.size W W') : DeS w W' bs b :=
  ⟨h.old.trans (hb.mono h.old.size), h.sp.below hb h.sp.lt, h.b.below hb⟩
theorem rd_of_cap {w : World} {a : Option Addr} {n c : Nat} {xs : List UInt8} (h : RdA w (.slice a n (c + 70)) xs) : Rd w (.slice a n (c + 70)) xs := by
  rcases h with h | ⟨a', e, _⟩
  · exact h
  · injection e with _ _ e3
    omega
set_option maxHeartbeats 8000000 in
theorem decodes_law (w : World) (hT8 : Tabs8 w) (b : Value) (bs : List UInt8) (hb : RdA w b bs) (hlen : bs.length ≤ 140737488353000) : Calls Tryd.prog 5 #[b] w (BoolC w true) := by
  have HB := hide hb
  have H8 := hide hT8
  have HL := hide hlen
  have hzo := zero_obj
  obtain ⟨ao, cb, rfl, _⟩ := hb.slice
  clear hb hT8 hlen
  go_enter Tryd.func5, Tryd.ntmps5
  go_wp2_with fail
  refine (spare_any w _ bs HB.out HL.out).mono ?_
  rintro e W1 ⟨rfl, hk1, hb1⟩
  have E1 : Hid (DeS w W1 bs (.slice ao bs.length cb)) := hide ⟨hb1, hk1, HB.out.below hb1⟩
  have SP : Hid (∀ W, DeS w W bs (.slice ao bs.length cb) → RdA W (.slice (some ⟨w.heap.size, 0, none⟩) bs.length (bs.length + 70)) bs) := hide (fun W h => RdA.spare h.sp HL.out)
  obtain ⟨n, hn⟩ : ∃ n, n = bs.length := ⟨_, rfl⟩
  have HN := hide hn
  rw [← hn] at E1 SP ⊢
  clear hk1 hb1 HB hn
  go_wp2_with fail
  refine (decode_any W1 (H8.out.below E1.out.old) _ bs (rd_of_cap (SP.out _ E1.out))).mono ?_
  rintro e W2 ⟨v1, rfl, ow1, hb2⟩
  have FW0 := decO_few bs
  have HRD : Hid (rdecO bs = decO bs) := hide (dec_same bs)
  obtain ⟨d, hd⟩ : ∃ d, d = decO bs := ⟨_, rfl⟩
  rw [← hd] at ow1 FW0 HRD ⊢
  clear hd
  obtain ⟨ck, o⟩ := d
  have FW : Hid (o.parts.length ≤ 128 ∧ o.items.length ≤ 128 ∧ o.parents.length ≤ 128) := hide FW0
  have OK : Hid (ObjOk o) := hide ow1.ok
  have E2 := hide (E1.out.below hb2)
  have R2 : Hid (ObjRd W2 o v1) := hide (ow1.rd FW0.1 FW0.2.1 FW0.2.2)
  have OZ1 : Hid ((objL o v1).toArray.size = 39) := hide (objL_size o v1 OK.out.t)
  have P1 : Hid ((objL o v1).toArray.all (·.oneCell') = true) := hide (all_oneCell_toArray (objL_one o v1 R2.out.sl))
  have ZB2 : Hid (Blk (W2.alloc (.cells objZ 30)) W2.heap.size objZ 30) := hide (Blk.made W2 _ _)
  obtain ⟨a1, ha1⟩ : ∃ x, x = (objL o v1).toArray := ⟨_, rfl⟩
  have HA1 := hide ha1
  rw [← ha1] at OZ1 P1
  rw [show (objL (ck, o).2 v1).toArray = a1 from ha1.symm]
  clear ow1 hb2 FW0 E1 ha1
  go_wp2_with (first
    | ((with_reducible refine wpList_store_blk ?_ 30 (.tmp 4) (.tmp 13) ?_ W2.heap.size 39 objZ a1 30 OZ1.out objZ_size ?_ ?_ ZB2.out infoObj P1.out ?_); rfl; rfl; rfl; rfl; intro W3 hk3 hg3; generalize hG : wpList _ _ _ _ _ _ = G))
  have HB3 : Hid (Below W2.heap.size W2 W3) := hide ((below_alloc W2 _).trans (below_grownBy hg3 (Nat.le_refl _) (below_alloc W2 _).size))
  obtain ⟨z1, hz1⟩ : ∃ z, z = W2.heap.size := ⟨_, rfl⟩
  rw [← hz1] at hk3
  have A3 := hide hk3
  have E3 := hide (E2.out.below HB3.out)
  have R3 := hide (R2.out.below HB3.out)
  subst hG
  rw [← hz1]
  clear hk3 hg3 HB3 E2 R2 ZB2 P1 hz1
  go_wp2_with fail
  refine (rdecode_any W3 _ bs E3.out.b).mono ?_
  rintro e W4 ⟨v2, rfl, ow2, hb4⟩
  rw [HRD.out] at ow2 ⊢
  have E4 := hide (E3.out.below hb4)
  have R4 := hide (R3.out.below hb4)
  have A4 := hide (A3.out.below hb4 A3.out.lt)
  have S4 : Hid (ObjRd W4 o v2) := hide (ObjOwn.rd ow2 FW.out.1 FW.out.2.1 FW.out.2.2)
  have OZ2 : Hid ((objL o v2).toArray.size = 39) := hide (objL_size o v2 OK.out.t)
  have P2 : Hid ((objL o v2).toArray.all (·.oneCell') = true) := hide (all_oneCell_toArray (objL_one o v2 S4.out.sl))
  have ZB4 : Hid (Blk (W4.alloc (.cells objZ 30)) W4.heap.size objZ 30) := hide (Blk.made W4 _ _)
  obtain ⟨a2, ha2⟩ : ∃ x, x = (objL o v2).toArray := ⟨_, rfl⟩
  have HA2 := hide ha2
  rw [← ha2] at OZ2 P2
  rw [show (objL (ck, o).2 v2).toArray = a2 from ha2.symm]
  clear ow2 hb4 ha2 E3 R3 A3 HRD
  go_wp2_with (first
    | ((with_reducible refine wpList_store_blk ?_ 30 (.tmp 6) (.tmp 18) ?_ W4.heap.size 39 objZ a2 30 OZ2.out objZ_size ?_ ?_ ZB4.out infoObj P2.out ?_); rfl; rfl; rfl; rfl; intro W5 hk5 hg5; generalize hG : wpList _ _ _ _ _ _ = G))
  have HB5 : Hid (Below W4.heap.size W4 W5) := hide ((below_alloc W4 _).trans (below_grownBy hg5 (Nat.le_refl _) (below_alloc W4 _).size))
  obtain ⟨z2, hz2⟩ : ∃ z, z = W4.heap.size := ⟨_, rfl⟩
  rw [← hz2] at hk5
  have B5 := hide hk5
  have E5 := hide (E4.out.below HB5.out)
  have R5 := hide (R4.out.below HB5.out)
  have S5 := hide (S4.out.below HB5.out)
  have A5 := hide (A4.out.below HB5.out A4.out.lt)
  subst hG
  rw [← hz2]
  clear hk5 hg5 HB5 E4 R4 S4 A4 ZB4 P2 hz2
  go_wp2_with (first
    | ((with_reducible refine wpList_load_obj (.tmp 4) z1 a1 A5.out OZ1.out ?_ ?_ ?_ ?_); rfl; rfl; exact wanted_yes (j := 3) (b := true) (t := 23) rfl rfl rfl (by decide : (23 : Nat) < 39))
    | ((with_reducible refine wpList_load_obj (.tmp 6) z2 a2 B5.out OZ2.out ?_ ?_ ?_ ?_); rfl; rfl; exact wanted_yes (j := 3) (b := true) (t := 23) rfl rfl rfl (by decide : (23 : Nat) < 39)))
  rw [HA1.out, HA2.out]
  refine (rsame_any W5 o o v1 v2 R5.out S5.out).mono ?_
  rintro e W6 ⟨rfl, hb6⟩
  rw [sameO_self, ← HA1.out, ← HA2.out]
  have E6 := hide (E5.out.below hb6)
  have X6 := hide (SP.out _ E6.out)
  have Y6 := hide E6.out.b
  clear hb6 E5 R5 S5 A5 B5
  go_wp2_with (first
    | ((with_reducible refine wpList_val (.string ⟨bs.toArray⟩) ?_ (run_convD (x := .tmp 29) ?_ ?_ X6.out) ?_); exact wanted_yes (j := 8) (b := true) (t := 28) rfl rfl rfl (by decide : (28 : Nat) < 39); rfl; rfl)
    | ((with_reducible refine wpList_val (.string ⟨bs.toArray⟩) ?_ (run_convD (x := .tmp 31) ?_ ?_ Y6.out) ?_); exact wanted_yes (j := 8) (b := true) (t := 28) rfl rfl rfl (by decide : (28 : Nat) < 39); rfl; rfl))
  rw [HN.out]
  refine (clean_any W6 w.heap.size bs E6.out.sp HL.out).mono ?_
  rintro e W7 ⟨rfl, hb7⟩
  rw [← HN.out]
  have E7 := hide (E6.out.below hb7)
  clear hb7 E6 X6 Y6
  go_wp2
  go_ret
  exact ⟨rfl, E7.out.old⟩
end Go.Proofs.YtjcfndiceinkjaaDoor
