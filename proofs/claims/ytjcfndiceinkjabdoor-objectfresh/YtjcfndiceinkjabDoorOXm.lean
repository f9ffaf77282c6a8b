/- One encoding, one object (pure). -/
import Derived.Test.YtjcfndiceinkjabDoorOL7
import Derived.Test.YtjcfndiceinkjabDoorYem
namespace Go.Proofs.YtjcfndiceinkjabDoor
set_option linter.unusedVariables false
set_option linter.unusedSimpArgs false
open Go.RowKit

theorem time_wf {n : Int} (h : (Lit.int .i64 n).wf = true) : -9223372036854775808 ≤ n ∧ n ≤ 9223372036854775807 := by
  simpa [Lit.wf, IntKind.min, IntKind.max, IntKind.signed, IntKind.bits] using h
theorem time_inj (a b : ObjR) (ha : TxtSz a) (hb : TxtSz b) (h : timeN a = timeN b) : a.time = b.time := by
  have := time_wf ha.w; have := time_wf hb.w
  unfold timeN at h
  rw [IntKind.wrap_u64, IntKind.wrap_u64] at h
  omega
theorem timeN_lt (a : ObjR) : timeN a < 256 ^ 8 := by unfold timeN; rw [IntKind.wrap_u64]; omega
theorem u8_inj {a b : Nat} (ha : a < 256) (hb : b < 256) (h : UInt8.ofNat a = UInt8.ofNat b) : a = b := by
  have := congrArg UInt8.toNat h
  simp at this
  omega
/-- A number's bytes tell where they end, and the number. -/
theorem varGo_inj : ∀ (n a b : Nat) (s t : List UInt8), a < 128 ^ n * 256 → b < 128 ^ n * 256 → varGo n a ++ s = varGo n b ++ t → a = b ∧ s = t
  | 0, a, b, s, t, ha, hb, h => by
    simp only [varGo, List.cons_append, List.nil_append, List.cons.injEq] at h
    exact ⟨u8_inj (by omega) (by omega) h.1, h.2⟩
  | n + 1, a, b, s, t, ha, hb, h => by
    have e : 128 ^ (n + 1) = 128 * 128 ^ n := by rw [Nat.pow_succ, Nat.mul_comm]
    rw [e, Nat.mul_assoc] at ha hb
    unfold varGo at h
    by_cases h1 : a < 128
    · by_cases h2 : b < 128
      · rw [if_pos h1, if_pos h2] at h
        simp only [List.cons_append, List.nil_append, List.cons.injEq] at h
        exact ⟨u8_inj (by omega) (by omega) h.1, h.2⟩
      · rw [if_pos h1, if_neg h2] at h
        simp only [List.cons_append, List.nil_append, List.cons.injEq] at h
        have := u8_inj (by omega) (by omega) h.1
        omega
    · by_cases h2 : b < 128
      · rw [if_neg h1, if_pos h2] at h
        simp only [List.cons_append, List.nil_append, List.cons.injEq] at h
        have := u8_inj (by omega) (by omega) h.1
        omega
      · rw [if_neg h1, if_neg h2] at h
        simp only [List.cons_append, List.cons.injEq] at h
        have h3 := u8_inj (by omega) (by omega) h.1
        obtain ⟨h4, h5⟩ := varGo_inj n (a / 128) (b / 128) s t (by omega) (by omega) h.2
        exact ⟨by omega, h5⟩
theorem varB_inj {a b : Nat} {s t : List UInt8} (ha : a ≤ 18446744073709551615) (hb : b ≤ 18446744073709551615) (h : varB a ++ s = varB b ++ t) : a = b ∧ s = t :=
  varGo_inj 9 a b s t (by omega) (by omega) h
theorem cut_inj {x y s t : List UInt8} (hl : x.length = y.length) (h : x ++ s = y ++ t) : x = y ∧ s = t := List.append_inj h hl
theorem text_inj {x y s t : List UInt8} (hx : x.length ≤ 18446744073709551615) (hy : y.length ≤ 18446744073709551615) (h : varB x.length ++ x ++ s = varB y.length ++ y ++ t) : x = y ∧ s = t := by
  rw [List.append_assoc, List.append_assoc] at h
  obtain ⟨h1, h2⟩ := varB_inj hx hy h
  exact cut_inj h1 h2
theorem fix_inj : ∀ (n a b : Nat), a < 256 ^ n → b < 256 ^ n → fixB n a = fixB n b → a = b
  | 0, a, b, ha, hb, _ => by simp at ha hb; omega
  | n + 1, a, b, ha, hb, h => by
    simp only [fixB, List.cons.injEq] at h
    have h1 := congrArg UInt8.toNat h.1
    simp at h1
    rw [Nat.pow_succ] at ha hb
    have h2 := fix_inj n (a / 256) (b / 256) (by omega) (by omega) h.2
    omega
theorem parts_inj : ∀ (L M : List PartR), (∀ p ∈ L, okP p) → (∀ p ∈ M, okP p) → (∀ p ∈ L, p.2 ≤ 18446744073709551615) → (∀ p ∈ M, p.2 ≤ 18446744073709551615) → L.length = M.length → (L.map partB).flatten = (M.map partB).flatten → L = M
  | [], [], _, _, _, _, _, _ => rfl
  | [], _ :: _, _, _, _, _, hl, _ => by simp at hl
  | _ :: _, [], _, _, _, _, hl, _ => by simp at hl
  | (k, s) :: L, (l, t) :: M, h1, h2, h3, h4, hl, h => by
    simp only [List.map_cons, List.flatten_cons, partB, List.append_assoc] at h
    have e1 : k.length = 32 := h1 (k, s) (by simp)
    have e2 : l.length = 32 := h2 (l, t) (by simp)
    obtain ⟨ek, h5⟩ := cut_inj (by omega) h
    obtain ⟨es, h6⟩ := varB_inj (a := s) (b := t) (h3 (k, s) (by simp)) (h4 (l, t) (by simp)) h5
    rw [ek, es, parts_inj L M (fun p hp => h1 p (by simp [hp])) (fun p hp => h2 p (by simp [hp])) (fun p hp => h3 p (by simp [hp])) (fun p hp => h4 p (by simp [hp])) (by simpa using hl) h6]
theorem items_inj : ∀ (L M : List ItemR), (∀ p ∈ L, okI p) → (∀ p ∈ M, okI p) → (∀ p ∈ L, p.1.length ≤ 64 ∧ p.2.1 ≤ 255 ∧ p.2.2.1 ≤ 18446744073709551615) → (∀ p ∈ M, p.1.length ≤ 64 ∧ p.2.1 ≤ 255 ∧ p.2.2.1 ≤ 18446744073709551615) → L.length = M.length → (L.map itemB).flatten = (M.map itemB).flatten → L = M
  | [], [], _, _, _, _, _, _ => rfl
  | [], _ :: _, _, _, _, _, hl, _ => by simp at hl
  | _ :: _, [], _, _, _, _, hl, _ => by simp at hl
  | (a, m, s, k) :: L, (b, n, t, l) :: M, h1, h2, h3, h4, hl, h => by
    simp only [List.map_cons, List.flatten_cons, itemB, List.append_assoc] at h
    have e1 : k.length = 32 := h1 (a, m, s, k) (by simp)
    have e2 : l.length = 32 := h2 (b, n, t, l) (by simp)
    obtain ⟨q1, q2, q3⟩ := h3 (a, m, s, k) (by simp)
    obtain ⟨r1, r2, r3⟩ := h4 (b, n, t, l) (by simp)
    simp only at q1 q2 q3 r1 r2 r3
    rw [← List.append_assoc, ← List.append_assoc (varB b.length)] at h
    obtain ⟨ea, h5⟩ := text_inj (by omega) (by omega) h
    obtain ⟨h6, h7⟩ := cut_inj (by rw [fixB_len, fixB_len]) h5
    have em := fix_inj 1 m n (by omega) (by omega) h6
    obtain ⟨es, h8⟩ := varB_inj q3 r3 h7
    obtain ⟨ek, h9⟩ := cut_inj (by omega) h8
    rw [ea, em, es, ek, items_inj L M (fun p hp => h1 p (by simp [hp])) (fun p hp => h2 p (by simp [hp])) (fun p hp => h3 p (by simp [hp])) (fun p hp => h4 p (by simp [hp])) (by simpa using hl) h9]
theorem keys_inj : ∀ (L M : List (List UInt8)) (s t : List UInt8), (∀ p ∈ L, okK p) → (∀ p ∈ M, okK p) → L.length = M.length → L.flatten ++ s = M.flatten ++ t → L = M ∧ s = t
  | [], [], _, _, _, _, _, h => ⟨rfl, h⟩
  | [], _ :: _, _, _, _, _, hl, _ => by simp at hl
  | _ :: _, [], _, _, _, _, hl, _ => by simp at hl
  | k :: L, l :: M, s, t, h1, h2, hl, h => by
    simp only [List.flatten_cons, List.append_assoc] at h
    have e1 : k.length = 32 := h1 k (by simp)
    have e2 : l.length = 32 := h2 l (by simp)
    obtain ⟨ek, h5⟩ := cut_inj (by omega) h
    obtain ⟨eL, h6⟩ := keys_inj L M s t (fun p hp => h1 p (by simp [hp])) (fun p hp => h2 p (by simp [hp])) (by simpa using hl) h5
    exact ⟨by rw [ek, eL], h6⟩
theorem same_eq {a b : ObjR} (h : sameO a b = true) : a = b := by
  obtain ⟨k1, d1, p1, i1, t1, q1, m1, n1⟩ := a
  obtain ⟨k2, d2, p2, i2, t2, q2, m2, n2⟩ := b
  unfold sameO at h
  simp only [Bool.and_eq_true, decide_eq_true_eq, beq_iff_eq] at h
  obtain ⟨⟨⟨⟨⟨⟨⟨rfl, rfl⟩, rfl⟩, rfl⟩, rfl⟩, rfl⟩, rfl⟩, rfl⟩ := h
  rfl
theorem wrong_zero {o : ObjR} (h : wrongO o = 0) : othersO o = zeroO := by
  have hf : foreignO o = false := by
    cases hf : foreignO o with
    | false => rfl
    | true =>
      exfalso
      unfold wrongO at h
      have := wrong_kind (o := o) (by unfold wrongO; exact h)
      rw [if_neg (by omega), if_pos hf] at h
      exact absurd h (by decide)
  exact same_eq (by rw [foreign_eq, hf]; rfl)
theorem obj_1 {o : ObjR} (h : wrongO o = 0) (hk : o.kind = 1) : o = ⟨1, o.data, [], [], zero32, [], 0, []⟩ := by
  have := wrong_zero h
  unfold othersO zeroO at this
  rw [if_pos hk] at this
  obtain ⟨k1, d1, p1, i1, t1, q1, m1, n1⟩ := o
  simp only [ObjR.mk.injEq] at this hk ⊢
  simp_all
theorem obj_2 {o : ObjR} (h : wrongO o = 0) (hk : o.kind = 2) : o = ⟨2, [], o.parts, [], zero32, [], 0, []⟩ := by
  have := wrong_zero h
  unfold othersO zeroO at this
  rw [if_neg (by omega), if_pos hk] at this
  obtain ⟨k1, d1, p1, i1, t1, q1, m1, n1⟩ := o
  simp only [ObjR.mk.injEq] at this hk ⊢
  simp_all
theorem obj_3 {o : ObjR} (h : wrongO o = 0) (hk : o.kind = 3) : o = ⟨3, [], [], o.items, zero32, [], 0, []⟩ := by
  have := wrong_zero h
  unfold othersO zeroO at this
  rw [if_neg (by omega), if_neg (by omega), if_pos hk] at this
  obtain ⟨k1, d1, p1, i1, t1, q1, m1, n1⟩ := o
  simp only [ObjR.mk.injEq] at this hk ⊢
  simp_all
theorem obj_4 {o : ObjR} (h : wrongO o = 0) (hk : o.kind = 4) : o = ⟨4, [], [], [], o.tree, o.parents, o.time, o.note⟩ := by
  have := wrong_zero h
  unfold othersO zeroO at this
  rw [if_neg (by omega), if_neg (by omega), if_neg (by omega), if_pos hk] at this
  obtain ⟨k1, d1, p1, i1, t1, q1, m1, n1⟩ := o
  simp only [ObjR.mk.injEq] at this hk ⊢
  simp_all
/-- One encoding, one object. -/
theorem lay_inj {a b : ObjR} (ha : ObjOk a) (hb : ObjOk b) (ta : TxtSz a) (tb : TxtSz b) (wa : wrongO a = 0) (wb : wrongO b = 0) (h : layO a = layO b) : a = b := by
  unfold layO at h
  obtain ⟨h0, h1⟩ := cut_inj (by rw [fixB_len, fixB_len]) h
  have hk := fix_inj 1 _ _ (by have := ta.k; omega) (by have := tb.k; omega) h0
  obtain ⟨k1, k4⟩ := wrong_kind wa
  rw [← hk] at h1
  rcases (show a.kind = 1 ∨ a.kind = 2 ∨ a.kind = 3 ∨ a.kind = 4 by omega) with e | e | e | e
  · rw [if_pos e, if_pos e] at h1
    rw [obj_1 wa e, obj_1 wb (by omega), h1]
  · have n1 : ¬ a.kind = 1 := by omega
    simp only [if_neg n1, if_pos e] at h1
    have la := list_few (wrong_list wa e)
    have lb := list_few (wrong_list wb (by omega))
    obtain ⟨hl, h2⟩ := varB_inj (by omega) (by omega) h1
    have := parts_inj _ _ ha.p hb.p ta.q tb.q hl h2
    rw [obj_2 wa e, obj_2 wb (by omega), this]
  · have n1 : ¬ a.kind = 1 := by omega
    have n2 : ¬ a.kind = 2 := by omega
    simp only [if_neg n1, if_neg n2, if_pos e] at h1
    have la := tree_few (wrong_tree wa e)
    have lb := tree_few (wrong_tree wb (by omega))
    obtain ⟨hl, h2⟩ := varB_inj (by omega) (by omega) h1
    have := items_inj _ _ ha.i hb.i (fun p hp => ⟨la.2 p hp, ta.m p hp, ta.s p hp⟩) (fun p hp => ⟨lb.2 p hp, tb.m p hp, tb.s p hp⟩) hl h2
    rw [obj_3 wa e, obj_3 wb (by omega), this]
  · have n1 : ¬ a.kind = 1 := by omega
    have n2 : ¬ a.kind = 2 := by omega
    have n3 : ¬ a.kind = 3 := by omega
    simp only [if_neg n1, if_neg n2, if_neg n3, if_pos e] at h1
    have la := snap_few (wrong_snap wa e)
    have lb := snap_few (wrong_snap wb (by omega))
    simp only [List.append_assoc] at h1
    obtain ⟨et, h2⟩ := cut_inj (by rw [ha.t, hb.t]) h1
    obtain ⟨hl, h3⟩ := varB_inj (by omega) (by omega) h2
    obtain ⟨ep, h4⟩ := keys_inj _ _ _ _ ha.k hb.k hl h3
    obtain ⟨h5, h6⟩ := cut_inj (by rw [fixB_len, fixB_len]) h4
    have em := time_inj a b ta tb (fix_inj 8 _ _ (timeN_lt a) (timeN_lt b) h5)
    obtain ⟨en, _⟩ := text_inj (s := []) (t := []) (x := a.note) (y := b.note) (by omega) (by omega) (by simpa using h6)
    rw [obj_4 wa e, obj_4 wb (by omega), et, ep, em, en]
/-- Two objects that are taken: one encoding just if they are alike. -/
theorem enc_same {a b : ObjR} (ha : ObjOk a) (hb : ObjOk b) (ta : TxtSz a) (tb : TxtSz b) (ca : checkO a = 0) (cb : checkO b = 0) : (encO a == encO b) = sameO a b := by
  have ea : encO a = layO a := by unfold encO; rw [if_pos ca]
  have eb : encO b = layO b := by unfold encO; rw [if_pos cb]
  cases h : sameO a b with
  | true => rw [same_eq h]; simp
  | false =>
    rw [ea, eb]
    rw [beq_eq_false_iff_ne]
    intro e
    rw [lay_inj ha hb ta tb (lay_le ca).2.1 (lay_le cb).2.1 e, sameO_self] at h
    cases h
end Go.Proofs.YtjcfndiceinkjabDoor

/- What was taken off lays to what stood there (the program's machine alone). -/
namespace Go.Proofs.YtjcfndiceinkjabDoor
set_option linter.unusedVariables false
set_option linter.unusedSimpArgs false
open Go.RowKit

theorem firstGo_inv : ∀ (xs : List UInt8) (acc i v n : Nat), firstGo acc i xs = (v, n, 0) → i ≤ 9 →
    ∃ m, v = acc + m * 128 ^ i ∧ i < n ∧ n ≤ i + xs.length ∧ xs.take (n - i) = varGo (9 - i) m ∧ (0 < i → 0 < m)
  | [], acc, i, v, n, h, _ => by simp [firstGo] at h
  | c :: r, acc, i, v, n, h, hi => by
    have hcl := c.toNat_lt
    rw [firstGo] at h
    split at h
    · simp at h
    · rename_i h9
      split at h
      · rename_i hlt
        split at h
        · simp at h
        · rename_i h0
          simp only [Prod.mk.injEq] at h
          obtain ⟨rfl, rfl, _⟩ := h
          refine ⟨c.toNat, by rw [Nat.mod_eq_of_lt hlt], by omega, by rw [List.length_cons]; omega, ?_, by omega⟩
          have e : i + 1 - i = 1 := by omega
          rw [e]
          have hc : UInt8.ofNat c.toNat = c := by simp
          cases h8 : 9 - i with
          | zero => simp [varGo]
          | succ k => rw [varGo, if_pos hlt]; simp
      · rename_i hge
        have hi9 : i ≠ 9 := by omega
        obtain ⟨m, e1, e2, e3, e4, e5⟩ := firstGo_inv r _ (i + 1) v n h (by omega)
        have hm := e5 (by omega)
        refine ⟨c.toNat % 128 + 128 * m, ?_, by omega, by simp; omega, ?_, by omega⟩
        · rw [e1, Nat.pow_succ, Nat.add_mul, Nat.mul_comm 128 m, Nat.mul_assoc, Nat.mul_comm (128 ^ i) 128]
          omega
        · have en : n - i = (n - (i + 1)) + 1 := by omega
          have e9 : 9 - i = (9 - (i + 1)) + 1 := by omega
          rw [en, List.take_succ_cons, e4, e9, varGo, if_neg (by omega)]
          have d1 : (c.toNat % 128 + 128 * m) % 128 + 128 = c.toNat := by omega
          have d2 : (c.toNat % 128 + 128 * m) / 128 = m := by omega
          rw [d1, d2]
          simp
theorem first_inv (xs : List UInt8) (v n : Nat) (h : firstGo 0 0 xs = (v, n, 0)) : n ≤ xs.length ∧ xs.take n = varB v := by
  obtain ⟨m, e1, _, e3, e4, _⟩ := firstGo_inv xs 0 0 v n h (by omega)
  have : v = m := by rw [e1]; simp
  subst this
  exact ⟨by omega, e4⟩

/-- A number that was taken: its bytes stood there. -/
theorem mNum_inv (bs : List UInt8) (s : S) (most : Nat) (hs : s.code = 0) (hp : s.p ≤ bs.length) :
    ((mNum bs s most).2.2.code ≠ 0 ∧ (mNum bs s most).1 = 0 ∧ (mNum bs s most).2.1 = false) ∨
    ((mNum bs s most).2.2.code = 0 ∧ (mNum bs s most).2.1 = true ∧ (mNum bs s most).2.2.p ≤ bs.length ∧ bs.take (mNum bs s most).2.2.p = bs.take s.p ++ varB (mNum bs s most).1 ∧ (mNum bs s most).1 < 18446744073709551616) := by
  unfold mNum
  rw [if_neg (by omega)]
  split
  · rename_i h; exact .inl ⟨h, rfl, rfl⟩
  · rename_i h
    split
    · exact .inl ⟨by simp, rfl, rfl⟩
    · right
      have hz : (firstGo 0 0 (bs.drop s.p)).2.2 = 0 := by omega
      obtain ⟨h1, h2⟩ := first_inv (bs.drop s.p) (firstGo 0 0 (bs.drop s.p)).1 (firstGo 0 0 (bs.drop s.p)).2.1 (Prod.ext rfl (Prod.ext rfl hz))
      have h1 : (firstGo 0 0 (bs.drop s.p)).2.1 ≤ bs.length - s.p := by rw [← List.length_drop]; exact h1
      have h1' : s.p + (firstGo 0 0 (bs.drop s.p)).2.1 ≤ bs.length := by omega
      refine ⟨hs, rfl, h1', ?_, firstGo_lt _ 0 0 (by simp) (by omega)⟩
      simp only []
      rw [List.take_add, h2]
theorem mNext_inv (bs : List UInt8) (s : S) (a k : Nat) (hs : s.code = 0) :
    ((mNext bs s a k).2.code ≠ 0 ∧ (mNext bs s a k).1 = none) ∨
    ((mNext bs s a k).2.code = 0 ∧ ∃ ys, (mNext bs s a k).1 = some ys ∧ ys.length = k ∧ (mNext bs s a k).2.p ≤ bs.length ∧ bs.take (mNext bs s a k).2.p = bs.take s.p ++ ys) := by
  unfold mNext
  rw [if_neg (by omega)]
  split
  · exact .inl ⟨by simp, rfl⟩
  · right
    refine ⟨hs, (bs.drop s.p).take k, rfl, by simp; omega, by simp only []; omega, ?_⟩
    simp only []
    rw [List.take_add]

theorem fixB_le : ∀ xs : List UInt8, fixB xs.length (leNat xs) = xs
  | [] => rfl
  | c :: r => by
    have hc := c.toNat_lt
    rw [List.length_cons, fixB, leNat]
    have e1 : UInt8.ofNat (c.toNat + 256 * leNat r) = c := by
      apply UInt8.toNat_inj.1
      simp
    have e2 : (c.toNat + 256 * leNat r) / 256 = leNat r := by omega
    rw [e1, e2, fixB_le r]

/-- From code 0 to code 0: what stood between is L of what was taken. -/
def Good {α : Type} (bs : List UInt8) (T : S → α × S) (L : α → List UInt8) : Prop := ∀ s, s.code = 0 → s.p ≤ bs.length → (T s).2.code = 0 → (T s).2.p ≤ bs.length ∧ bs.take (T s).2.p = bs.take s.p ++ L (T s).1
def Stp {α : Type} (T : S → α × S) : Prop := ∀ s, s.code ≠ 0 → (T s).2.code ≠ 0
theorem stp_next (bs : List UInt8) (a : S → Nat) (k : Nat) : Stp (fun s => mNext bs s (a s) k) := fun s h => by show (mNext bs s (a s) k).2.code ≠ 0; rw [mNext, if_pos h]; exact h
theorem stp_num (bs : List UInt8) (m : Nat) : Stp (fun s => ((mNum bs s m).1, (mNum bs s m).2.2)) := fun s h => by show (mNum bs s m).2.2.code ≠ 0; rw [mNum, if_pos h]; exact h
theorem stp_key (bs : List UInt8) : Stp (mKeyT bs) := fun s h => stp_next bs mPlace 32 s h
theorem stp_byte (bs : List UInt8) : Stp (mByte bs) := fun s h => stp_next bs mPlace 1 s h
theorem stp_i64 (bs : List UInt8) : Stp (mI64 bs) := fun s h => stp_next bs mPlace 8 s h
theorem stp_part (bs : List UInt8) : Stp (mPart bs) := fun s h => stp_num bs 9223372036854775807 _ (stp_key bs s h)
theorem stp_mtext (bs : List UInt8) (m : Nat) : Stp (fun s => mText bs s m) := fun s h => by
  show (mText bs s m).2.code ≠ 0
  rw [mText, show mNum bs s m = (0, false, s) by rw [mNum, if_pos h]]
  exact h
theorem stp_mitem (bs : List UInt8) : Stp (mItem bs) := fun s h => stp_key bs _ (stp_num bs 18446744073709551615 _ (stp_byte bs _ (stp_mtext bs 64 s h)))
theorem stp_each {α : Type} (T : S → α × S) (n : Nat) (s : S) (acc : List α) (h : s.code ≠ 0) : (eachT T n s acc).2.code ≠ 0 := by rw [eachT_stop _ _ _ _ h]; exact h
theorem good_key (bs : List UInt8) : Good bs (mKeyT bs) id := fun s h hp hc => by
  have hc' : (mNext bs s (mPlace s) 32).2.code = 0 := hc
  rcases mNext_inv bs s (mPlace s) 32 h with ⟨h1, _⟩ | ⟨_, ys, h2, _, h4, h5⟩
  · exact absurd hc' h1
  · refine ⟨h4, ?_⟩
    show bs.take (mNext bs s (mPlace s) 32).2.p = bs.take s.p ++ keyBytes (mNext bs s (mPlace s) 32).1
    rw [h5, h2]
    rfl
theorem good_byte (bs : List UInt8) : Good bs (mByte bs) (fixB 1) := fun s h hp hc => by
  have hc' : (mNext bs s (mPlace s) 1).2.code = 0 := hc
  rcases mNext_inv bs s (mPlace s) 1 h with ⟨h1, _⟩ | ⟨_, ys, h2, h3, h4, h5⟩
  · exact absurd hc' h1
  · refine ⟨h4, ?_⟩
    show bs.take (mNext bs s (mPlace s) 1).2.p = bs.take s.p ++ fixB 1 (leNat ((mNext bs s (mPlace s) 1).1.getD []))
    rw [h5, h2]
    have := fixB_le ys
    rw [h3] at this
    rw [Option.getD_some, this]
theorem arith_i (q : Nat) (h : q < 18446744073709551616) : (IntKind.u64.wrap (IntKind.i64.wrap (q : Int))).toNat = q := by
  simp only [IntKind.wrap_i64, IntKind.wrap_u64]
  omega
theorem good_i64 (bs : List UInt8) : Good bs (mI64 bs) (fun t => fixB 8 (IntKind.u64.wrap t).toNat) := fun s h hp hc => by
  have hc' : (mNext bs s (mPlace s) 8).2.code = 0 := hc
  rcases mNext_inv bs s (mPlace s) 8 h with ⟨h1, _⟩ | ⟨_, ys, h2, h3, h4, h5⟩
  · exact absurd hc' h1
  · refine ⟨h4, ?_⟩
    show bs.take (mNext bs s (mPlace s) 8).2.p = bs.take s.p ++ fixB 8 (IntKind.u64.wrap (IntKind.i64.wrap (leNat ((mNext bs s (mPlace s) 8).1.getD []) : Nat))).toNat
    rw [h5, h2, Option.getD_some]
    have e := fixB_le ys
    rw [h3] at e
    have hlt : leNat ys < 18446744073709551616 := leNat_lt ys 8 (by omega)
    rw [arith_i _ hlt, e]
theorem good_num (bs : List UInt8) (m : Nat) : Good bs (fun s => ((mNum bs s m).1, (mNum bs s m).2.2)) varB := fun s h hp hc => by
  rcases mNum_inv bs s m h hp with ⟨h1, _⟩ | ⟨_, _, h3, h4, _⟩
  · exact absurd hc h1
  · exact ⟨h3, h4⟩
theorem good_part (bs : List UInt8) : Good bs (mPart bs) partB := fun s h hp hc => by
  have k0 : (mKeyT bs s).2.code = 0 := Classical.byContradiction fun e => stp_num bs 9223372036854775807 _ e hc
  obtain ⟨p1, t1⟩ := good_key bs s h hp k0
  obtain ⟨p2, t2⟩ := good_num bs 9223372036854775807 _ k0 p1 hc
  refine ⟨p2, t2.trans ?_⟩
  rw [t1, List.append_assoc]
  rfl
theorem good_eachT {α : Type} (bs : List UInt8) (T : S → α × S) (L : α → List UInt8) (hT : Good bs T L) : ∀ (n : Nat) (s : S) (acc : List α), s.code = 0 → s.p ≤ bs.length → (eachT T n s acc).2.code = 0 →
    ∃ ys, (eachT T n s acc).1 = acc ++ ys ∧ ys.length = n ∧ (eachT T n s acc).2.p ≤ bs.length ∧ bs.take (eachT T n s acc).2.p = bs.take s.p ++ (ys.map L).flatten
  | 0, s, acc, h, hp, _ => ⟨[], by simp [eachT], rfl, hp, by simp [eachT]⟩
  | n + 1, s, acc, h, hp, hc => by
    rw [eachT, if_neg (by omega)] at hc ⊢
    have h1 : (T s).2.code = 0 := Classical.byContradiction fun e => stp_each T n _ _ e hc
    obtain ⟨p1, t1⟩ := hT s h hp h1
    obtain ⟨ys, a1, a2, a3, a4⟩ := good_eachT bs T L hT n _ _ h1 p1 hc
    exact ⟨(T s).1 :: ys, by rw [a1]; simp, by simp [a2], a3, by rw [a4, t1]; simp⟩
theorem stp_blob (bs : List UInt8) : Stp (mBlob bs) := fun s h => by show (mNext bs s (mPlace s) (mLeft bs s)).2.code ≠ 0; rw [mNext, if_pos h]; exact h
theorem good_blob (bs : List UInt8) : Good bs (mBlob bs) (fun o => o.data) := fun s h hp hc => by
  have hc' : (mNext bs s (mPlace s) (mLeft bs s)).2.code = 0 := hc
  rcases mNext_inv bs s (mPlace s) (mLeft bs s) h with ⟨h1, _⟩ | ⟨_, ys, h2, _, h4, h5⟩
  · exact absurd hc' h1
  · refine ⟨h4, ?_⟩
    show bs.take (mNext bs s (mPlace s) (mLeft bs s)).2.p = bs.take s.p ++ (mNext bs s (mPlace s) (mLeft bs s)).1.getD []
    rw [h5, h2]
    rfl
theorem lay_of {α : Type} (bs : List UInt8) (T : S → α × S) (L : α → List UInt8) (K : Nat) (hG : Good bs T L) (hS : Stp T) (hk : (mByte bs sZ0).1 = K) (hc : (T (mByte bs sZ0).2).2.code = 0) (hp : ¬ (T (mByte bs sZ0).2).2.p < bs.length) : fixB 1 K ++ L (T (mByte bs sZ0).2).1 = bs := by
  have b0 : (mByte bs sZ0).2.code = 0 := Classical.byContradiction fun e => hS _ e hc
  obtain ⟨p1, t1⟩ := good_byte bs sZ0 rfl (Nat.zero_le _) b0
  obtain ⟨p2, t2⟩ := hG _ b0 p1 hc
  rw [List.take_of_length_le (by omega), t1, hk] at t2
  rw [show List.take sZ0.p bs = [] from List.take_zero, List.nil_append] at t2
  exact t2.symm
theorem good_mtext (bs : List UInt8) (m : Nat) : Good bs (fun s => mText bs s m) (fun t => varB t.length ++ t) := fun s h hp hc => by
  have hc' : (mText bs s m).2.code = 0 := hc
  show (mText bs s m).2.p ≤ bs.length ∧ bs.take (mText bs s m).2.p = bs.take s.p ++ (varB (mText bs s m).1.length ++ (mText bs s m).1)
  rcases mNum_inv bs s m h hp with ⟨h1, _, h2⟩ | ⟨h1, h2, h3, h4, _⟩
  · unfold mText at hc'
    rw [if_neg (by rw [h2]; decide)] at hc'
    exact absurd hc' h1
  · rcases mNext_inv bs (mNum bs s m).2.2 (mPlace s) (mNum bs s m).1 h1 with ⟨g1, _⟩ | ⟨g1, ys, g2, g3, g4, g5⟩
    · unfold mText at hc'
      rw [if_pos h2] at hc'
      exact absurd hc' g1
    · have e : mText bs s m = (ys, (mNext bs (mNum bs s m).2.2 (mPlace s) (mNum bs s m).1).2) := by
        unfold mText
        rw [if_pos h2, g2]
        rfl
      rw [e]
      refine ⟨g4, ?_⟩
      show bs.take (mNext bs (mNum bs s m).2.2 (mPlace s) (mNum bs s m).1).2.p = bs.take s.p ++ (varB ys.length ++ ys)
      rw [g5, h4, g3, List.append_assoc]
theorem good_mitem (bs : List UInt8) : Good bs (mItem bs) itemB := fun s h hp hc => by
  have q0 : (mNum bs (mByte bs (mText bs s 64).2).2 18446744073709551615).2.2.code = 0 := Classical.byContradiction fun e => stp_key bs _ e hc
  have m0 : (mByte bs (mText bs s 64).2).2.code = 0 := Classical.byContradiction fun e => stp_num bs 18446744073709551615 _ e q0
  have x0 : (mText bs s 64).2.code = 0 := Classical.byContradiction fun e => stp_byte bs _ e m0
  obtain ⟨p1, t1⟩ := good_mtext bs 64 s h hp x0
  obtain ⟨p2, t2⟩ := good_byte bs _ x0 p1 m0
  obtain ⟨p3, t3⟩ := good_num bs 18446744073709551615 _ m0 p2 q0
  obtain ⟨p4, t4⟩ := good_key bs _ q0 p3 hc
  refine ⟨p4, t4.trans ?_⟩
  have t3' : bs.take (mNum bs (mByte bs (mText bs s 64).2).2 18446744073709551615).2.2.p = bs.take (mByte bs (mText bs s 64).2).2.p ++ varB (mNum bs (mByte bs (mText bs s 64).2).2 18446744073709551615).1 := t3
  have t1' : bs.take (mText bs s 64).2.p = bs.take s.p ++ (varB (mText bs s 64).1.length ++ (mText bs s 64).1) := t1
  rw [t3', t2, t1']
  show _ = bs.take s.p ++ (varB (mText bs s 64).1.length ++ (mText bs s 64).1 ++ fixB 1 (mByte bs (mText bs s 64).2).1 ++ varB (mNum bs (mByte bs (mText bs s 64).2).2 18446744073709551615).1 ++ (mKeyT bs (mNum bs (mByte bs (mText bs s 64).2).2 18446744073709551615).2.2).1)
  simp only [List.append_assoc, id]
theorem each_go {α : Type} (T : S → α × S) (bs : List UInt8) (s : S) (m : Nat) (hc : (mEachT T bs s m).2.code = 0) : mEachT T bs s m = eachT T (mNum bs s m).1 (mNum bs s m).2.2 [] := by
  unfold mEachT at hc ⊢
  split at hc
  · rename_i h; exact absurd hc h
  · rename_i h; rw [if_neg h]
theorem stp_mEach {α : Type} (T : S → α × S) (bs : List UInt8) (m : Nat) : Stp (fun s => mEachT T bs s m) := fun s h => by
  show (mEachT T bs s m).2.code ≠ 0
  intro hc
  rw [each_go T bs s m hc] at hc
  exact stp_each T _ _ _ (stp_num bs m s h) hc
theorem good_mEach {α : Type} (bs : List UInt8) (T : S → α × S) (L : α → List UInt8) (hT : Good bs T L) (m : Nat) : Good bs (fun s => mEachT T bs s m) (fun ys => varB ys.length ++ (ys.map L).flatten) := fun s h hp hc => by
  have hc' : (mEachT T bs s m).2.code = 0 := hc
  have eg := each_go T bs s m hc'
  rw [eg] at hc'
  have n0 : (mNum bs s m).2.2.code = 0 := Classical.byContradiction fun e => stp_each T _ _ _ e hc'
  obtain ⟨p1, t1⟩ := good_num bs m s h hp n0
  obtain ⟨ys, a1, a2, a3, a4⟩ := good_eachT bs T L hT _ _ [] n0 p1 hc'
  show (mEachT T bs s m).2.p ≤ bs.length ∧ bs.take (mEachT T bs s m).2.p = bs.take s.p ++ (varB (mEachT T bs s m).1.length ++ ((mEachT T bs s m).1.map L).flatten)
  rw [eg]
  refine ⟨a3, ?_⟩
  have t1' : bs.take (mNum bs s m).2.2.p = bs.take s.p ++ varB (mNum bs s m).1 := t1
  rw [a1, a4]
  show bs.take (mNum bs s m).2.2.p ++ (ys.map L).flatten = bs.take s.p ++ (varB ys.length ++ (ys.map L).flatten)
  rw [t1', a2, List.append_assoc]
theorem good_mlist (bs : List UInt8) : Good bs (mList bs) (fun o => varB o.parts.length ++ (o.parts.map partB).flatten) := fun s h hp hc => good_mEach bs _ _ (good_part bs) 128 s h hp hc
theorem good_mtree (bs : List UInt8) : Good bs (mTree bs) (fun o => varB o.items.length ++ (o.items.map itemB).flatten) := fun s h hp hc => good_mEach bs _ _ (good_mitem bs) 128 s h hp hc
theorem stp_mlist (bs : List UInt8) : Stp (mList bs) := fun s h => stp_mEach (mPart bs) bs 128 s h
theorem stp_mtree (bs : List UInt8) : Stp (mTree bs) := fun s h => stp_mEach (mItem bs) bs 128 s h
theorem stp_msnap (bs : List UInt8) : Stp (mSnap bs) := fun s h => stp_mtext bs 1024 _ (stp_i64 bs _ (stp_mEach (mKeyT bs) bs 127 _ (stp_key bs s h)))
theorem good_msnap (bs : List UInt8) : Good bs (mSnap bs) (fun o => o.tree ++ varB o.parents.length ++ o.parents.flatten ++ fixB 8 (timeN o) ++ (varB o.note.length ++ o.note)) := fun s h hp hc => by
  have i0 : (mI64 bs (mEachT (mKeyT bs) bs (mKeyT bs s).2 127).2).2.code = 0 := Classical.byContradiction fun e => stp_mtext bs 1024 _ e hc
  have e0 : (mEachT (mKeyT bs) bs (mKeyT bs s).2 127).2.code = 0 := Classical.byContradiction fun e => stp_i64 bs _ e i0
  have k0 : (mKeyT bs s).2.code = 0 := Classical.byContradiction fun e => stp_mEach (mKeyT bs) bs 127 _ e e0
  obtain ⟨p1, t1⟩ := good_key bs s h hp k0
  obtain ⟨p2, t2⟩ := good_mEach bs _ _ (good_key bs) 127 _ k0 p1 e0
  obtain ⟨p3, t3⟩ := good_i64 bs _ e0 p2 i0
  obtain ⟨p4, t4⟩ := good_mtext bs 1024 _ i0 p3 hc
  refine ⟨p4, t4.trans ?_⟩
  rw [t3, t2, t1]
  show _ = bs.take s.p ++ ((mKeyT bs s).1 ++ varB (mEachT (mKeyT bs) bs (mKeyT bs s).2 127).1.length ++ (mEachT (mKeyT bs) bs (mKeyT bs s).2 127).1.flatten ++ fixB 8 (IntKind.u64.wrap (mI64 bs (mEachT (mKeyT bs) bs (mKeyT bs s).2 127).2).1).toNat ++ (varB (mText bs (mI64 bs (mEachT (mKeyT bs) bs (mKeyT bs s).2 127).2).2 1024).1.length ++ (mText bs (mI64 bs (mEachT (mKeyT bs) bs (mKeyT bs s).2 127).2).2 1024).1))
  simp only [List.append_assoc, id, List.map_id_fun]
theorem layK_1 (o : ObjR) (h : o.kind = 1) : layO o = fixB 1 1 ++ o.data := by unfold layO; rw [if_pos h, h]
theorem layK_2 (o : ObjR) (h : o.kind = 2) : layO o = fixB 1 2 ++ (varB o.parts.length ++ (o.parts.map partB).flatten) := by unfold layO; rw [if_neg (by omega), if_pos h, h]
theorem layK_3 (o : ObjR) (h : o.kind = 3) : layO o = fixB 1 3 ++ (varB o.items.length ++ (o.items.map itemB).flatten) := by unfold layO; rw [if_neg (by omega), if_neg (by omega), if_pos h, h]
theorem layK_4 (o : ObjR) (h : o.kind = 4) : layO o = fixB 1 4 ++ (o.tree ++ varB o.parents.length ++ o.parents.flatten ++ fixB 8 (timeN o) ++ (varB o.note.length ++ o.note)) := by unfold layO; rw [if_neg (by omega), if_neg (by omega), if_neg (by omega), if_pos h, h]
theorem obj_back (bs : List UInt8) (k : Nat) (hk : 1 ≤ k ∧ k ≤ 4) (hm : (mByte bs sZ0).1 = k) (hc : (mObj bs k (mByte bs sZ0).2).2.code = 0) (hp : ¬ (mObj bs k (mByte bs sZ0).2).2.p < bs.length) : layO (mObj bs k (mByte bs sZ0).2).1 = bs ∧ ((mObj bs k (mByte bs sZ0).2).1.data.length = 0 ∨ k = 1) := by
  rcases (show k = 1 ∨ k = 2 ∨ k = 3 ∨ k = 4 by omega) with rfl | rfl | rfl | rfl
  · exact ⟨(layK_1 _ rfl).trans (lay_of bs (mBlob bs) _ 1 (good_blob bs) (stp_blob bs) hm hc hp), .inr rfl⟩
  · exact ⟨(layK_2 _ rfl).trans (lay_of bs (mList bs) _ 2 (good_mlist bs) (stp_mlist bs) hm hc hp), .inl rfl⟩
  · exact ⟨(layK_3 _ rfl).trans (lay_of bs (mTree bs) _ 3 (good_mtree bs) (stp_mtree bs) hm hc hp), .inl rfl⟩
  · have e4 : ∀ s, mObj bs 4 s = mSnap bs s := fun s => by unfold mObj; rw [if_neg (by decide), if_neg (by decide), if_neg (by decide)]
    rw [e4] at hc hp ⊢
    have hk4 : ∀ s, (mSnap bs s).1.kind = 4 := fun s => by unfold mSnap; rfl
    have hd4 : ∀ s, (mSnap bs s).1.data.length = 0 := fun s => by unfold mSnap; rfl
    have h := lay_of bs (mSnap bs) (fun o => o.tree ++ varB o.parents.length ++ o.parents.flatten ++ fixB 8 (timeN o) ++ (varB o.note.length ++ o.note)) 4 (good_msnap bs) (stp_msnap bs) hm hc hp
    generalize hM : mSnap bs (mByte bs sZ0).2 = M at h ⊢
    have hk : M.1.kind = 4 := by rw [← hM]; exact hk4 _
    have hd : M.1.data.length = 0 := by rw [← hM]; exact hd4 _
    exact ⟨(layK_4 M.1 hk).trans h, .inl hd⟩
/-- What is decoded is encoded again. -/
theorem dec_back {bs : List UInt8} (h : (decO bs).1 = 0) : checkO (decO bs).2 = 0 ∧ layO (decO bs).2 = bs := by
  unfold decO at h ⊢
  split at h
  · exact absurd h (by decide)
  · rename_i h8
    rw [if_neg h8]
    split at h
    · exact absurd h (by decide)
    · rename_i hk
      rw [if_neg hk]
      split at h
      · exact absurd h (by decide)
      · rename_i hc
        rw [if_neg hc]
        split at h
        · exact absurd h (by decide)
        · rename_i hw
          rw [if_neg hw]
          obtain ⟨e1, e2⟩ := obj_back bs (mByte bs sZ0).1 (by omega) rfl (by omega) (by omega)
          refine ⟨?_, e1⟩
          simp only []
          unfold checkO
          rw [if_neg hw, if_neg]
          intro hh
          rw [e1] at hh
          rcases e2 with e2 | e2
          · omega
          · rw [e2] at hh e1
            have el := layK_1 (mObj bs 1 (mByte bs sZ0).2).1 rfl
            have := congrArg List.length (el.symm.trans e1)
            rw [List.length_append, fixB_len] at this
            omega
end Go.Proofs.YtjcfndiceinkjabDoor

/- What was laid is taken off, and what is taken off lays to what stood there. -/
namespace Go.Proofs.YtjcfndiceinkjabDoor
set_option linter.unusedVariables false
set_option linter.unusedSimpArgs false
open Go.RowKit

theorem pow10x (v i : Nat) (h : v * 128 ^ i ≤ 18446744073709551615) : v / 128 * 128 ^ (i + 1) ≤ 18446744073709551615 := by
  have h1 : v / 128 * 128 ≤ v := Nat.div_mul_le_self v 128
  rw [Nat.pow_succ, Nat.mul_comm (128 ^ i) 128, ← Nat.mul_assoc]
  exact Nat.le_trans (Nat.mul_le_mul_right _ h1) h
theorem firstGo_var : ∀ (n v acc i : Nat) (r : List UInt8), i + n = 9 → v * 128 ^ i ≤ 18446744073709551615 → (0 < v ∨ i = 0) → firstGo acc i (varGo n v ++ r) = (acc + v * 128 ^ i, i + (varGo n v).length, 0)
  | 0, v, acc, i, r, hi, hv, h0 => by
    obtain rfl : i = 9 := by omega
    have h9 : (128 : Nat) ^ 9 = 9223372036854775808 := by decide
    have hv1 : v ≤ 1 := by rw [h9] at hv; omega
    have hc : (UInt8.ofNat v).toNat = v := by simp; omega
    simp only [varGo, List.cons_append, List.nil_append]
    rw [first_end _ _ _ _ (by rw [hc]; intro _; exact hv1) (by rw [hc]; omega) (by rw [hc]; omega), hc, Nat.mod_eq_of_lt (by omega)]
    rfl
  | n + 1, v, acc, i, r, hi, hv, h0 => by
    rw [varGo]
    split
    · rename_i hlt
      have hc : (UInt8.ofNat v).toNat = v := by simp; omega
      simp only [List.cons_append, List.nil_append]
      rw [first_end _ _ _ _ (by omega) (by rw [hc]; omega) (by rw [hc]; omega), hc, Nat.mod_eq_of_lt hlt]
      rfl
    · rename_i hge
      have hc : (UInt8.ofNat (v % 128 + 128)).toNat = v % 128 + 128 := by simp; omega
      rw [List.cons_append, first_moreV _ _ _ _ (by omega) (by rw [hc]; omega), hc, firstGo_var n (v / 128) _ (i + 1) r (by omega) (pow10x v i hv) (.inl (by omega)), List.length_cons]
      have e : v % 128 * 128 ^ i + v / 128 * 128 ^ (i + 1) = v * 128 ^ i := by
        rw [Nat.pow_succ, Nat.mul_comm (128 ^ i) 128, ← Nat.mul_assoc, ← Nat.add_mul]
        congr 1
        omega
      refine Prod.ext ?_ (Prod.ext ?_ rfl)
      · simp only []
        rw [show (v % 128 + 128) % 128 = v % 128 by omega]
        omega
      · simp only []
        omega
theorem first_varB (v : Nat) (hv : v ≤ 18446744073709551615) (r : List UInt8) : firstGo 0 0 (varB v ++ r) = (v, (varB v).length, 0) := by
  unfold varB
  rw [firstGo_var 9 v 0 0 r rfl (by omega) (.inr rfl)]
  simp
/-- A Dec without a fault that stands at n. -/
def stN (n : Nat) : S := ⟨n, 0, 0⟩
theorem mNum_at (l r : List UInt8) (v most : Nat) (hv : v ≤ 18446744073709551615) (hm : v ≤ most) : mNum (l ++ (varB v ++ r)) (stN l.length) most = (v, true, stN (l.length + (varB v).length)) := by
  unfold mNum
  rw [if_neg (by simp [stN])]
  have e : (l ++ (varB v ++ r)).drop (stN l.length).p = varB v ++ r := by simp [stN]
  rw [e, first_varB v hv r, if_neg (by simp), if_neg (by simp; omega)]
  rfl
theorem mNext_at (l ys r : List UInt8) (a k : Nat) (hk : ys.length = k) : mNext (l ++ (ys ++ r)) (stN l.length) a k = (some ys, stN (l.length + k)) := by
  subst hk
  unfold mNext
  rw [if_neg (by simp [stN]), if_neg (by simp [stN])]
  simp [stN]
/-- T takes x off where L stands, and stands behind it. -/
def At {α : Type} (T : List UInt8 → S → α × S) (x : α) (L : List UInt8) : Prop := ∀ l r, T (l ++ (L ++ r)) (stN l.length) = (x, stN (l ++ L).length)
theorem at_num (v most : Nat) (hv : v ≤ 18446744073709551615) (hm : v ≤ most) : At (fun bs s => ((mNum bs s most).1, (mNum bs s most).2.2)) v (varB v) := fun l r => by
  simp only []
  rw [mNum_at l r v most hv hm, List.length_append]
theorem at_key (k : List UInt8) (hk : k.length = 32) : At mKeyT k k := fun l r => by
  unfold mKeyT
  rw [mNext_at l k r _ 32 hk, List.length_append, hk]
  rfl
theorem le_fix : ∀ (n v : Nat), v < 256 ^ n → leNat (fixB n v) = v
  | 0, v, h => by simp at h; subst h; rfl
  | n + 1, v, h => by
    rw [Nat.pow_succ] at h
    rw [fixB, leNat, le_fix n (v / 256) (by omega)]
    have : (UInt8.ofNat v).toNat = v % 256 := by simp
    rw [this]
    omega
theorem at_byte (b : Nat) (hb : b < 256) : At mByte b (fixB 1 b) := fun l r => by
  unfold mByte
  rw [mNext_at l (fixB 1 b) r _ 1 (fixB_len 1 b), List.length_append, fixB_len, Option.getD_some, le_fix 1 b (by omega)]
/-- Two behind one another. -/
theorem At.two {α β : Type} {T : List UInt8 → S → α × S} {U : List UInt8 → S → β × S} {x : α} {y : β} {L M : List UInt8} (h : At T x L) (g : At U y M) (l r : List UInt8) : T (l ++ (L ++ M ++ r)) (stN l.length) = (x, stN (l ++ L).length) ∧ U (l ++ (L ++ M ++ r)) (stN (l ++ L).length) = (y, stN (l ++ (L ++ M)).length) := by
  constructor
  · rw [List.append_assoc]
    exact h l (M ++ r)
  · have := g (l ++ L) r
    rw [show l ++ (L ++ M ++ r) = l ++ L ++ (M ++ r) by simp only [List.append_assoc], this, List.append_assoc]
theorem at_part (p : PartR) (h : p.1.length = 32) (hm : p.2 ≤ 9223372036854775807) : At mPart p (partB p) := fun l r => by
  obtain ⟨h1, h2⟩ := (at_key p.1 h).two (at_num p.2 9223372036854775807 (by omega) hm) l r
  unfold mPart partB
  rw [h1]
  simp only [] at h2 ⊢
  rw [Prod.mk.injEq] at h2
  rw [h2.1, h2.2]
theorem at_text (t : List UInt8) (most : Nat) (hm : t.length ≤ most) (hl : t.length ≤ 18446744073709551615) : At (fun bs s => mText bs s most) t (varB t.length ++ t) := fun l r => by
  simp only []
  unfold mText
  rw [show l ++ (varB t.length ++ t ++ r) = l ++ (varB t.length ++ (t ++ r)) by simp only [List.append_assoc], mNum_at l (t ++ r) t.length most hl hm]
  simp only [if_true]
  have := mNext_at (l ++ varB t.length) t r (mPlace (stN l.length)) t.length rfl
  rw [List.append_assoc, List.length_append] at this
  rw [this]
  simp [Nat.add_assoc]
theorem at_item (i : ItemR) (h : i.2.2.2.length = 32) (hn : i.1.length ≤ 64) (hm : i.2.1 ≤ 255) (hs : i.2.2.1 ≤ 18446744073709551615) : At mItem i (itemB i) := fun l r => by
  have a1 := at_text i.1 64 hn (by omega)
  have a2 := at_byte i.2.1 (by omega)
  have a3 := at_num i.2.2.1 18446744073709551615 hs hs
  have a4 := at_key i.2.2.2 h
  have e1 := a1 l (fixB 1 i.2.1 ++ (varB i.2.2.1 ++ (i.2.2.2 ++ r)))
  have e2 := a2 (l ++ (varB i.1.length ++ i.1)) (varB i.2.2.1 ++ (i.2.2.2 ++ r))
  have e3 := a3 (l ++ (varB i.1.length ++ i.1) ++ fixB 1 i.2.1) (i.2.2.2 ++ r)
  have e4 := a4 (l ++ (varB i.1.length ++ i.1) ++ fixB 1 i.2.1 ++ varB i.2.2.1) r
  simp only [List.append_assoc] at e1 e2 e3 e4
  rw [Prod.mk.injEq] at e3
  unfold mItem itemB
  simp only [List.append_assoc]
  rw [e1]
  simp only []
  rw [e2]
  simp only []
  rw [e3.1, e3.2, e4]
theorem at_each {α : Type} (T : List UInt8 → S → α × S) (L : α → List UInt8) : ∀ (xs : List α), (∀ x ∈ xs, At T x (L x)) → ∀ (l r : List UInt8) (acc : List α), eachT (T (l ++ ((xs.map L).flatten ++ r))) xs.length (stN l.length) acc = (acc ++ xs, stN (l ++ (xs.map L).flatten).length)
  | [], _, l, r, acc => by simp [eachT]
  | x :: xs, h, l, r, acc => by
    rw [List.length_cons, eachT, if_neg (by simp [stN])]
    have e : l ++ (((x :: xs).map L).flatten ++ r) = l ++ (L x ++ ((xs.map L).flatten ++ r)) := by simp
    rw [e, h x (by simp) l ((xs.map L).flatten ++ r)]
    have := at_each T L xs (fun y hy => h y (by simp [hy])) (l ++ L x) r (acc ++ [x])
    simp only [List.append_assoc] at this
    simp only []
    rw [this]
    simp
theorem at_mEach {α : Type} (T : List UInt8 → S → α × S) (L : α → List UInt8) (xs : List α) (most : Nat) (hm : xs.length ≤ most) (hl : xs.length ≤ 18446744073709551615) (h : ∀ x ∈ xs, At T x (L x)) : At (fun bs s => mEachT (T bs) bs s most) xs (varB xs.length ++ (xs.map L).flatten) := fun l r => by
  have e1 := mNum_at l ((xs.map L).flatten ++ r) xs.length most hl hm
  have e2 := at_each T L xs h (l ++ varB xs.length) r []
  simp only [List.append_assoc] at e2 ⊢
  unfold mEachT
  rw [e1]
  simp only []
  rw [← List.length_append, e2]
  simp [stN]
theorem wf_i64 (t : Int) (h : -9223372036854775808 ≤ t ∧ t ≤ 9223372036854775807) : IntKind.i64.wrap (((IntKind.u64.wrap t).toNat : Nat) : Int) = t ∧ (IntKind.u64.wrap t).toNat < 18446744073709551616 := by
  simp only [IntKind.wrap_i64, IntKind.wrap_u64]
  omega
theorem at_i64 (t : Int) (h : -9223372036854775808 ≤ t ∧ t ≤ 9223372036854775807) : At mI64 t (fixB 8 (IntKind.u64.wrap t).toNat) := fun l r => by
  obtain ⟨h1, h2⟩ := wf_i64 t h
  unfold mI64
  rw [mNext_at l (fixB 8 (IntKind.u64.wrap t).toNat) r _ 8 (fixB_len 8 _), List.length_append, fixB_len, Option.getD_some, le_fix 8 _ (by omega), h1]
theorem tot_le : ∀ (L : List Nat) (m : Nat), tot L m = true → ∀ x ∈ L, x ≤ m
  | [], m, h, x, hx => by simp at hx
  | a :: L, m, h, x, hx => by
    rw [tot] at h
    split at h
    · exact absurd h (by simp)
    · rcases List.mem_cons.1 hx with rfl | hx
      · omega
      · have := tot_le L _ h x hx
        omega
theorem list_le {L : List PartR} (h : wrongListO L = 0) : ∀ p ∈ L, p.2 ≤ 9223372036854775807 := by
  unfold wrongListO at h
  split at h
  · exact absurd h (by decide)
  · split at h
    · rename_i ht
      exact fun p hp => tot_le _ _ ht p.2 (List.mem_map.2 ⟨p, hp, rfl⟩)
    · exact absurd h (by decide)
theorem snap_le {ps : List (List UInt8)} {note : List UInt8} (h : wrongSnapO ps note = 0) : ps.length ≤ 127 := by
  unfold wrongSnapO at h
  split at h
  · exact absurd h (by decide)
  · omega
theorem time_le {o : ObjR} (h : TxtSz o) : -9223372036854775808 ≤ o.time ∧ o.time ≤ 9223372036854775807 := by
  have := h.w
  simpa [Lit.wf, IntKind.min, IntKind.max, IntKind.signed, IntKind.bits] using this
theorem at_0 {α : Type} {T : List UInt8 → S → α × S} {x : α} {L : List UInt8} (h : At T x L) (k : Nat) (hk : k < 256) (r : List UInt8) : (mByte (fixB 1 k ++ L ++ r) sZ0).1 = k ∧ T (fixB 1 k ++ L ++ r) (mByte (fixB 1 k ++ L ++ r) sZ0).2 = (x, stN (fixB 1 k ++ L).length) := by
  have e1 := at_byte k hk [] (L ++ r)
  have e2 := h (fixB 1 k) r
  rw [List.nil_append, List.nil_append, ← List.append_assoc] at e1
  rw [← List.append_assoc] at e2
  have e0 : stN ([] : List UInt8).length = sZ0 := rfl
  rw [e0] at e1
  rw [e1]
  exact ⟨rfl, e2⟩
theorem mObj_1 (bs : List UInt8) (s : S) : mObj bs 1 s = mBlob bs s := rfl
theorem mObj_2 (bs : List UInt8) (s : S) : mObj bs 2 s = mList bs s := rfl
theorem mObj_3 (bs : List UInt8) (s : S) : mObj bs 3 s = mTree bs s := rfl
theorem mObj_4 (bs : List UInt8) (s : S) : mObj bs 4 s = mSnap bs s := rfl
/-- Laid, with something behind it: the kind and the object are taken off. -/
def Took (o : ObjR) (r : List UInt8) : Prop := (mByte (layO o ++ r) sZ0).1 = o.kind ∧ mObj (layO o ++ r) o.kind (mByte (layO o ++ r) sZ0).2 = (o, stN (layO o).length)
theorem took_1 {o : ObjR} (h : wrongO o = 0) (hk : o.kind = 1) : Took o [] := by
  have eo := obj_1 h hk
  have el : layO o = fixB 1 1 ++ o.data := by unfold layO; rw [if_pos hk, hk]
  have e1 := at_byte 1 (by decide) [] o.data
  rw [List.nil_append, List.nil_append] at e1
  have e0 : stN ([] : List UInt8).length = sZ0 := rfl
  rw [e0] at e1
  have e2 := mNext_at (fixB 1 1) o.data [] (mPlace (stN (fixB 1 1).length)) o.data.length rfl
  rw [List.append_nil] at e2
  have e3 : mLeft (fixB 1 1 ++ o.data) (stN (fixB 1 1).length) = o.data.length := by simp [mLeft, stN]
  unfold Took
  rw [List.append_nil, el, hk, e1]
  refine ⟨rfl, ?_⟩
  rw [mObj_1]
  unfold mBlob
  simp only []
  rw [e3, e2]
  simp only [Option.getD_some]
  conv => rhs; rw [eo]
  rw [List.length_append]
  rfl
theorem took_2 {o : ObjR} (h : wrongO o = 0) (ho : ObjOk o) (hk : o.kind = 2) (r : List UInt8) : Took o r := by
  have eo := obj_2 h hk
  have hw := wrong_list h hk
  have el : layO o = fixB 1 2 ++ (varB o.parts.length ++ (o.parts.map partB).flatten) := by unfold layO; rw [if_neg (by omega), if_pos hk, hk]
  have hp := at_mEach mPart partB o.parts 128 (list_few hw) (by have := list_few hw; omega) (fun p hp => at_part p (ho.p p hp) (list_le hw p hp))
  obtain ⟨e1, e2⟩ := at_0 hp 2 (by decide) r
  unfold Took
  rw [el, hk]
  refine ⟨e1, ?_⟩
  rw [mObj_2]
  unfold mList
  rw [e2]
  simp only []
  conv => rhs; rw [eo]
  rfl
theorem took_3 {o : ObjR} (h : wrongO o = 0) (ho : ObjOk o) (ht : TxtSz o) (hk : o.kind = 3) (r : List UInt8) : Took o r := by
  have eo := obj_3 h hk
  have hw := wrong_tree h hk
  have el : layO o = fixB 1 3 ++ (varB o.items.length ++ (o.items.map itemB).flatten) := by unfold layO; rw [if_neg (by omega), if_neg (by omega), if_pos hk, hk]
  have hp := at_mEach mItem itemB o.items 128 (tree_few hw).1 (by have := (tree_few hw).1; omega) (fun p hp => at_item p (ho.i p hp) ((tree_few hw).2 p hp) (ht.m p hp) (ht.s p hp))
  obtain ⟨e1, e2⟩ := at_0 hp 3 (by decide) r
  unfold Took
  rw [el, hk]
  refine ⟨e1, ?_⟩
  rw [mObj_3]
  unfold mTree
  rw [e2]
  simp only []
  conv => rhs; rw [eo]
  rfl
theorem took_4 {o : ObjR} (h : wrongO o = 0) (ho : ObjOk o) (ht : TxtSz o) (hk : o.kind = 4) (r : List UInt8) : Took o r := by
  have eo := obj_4 h hk
  have hw := wrong_snap h hk
  have hf := snap_few hw
  have a1 := at_key o.tree ho.t
  have a2 := at_mEach mKeyT id o.parents 127 (snap_le hw) (by omega) (fun p hp => at_key p (ho.k p hp))
  have a3 := at_i64 o.time (time_le ht)
  have a4 := at_text o.note 1024 hf.2 (by omega)
  rw [List.map_id] at a2
  have el : layO o = fixB 1 4 ++ (o.tree ++ (varB o.parents.length ++ o.parents.flatten ++ (fixB 8 (IntKind.u64.wrap o.time).toNat ++ (varB o.note.length ++ o.note)))) := by
    unfold layO
    rw [if_neg (by omega), if_neg (by omega), if_neg (by omega), if_pos hk, hk]
    simp only [List.append_assoc]
    rfl
  have e1 := at_byte 4 (by decide) [] (o.tree ++ (varB o.parents.length ++ o.parents.flatten ++ (fixB 8 (IntKind.u64.wrap o.time).toNat ++ (varB o.note.length ++ o.note))) ++ r)
  rw [List.nil_append, List.nil_append, ← List.append_assoc] at e1
  have e0 : stN ([] : List UInt8).length = sZ0 := rfl
  rw [e0] at e1
  generalize fixB 1 4 = f4 at *
  have b1 := a1 f4 (varB o.parents.length ++ o.parents.flatten ++ (fixB 8 (IntKind.u64.wrap o.time).toNat ++ (varB o.note.length ++ o.note)) ++ r)
  have b2 := a2 (f4 ++ o.tree) (fixB 8 (IntKind.u64.wrap o.time).toNat ++ (varB o.note.length ++ o.note) ++ r)
  have b3 := a3 (f4 ++ o.tree ++ (varB o.parents.length ++ o.parents.flatten)) (varB o.note.length ++ o.note ++ r)
  have b4 := a4 (f4 ++ o.tree ++ (varB o.parents.length ++ o.parents.flatten) ++ fixB 8 (IntKind.u64.wrap o.time).toNat) r
  simp only [List.append_assoc] at b1 b2 b3 b4 e1
  unfold Took
  rw [el, hk]
  simp only [List.append_assoc]
  rw [e1]
  refine ⟨rfl, ?_⟩
  rw [mObj_4]
  unfold mSnap
  simp only []
  rw [b1]
  simp only []
  rw [b2]
  simp only []
  rw [b3]
  simp only []
  rw [b4]
  simp only []
  conv => rhs; rw [eo]
  rfl
/-- What was laid is decoded. -/
theorem dec_lay {o : ObjR} (h : checkO o = 0) (ho : ObjOk o) (ht : TxtSz o) : decO (layO o) = (0, o) := by
  obtain ⟨hl, hw, _⟩ := lay_le h
  obtain ⟨k1, k4⟩ := wrong_kind hw
  have ht' : Took o [] := by
    rcases (show o.kind = 1 ∨ o.kind = 2 ∨ o.kind = 3 ∨ o.kind = 4 by omega) with e | e | e | e
    · exact took_1 hw e
    · exact took_2 hw ho e []
    · exact took_3 hw ho ht e []
    · exact took_4 hw ho ht e []
  obtain ⟨e1, e2⟩ := ht'
  rw [List.append_nil] at e1 e2
  unfold decO
  rw [if_neg (by omega), e1, e2, if_neg (by omega), if_neg (by simp [stN]), if_neg (by simpa using hw)]
/-- A byte more is no encoding of a list, a tree or a snapshot. -/
theorem dec_longer {o : ObjR} (h : checkO o = 0) (ho : ObjOk o) (ht : TxtSz o) (hk : 1 < o.kind) : (decO (layO o ++ [0])).1 ≠ 0 := by
  obtain ⟨hl, hw, _⟩ := lay_le h
  obtain ⟨k1, k4⟩ := wrong_kind hw
  have ht' : Took o [0] := by
    rcases (show o.kind = 2 ∨ o.kind = 3 ∨ o.kind = 4 by omega) with e | e | e
    · exact took_2 hw ho e _
    · exact took_3 hw ho ht e _
    · exact took_4 hw ho ht e _
  obtain ⟨e1, e2⟩ := ht'
  unfold decO
  by_cases hb : 8192 < (layO o ++ [0]).length
  · rw [if_pos hb]
    decide
  · rw [if_neg hb, e1, e2, if_neg (by omega), if_pos (by simp [stN])]
    decide
end Go.Proofs.YtjcfndiceinkjabDoor
