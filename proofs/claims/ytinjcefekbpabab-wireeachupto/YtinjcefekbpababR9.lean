/- Both machines stand alike; stands and ends. -/
import Derived.Test.YtinjcefekbpababR8
namespace Go.Proofs.Ytinjcefekbpabab
set_option linter.unusedVariables false
set_option linter.unusedSimpArgs false
open Go.RowKit

/-- Two states that show alike. -/
def Eqv (s r : S) : Prop := s.code = r.code ∧ (s.code = 0 → s = r) ∧ (s.code ≠ 0 → s.fat = r.fat)
theorem Eqv.refl (s : S) : Eqv s s := ⟨rfl, fun _ => rfl, fun _ => rfl⟩

/-- The document's take, by the plain machine. -/
def rTake (bs : List UInt8) (s : S) (kind : Int) (most : Nat) (n : Int) : Int × List UInt8 × S :=
  if kind = 2 then (0, (rText bs s n.toNat).1, (rText bs s n.toNat).2) else mTake bs s kind most n

theorem mNum_ok (bs : List UInt8) (s : S) (most : Nat) (h : s.code = 0) : ((mNum bs s most).2.1 = true ∧ (mNum bs s most).2.2.code = 0 ∧ (mNum bs s most).2.2.fat = s.fat) ∨ ((mNum bs s most).2.1 = false ∧ (mNum bs s most).2.2.code ≠ 0) := by
  unfold mNum
  rw [if_neg (by omega)]
  split
  · right; exact ⟨rfl, by assumption⟩
  · split
    · right; exact ⟨rfl, by simp⟩
    · left; exact ⟨rfl, h, rfl⟩
theorem mNum_stop (bs : List UInt8) (s : S) (most : Nat) (h : s.code ≠ 0) : mNum bs s most = (0, false, s) := by unfold mNum; rw [if_pos h]
theorem mNext_stop (bs : List UInt8) (s : S) (a k : Nat) (h : s.code ≠ 0) : mNext bs s a k = (none, s) := by unfold mNext; rw [if_pos h]
theorem mNext_short (bs : List UInt8) (s : S) (a k : Nat) (h : s.code = 0) (hl : bs.length < s.p + k) : mNext bs s a k = (none, { s with fat := a, code := 10 }) := by unfold mNext; rw [if_neg (by omega), if_pos hl]
theorem mNext_goes (bs : List UInt8) (s : S) (a k : Nat) (h : s.code = 0) (hl : ¬ bs.length < s.p + k) : mNext bs s a k = (some ((bs.drop s.p).take k), { s with p := s.p + k }) := by unfold mNext; rw [if_neg (by omega), if_neg hl]
theorem text_alike (bs : List UInt8) (s : S) (m : Nat) (h : s.code = 0) : (mText bs s m).1 = (rText bs s m).1 ∧ Eqv (mText bs s m).2 (rText bs s m).2 := by
  unfold mText rText
  rw [if_neg (show ¬ s.code ≠ 0 by omega)]
  have hp : mPlace s = s.p := by unfold mPlace; rw [if_neg (by omega)]
  rw [hp]
  rcases mNum_ok bs s m h with ⟨h1, h2, _⟩ | ⟨h1, h2⟩
  · rw [h1, if_pos rfl, if_neg (by omega)]
    generalize (mNum bs s m).2.2 = s1 at h2
    generalize (mNum bs s m).1 = v
    have hp1 : mPlace s1 = s1.p := by unfold mPlace; rw [if_neg (by omega)]
    rw [hp1]
    by_cases hl : bs.length < s1.p + v
    · rw [mNext_short bs s1 _ v h2 hl, mNext_short bs s1 _ v h2 hl]
      simp [Eqv]
    · rw [mNext_goes bs s1 _ v h2 hl, mNext_goes bs s1 _ v h2 hl]
      simp only [h2, ne_eq, not_true_eq_false, if_false]
      exact ⟨trivial, Eqv.refl _⟩
  · rw [h1, if_neg (by simp), if_pos h2]
    exact ⟨rfl, Eqv.refl _⟩
theorem mText_stop (bs : List UInt8) (s : S) (m : Nat) (h : s.code ≠ 0) : mText bs s m = ([], s) := by
  unfold mText; rw [mNum_stop bs s m h]; rfl
theorem mEach_stop (bs : List UInt8) (s : S) (m : Nat) (h : s.code ≠ 0) : mEach bs s m = ([], s) := by
  have e : eachGo bs (mNum bs s m).1 (mNum bs s m).2.2 [] = ([], s) := by rw [mNum_stop bs s m h]; rfl
  unfold mEach
  rw [e]
  exact if_pos h
theorem ite_ok {α : Type} (P : α → Prop) {c : Prop} [Decidable c] {a b : α} (ha : P a) (hb : P b) : P (if c then a else b) := by split <;> assumption
theorem ite_ok2 {α : Type} (R : α → α → Prop) {c : Prop} [Decidable c] {a b a' b' : α} (ha : R a a') (hb : R b b') : R (if c then a else b) (if c then a' else b') := by split <;> assumption
theorem mTake_stop (bs : List UInt8) (s : S) (kind : Int) (most : Nat) (n : Int) (h : s.code ≠ 0) : (mTake bs s kind most n).2.2 = s ∧ ∀ r : S, r.code ≠ 0 → (mTake bs s kind most n).1 = (mTake bs r kind most n).1 ∧ (mTake bs s kind most n).2.1 = (mTake bs r kind most n).2.1 := by
  refine ⟨?_, fun r hr => ?_⟩
  · unfold mTake
    simp only [mNum_stop bs s _ h, mNext_stop bs s _ _ h, mText_stop bs s _ h, mEach_stop bs s _ h]
    repeat' (refine ite_ok (fun x : Int × List UInt8 × S => x.2.2 = s) ?_ ?_)
    all_goals rfl
  · unfold mTake
    simp only [mNum_stop bs s _ h, mNext_stop bs s _ _ h, mText_stop bs s _ h, mEach_stop bs s _ h, mNum_stop bs r _ hr, mNext_stop bs r _ _ hr, mText_stop bs r _ hr, mEach_stop bs r _ hr]
    repeat' (refine ite_ok2 (fun x x' : Int × List UInt8 × S => x.1 = x'.1 ∧ x.2.1 = x'.2.1) ?_ ?_)
    all_goals exact ⟨rfl, rfl⟩
theorem take_alike (bs : List UInt8) (s r : S) (kind : Int) (most : Nat) (n : Int) (h : Eqv s r) :
    (mTake bs s kind most n).1 = (rTake bs r kind most n).1 ∧ (mTake bs s kind most n).2.1 = (rTake bs r kind most n).2.1 ∧ Eqv (mTake bs s kind most n).2.2 (rTake bs r kind most n).2.2 := by
  by_cases hc : s.code = 0
  · obtain rfl := h.2.1 hc
    unfold rTake
    by_cases h2 : kind = 2
    · subst h2
      rw [if_pos rfl]
      have := text_alike bs s n.toNat hc
      exact ⟨rfl, this.1, this.2⟩
    · rw [if_neg h2]
      exact ⟨rfl, rfl, Eqv.refl _⟩
  · have hr : r.code ≠ 0 := by have := h.1; omega
    have h1 := mTake_stop bs s kind most n hc
    have h2 := mTake_stop bs r kind most n hr
    have h3 := h1.2 r hr
    unfold rTake
    by_cases hk : kind = 2
    · subst hk
      rw [if_pos rfl, h1.1]
      have e : rText bs r n.toNat = ([], r) := by unfold rText; rw [if_pos hr]
      have e2 : mTake bs s 2 most n = (0, [], s) := by unfold mTake; rw [if_neg (by decide), if_pos rfl, mText_stop bs s _ hc]
      rw [e, e2]
      exact ⟨rfl, rfl, h⟩
    · rw [if_neg hk, h1.1, h2.1]
      exact ⟨h3.1, h3.2, h⟩

theorem place_alike {s r : S} (h : Eqv s r) : mPlace s = mPlace r := by
  unfold mPlace
  by_cases hc : s.code = 0
  · obtain rfl := h.2.1 hc; rfl
  · rw [if_pos hc, if_pos (by have := h.1; omega)]; exact h.2.2 hc
theorem left_alike {bs : List UInt8} {s r : S} (h : Eqv s r) : mLeft bs s = mLeft bs r := by
  unfold mLeft
  by_cases hc : s.code = 0
  · obtain rfl := h.2.1 hc; rfl
  · rw [if_pos hc, if_pos (by have := h.1; omega)]
/-- What End answers, by what the document's End answers. -/
theorem end_alike {bs : List UInt8} {s r : S} (h : Eqv s r) : ((rEndV bs r).2 = 0 ∧ endV bs s = .nilIface) ∨ ((rEndV bs r).2 ≠ 0 ∧ endV bs s = .iface 41 (.agg #[.int .i64 (rEndV bs r).1, .int .i64 (rEndV bs r).2])) := by
  by_cases hc : s.code = 0
  · obtain rfl := h.2.1 hc
    by_cases hp : s.p < bs.length
    · have e1 : rEndV bs s = (s.p, 13) := by unfold rEndV; rw [if_neg (by omega), if_pos hp]
      have e2 : endV bs s = .iface 41 (.agg #[.int .i64 s.p, .int .i64 13]) := by unfold endV; rw [if_neg (by omega), if_pos hp]
      rw [e1, e2]; right; exact ⟨by simp, rfl⟩
    · have e1 : rEndV bs s = (0, 0) := by unfold rEndV; rw [if_neg (by omega), if_neg hp]
      have e2 : endV bs s = .nilIface := by unfold endV; rw [if_neg (by omega), if_neg hp]
      rw [e1, e2]; left; exact ⟨rfl, rfl⟩
  · have e1 : rEndV bs r = (r.fat, r.code) := by unfold rEndV; rw [if_pos (by have := h.1; omega)]
    have e2 : endV bs s = .iface 41 (.agg #[.int .i64 s.fat, .int .i64 s.code]) := by unfold endV; rw [if_pos hc]
    rw [e1, e2, h.1, h.2.2 hc]
    right
    exact ⟨by have := h.1; simp only []; omega, rfl⟩

theorem isFault (v : Value) (w : World) : (Instr.typeAssert (.iface 41 v) 44 41 true).run Try.prog w = .ok (.tuple #[v, .bool true]) w := by kernel_rfl

set_option maxRecDepth 20000 in
set_option maxHeartbeats 800000 in
theorem ends_st (w : World) (z : Nat) (sv : Value) (y : Nat) (rv : Value) (bs : List UInt8) (s r : S) (hD : DecSt w z sv bs s) (hR : RefSt w y rv bs r) (h : Eqv s r) :
    Calls Try.prog 31 #[.pointer (some ⟨z, 0, none⟩), .pointer (some ⟨y, 0, none⟩)] w fun e w' => e = .returned (.bool true) ∧ Below w.heap.size w w' := by
  have HE := hide (fun W hW => rend_st W y rv bs r hW)
  have HW := hide (fun W hW => end_st W z sv bs s hW)
  have hal := end_alike (bs := bs) h
  have HD := hide hD
  have HR := hide hR
  clear hD hR h
  generalize rEndV bs r = q at HE hal
  obtain ⟨qa, qc⟩ := q
  simp only [] at hal
  generalize endV bs s = ev at HW hal
  rcases hal with ⟨hq, he⟩ | ⟨hq, he⟩
  · subst hq; subst he
    go_enter Try.func31, Try.ntmps31
    go_wp2_with fail
    refine (HE.out _ HR.out).mono ?_
    rintro e w' ⟨rfl, m, rfl⟩
    go_wp2_with fail
    refine (HW.out _ (by exact HD.out)).mono ?_
    rintro e w' ⟨rfl, m2, rfl⟩
    go_wp2
    go_ret
    exact ⟨rfl, rfl, rfl, rfl, Nat.le_refl _, fun _ _ => rfl⟩
  · subst he
    have hta := isFault
    have hqb : ((qc : Int) == 0) = false := by rw [beq_eq_false_iff_ne]; omega
    go_enter Try.func31, Try.ntmps31
    go_wp2_with fail
    refine (HE.out _ HR.out).mono ?_
    rintro e w' ⟨rfl, m, rfl⟩
    go_wp2_with fail
    refine (HW.out _ (by exact HD.out)).mono ?_
    rintro e w2 ⟨rfl, m2, hw2⟩
    have H2 := hide hw2
    clear hw2
    go_wp2
    go_ret
    refine ⟨rfl, ?_⟩
    have hb : Below w.heap.size w w2 := by rw [H2.out]; exact ⟨rfl, rfl, rfl, Nat.le_refl _, fun _ _ => rfl⟩
    exact hb.alloc hb.size _

set_option maxRecDepth 20000 in
set_option maxHeartbeats 800000 in
theorem stands_st (w : World) (z : Nat) (sv : Value) (y : Nat) (rv : Value) (bs : List UInt8) (s r : S) (hD : DecSt w z sv bs s) (hR : RefSt w y rv bs r) (h : Eqv s r) :
    Calls Try.prog 12 #[.pointer (some ⟨z, 0, none⟩), .pointer (some ⟨y, 0, none⟩)] w fun e w' => e = .returned (.bool true) ∧ Below w.heap.size w w' := by
  have H1 := hide (fun W hW => at_st W z sv bs s hW)
  have H2 := hide (fun W hW => rplace_st W y rv bs r hW)
  have H3 := hide (fun W hW => left_st W z sv bs s hW)
  have H4 := hide (fun W hW => rleft_st W y rv bs r hW)
  rw [place_alike h] at H1
  rw [left_alike h] at H3
  generalize mPlace r = p at H1 H2
  generalize mLeft bs r = l at H3 H4
  have HE := hide (fun W hD hR => ends_st W z sv y rv bs s r hD hR h)
  have HD := hide hD
  have HR := hide hR
  clear hD hR h
  go_enter Try.func12, Try.ntmps12
  go_wp2_with fail
  refine (H1.out _ HD.out).mono ?_
  rintro e w' ⟨rfl, rfl⟩
  go_wp2_with fail
  refine (H2.out _ HR.out).mono ?_
  rintro e w' ⟨rfl, rfl⟩
  go_wp2_with fail
  refine (H3.out _ HD.out).mono ?_
  rintro e w2 ⟨rfl, m2, hw2⟩
  have HD2 : Hid (DecSt w2 z sv bs s) := by rw [hw2]; exact HD.out
  have HR2 : Hid (RefSt w2 y rv bs r) := by rw [hw2]; exact HR.out
  have HB2 : Hid (Below w'.heap.size w' w2 ∧ w2.heap.size = w'.heap.size) := by rw [hw2]; exact ⟨⟨rfl, rfl, rfl, Nat.le_refl _, fun _ _ => rfl⟩, rfl⟩
  clear hw2
  go_wp2_with fail
  refine (H4.out _ HR2.out).mono ?_
  rintro e w3 ⟨rfl, m3, hw3⟩
  have HD3 : Hid (DecSt w3 z sv bs s) := by rw [hw3]; exact HD2.out
  have HR3 : Hid (RefSt w3 y rv bs r) := by rw [hw3]; exact HR2.out
  have HB3 : Hid (Below w'.heap.size w' w3 ∧ w3.heap.size = w'.heap.size) := by rw [hw3]; exact ⟨⟨HB2.out.1.os, HB2.out.1.tape, HB2.out.1.output, HB2.out.1.size, HB2.out.1.block⟩, HB2.out.2⟩
  clear hw3
  go_wp2_with fail
  refine (HE.out _ HD3.out HR3.out).mono ?_
  rintro e w4 ⟨rfl, hb4⟩
  go_wp2
  go_ret
  refine ⟨rfl, HB3.out.1.trans ?_⟩
  rw [← HB3.out.2]
  exact hb4
end Go.Proofs.Ytinjcefekbpabab
