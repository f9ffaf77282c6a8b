/- Names of items, plainly. -/
import Derived.Lib.ValidLaws
import Derived.Lib.MapLaws
namespace Go.Proofs.YtjcfndiceinkjabDoor
set_option linter.unusedVariables false
set_option linter.unusedSimpArgs false
open Go.Lib

/-- A byte that no name has. -/
def badB (b : UInt8) : Bool := b == 47 || b == 0
/-- May an item have this name? -/
def nameL (l : List UInt8) : Bool := decide (1 ≤ l.length) && decide (l.length ≤ 64) && !(l == [46]) && !(l == [46, 46]) && validD l && !(l.any badB)

theorem encodeRune_bad (r : Nat) (h : r ≤ 1114111) : (encodeRune (r : Int)).any badB = (decide (r = 47) || decide (r = 0)) := by
  have hb : ∀ z : Int, 128 ≤ z → z ≤ 255 → badB z.toNat.toUInt8 = false := fun z h0 h1 => by
    obtain ⟨m, rfl⟩ := Int.eq_ofNat_of_zero_le (show 0 ≤ z by omega)
    have hm : m < 256 := by omega
    have hm' : 128 ≤ m := by omega
    have key : ∀ m : Nat, m < 256 → 128 ≤ m → badB m.toUInt8 = false := by decide +kernel
    exact key m hm hm'
  unfold encodeRune encodeRuneZ
  by_cases h1 : (0 : Int) ≤ r ∧ (r : Int) ≤ 127
  · rw [if_pos h1]
    have key : ∀ m : Nat, m < 128 → ((([(m : Int)] : List Int).map fun x => x.toNat.toUInt8).any badB) = (decide (m = 47) || decide (m = 0)) := by decide +kernel
    exact key r (by omega)
  · rw [if_neg h1]
    have e0 : (decide (r = 47) || decide (r = 0)) = false := by simp; omega
    rw [e0]
    repeat' split
    all_goals simp only [List.map_cons, List.map_nil, List.any_cons, List.any_nil, Bool.or_false]
    all_goals simp only [Bool.or_eq_false_iff]
    all_goals first | exact ⟨hb _ (by omega) (by omega), hb _ (by omega) (by omega)⟩ | exact ⟨hb _ (by omega) (by omega), hb _ (by omega) (by omega), hb _ (by omega) (by omega)⟩ | exact ⟨hb _ (by omega) (by omega), hb _ (by omega) (by omega), hb _ (by omega) (by omega), hb _ (by omega) (by omega)⟩
theorem rune_step (l : List UInt8) (hne : l ≠ []) (hv : validD l = true) : validD (l.drop (decodeL l).2) = true ∧ (decodeL l).2 ≤ l.length ∧ 1 ≤ (decodeL l).2 ∧ l.any badB = ((decide ((decodeL l).1 = 47) || decide ((decodeL l).1 = 0)) || (l.drop (decodeL l).2).any badB) := by
  rw [validD_step l hne] at hv
  by_cases hb : (decodeL l).1 = 65533 ∧ (decodeL l).2 = 1
  · rw [if_pos hb] at hv; cases hv
  · rw [if_neg hb] at hv
    refine ⟨hv, decodeL_le l hne, decodeL_width l, ?_⟩
    rw [← encodeRune_bad _ (decodeL_rune l), encode_decode l hne hb]
    conv => lhs; rw [← List.take_append_drop (decodeL l).2 l]
    rw [List.any_append]
/-- How many further bytes a letter has, by its first. -/
def moreN (c : Nat) : Int := if c < 128 then 0 else if 194 ≤ c ∧ c ≤ 223 then 1 else if 224 ≤ c ∧ c ≤ 239 then 2 else if 240 ≤ c ∧ c ≤ 244 then 3 else -1
def lowN (c : Nat) : Nat := if c = 224 then 160 else if c = 240 then 144 else 128
def highN (c : Nat) : Nat := if c = 237 then 159 else if c = 244 then 143 else 191
/-- Is the k-th further byte of the letter at the list's head right? -/
def kth (l : List UInt8) (k : Nat) : Bool := decide ((if k = 1 then lowN (l.getD 0 0).toNat else 128) ≤ (l.getD k 0).toNat) && decide ((l.getD k 0).toNat ≤ (if k = 1 then highN (l.getD 0 0).toNat else 191))
theorem letters_bad (l : List UInt8) (hne : l ≠ []) (h : moreN (l.getD 0 0).toNat < 0) : validD l = false := by
  have h0 : 128 ≤ (l.getD 0 0).toNat := by unfold moreN at h; split at h <;> omega
  rw [validD_lead l hne h0]
  have : checkN l.length (l.getD 1 0).toNat (l.getD 2 0).toNat (l.getD 3 0).toNat (firstT (l.getD 0 0).toNat % 8) (accLo (firstT (l.getD 0 0).toNat / 16)) (accHi (firstT (l.getD 0 0).toNat / 16)) = none := by
    have e : firstT (l.getD 0 0).toNat = 241 := by
      have := (l.getD 0 0).toNat_lt
      unfold moreN at h
      unfold firstT
      repeat' split at h
      all_goals first | omega | skip
      repeat' split
      all_goals first | rfl | omega
    rw [e]; rfl
  rw [this]
theorem first_more (c n : Nat) (hc : 128 ≤ c) (h255 : c < 256) (h : moreN c = (n : Int)) : firstT c % 8 = n + 1 ∧ accLo (firstT c / 16) = lowN c ∧ accHi (firstT c / 16) = highN c ∧ 1 ≤ n ∧ n ≤ 3 := by
  have key : ∀ c : Nat, c < 256 → 128 ≤ c → 0 ≤ moreN c → (firstT c % 8 : Int) = moreN c + 1 ∧ accLo (firstT c / 16) = lowN c ∧ accHi (firstT c / 16) = highN c ∧ 1 ≤ moreN c ∧ moreN c ≤ 3 := by decide +kernel
  obtain ⟨a, b, d, e, f⟩ := key c h255 hc (by omega)
  exact ⟨by omega, b, d, by omega, by omega⟩
theorem more_small (c : Nat) (h : c < 128) : moreN c = 0 := by unfold moreN; rw [if_pos h]
theorem more_zero (c : Nat) (h : moreN c = 0) : c < 128 := by unfold moreN at h; repeat' split at h
                                                              all_goals omega
theorem more_le (c : Nat) : moreN c ≤ 3 := by unfold moreN; repeat' split
                                              all_goals omega
/-- All further bytes of the letter at the head are right. -/
def allK (l : List UInt8) (n : Nat) : Bool := (List.range n).all fun j => kth l (j + 1)
theorem letters_step (l : List UInt8) (hne : l ≠ []) (n : Nat) (h : moreN (l.getD 0 0).toNat = (n : Int)) : validD l = (decide (n < l.length) && allK l n && validD (l.drop (n + 1))) := by
  have hl : 0 < l.length := List.length_pos_iff.2 hne
  have h255 := (l.getD 0 0).toNat_lt
  by_cases h0 : (l.getD 0 0).toNat < 128
  · rw [more_small _ h0] at h
    obtain rfl : n = 0 := by omega
    cases l with
    | nil => exact absurd rfl hne
    | cons b t =>
      rw [validD_cons b t (by simpa using h0)]
      simp [allK]
  · obtain ⟨e1, e2, e3, e4, e5⟩ := first_more _ n (by omega) h255 h
    rw [validD_lead l hne (by omega), e1, e2, e3]
    have fin : ∀ (P : Prop) [Decidable P] (k : Nat) (q : Bool), (P ↔ q = false) → (match (if P then none else some k : Option Nat) with | none => false | some k => validD (l.drop k)) = (q && validD (l.drop k)) := fun P _ k q hq => by
      by_cases hp : P
      · rw [if_pos hp, hq.1 hp]; rfl
      · rw [if_neg hp, show q = true by cases q with | false => exact absurd (hq.2 rfl) hp | true => rfl]; rfl
    have k1 : kth l 1 = (decide (lowN (l.getD 0 0).toNat ≤ (l.getD 1 0).toNat) && decide ((l.getD 1 0).toNat ≤ highN (l.getD 0 0).toNat)) := rfl
    have k2 : kth l 2 = (decide (128 ≤ (l.getD 2 0).toNat) && decide ((l.getD 2 0).toNat ≤ 191)) := rfl
    have k3 : kth l 3 = (decide (128 ≤ (l.getD 3 0).toNat) && decide ((l.getD 3 0).toNat ≤ 191)) := rfl
    generalize (l.getD 1 0).toNat = b1 at *
    generalize (l.getD 2 0).toNat = b2 at *
    generalize (l.getD 3 0).toNat = b3 at *
    generalize lowN (l.getD 0 0).toNat = lo at *
    generalize highN (l.getD 0 0).toNat = hi at *
    obtain rfl | rfl | rfl : n = 1 ∨ n = 2 ∨ n = 3 := by omega
    · refine fin (l.length < 2 ∨ b1 < lo ∨ hi < b1) 2 _ ?_
      rw [show allK l 1 = (kth l 1 && true) from rfl, k1]
      simp only [Bool.and_eq_false_iff, decide_eq_false_iff_not, Bool.true_eq_false, or_false]
      omega
    · refine fin (l.length < 3 ∨ b1 < lo ∨ hi < b1 ∨ b2 < 128 ∨ 191 < b2) 3 _ ?_
      rw [show allK l 2 = (kth l 1 && (kth l 2 && true)) from rfl, k1, k2]
      simp only [Bool.and_eq_false_iff, decide_eq_false_iff_not, Bool.true_eq_false, or_false]
      omega
    · refine fin (l.length < 4 ∨ b1 < lo ∨ hi < b1 ∨ b2 < 128 ∨ 191 < b2 ∨ b3 < 128 ∨ 191 < b3) 4 _ ?_
      rw [show allK l 3 = (kth l 1 && (kth l 2 && (kth l 3 && true))) from rfl, k1, k2, k3]
      simp only [Bool.and_eq_false_iff, decide_eq_false_iff_not, Bool.true_eq_false, or_false]
      omega
end Go.Proofs.YtjcfndiceinkjabDoor
