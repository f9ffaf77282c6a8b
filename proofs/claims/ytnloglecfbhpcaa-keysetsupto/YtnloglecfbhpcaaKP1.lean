/- Keys and their digits, plainly. -/
import Derived.Lib.Bytealg
import Derived.WalkKit
namespace Go.Proofs.Ytnloglecfbhpcaa
set_option linter.unusedVariables false
set_option linter.unusedSimpArgs false

def hexD : List UInt8 := [48, 49, 50, 51, 52, 53, 54, 55, 56, 57, 97, 98, 99, 100, 101, 102]
/-- What a sign stands for; -1: it is no digit. -/
def sgn (c : UInt8) : Int := Lib.indexByte hexD c
/-- The digit of a number below 16. -/
def dig (n : Nat) : UInt8 := hexD.getD n 0
theorem of_byte {p : UInt8 → Prop} (h : ∀ n, n < 256 → p (UInt8.ofNat n)) (c : UInt8) : p c := by
  have := h c.toNat c.toNat_lt
  rwa [UInt8.ofNat_toNat] at this
theorem sgn_range (c : UInt8) : sgn c = -1 ∨ (0 ≤ sgn c ∧ sgn c ≤ 15) := of_byte (p := fun c => sgn c = -1 ∨ (0 ≤ sgn c ∧ sgn c ≤ 15)) (of_decide_eq_true (by kernel_rfl)) c
theorem sgn_dig : ∀ n, n < 16 → sgn (dig n) = (n : Int) := of_decide_eq_true (by kernel_rfl)
theorem dig_sgn (c : UInt8) (h : 0 ≤ sgn c) : dig (sgn c).toNat = c := of_byte (p := fun c => 0 ≤ sgn c → dig (sgn c).toNat = c) (of_decide_eq_true (by kernel_rfl)) c h
theorem dig_lt : ∀ m, m < 16 → ∀ n, n < 16 → m < n → dig m < dig n := of_decide_eq_true (by kernel_rfl)
/-- The digits of a key. -/
def hexOf : List UInt8 → List UInt8
  | [] => []
  | b :: k => dig (b.toNat / 16) :: dig (b.toNat % 16) :: hexOf k
def digitAt (k : List UInt8) (i : Nat) : UInt8 := dig (if i % 2 = 0 then (k.getD (i / 2) 0).toNat / 16 else (k.getD (i / 2) 0).toNat % 16)
theorem hexOf_len : ∀ k : List UInt8, (hexOf k).length = 2 * k.length
  | [] => rfl
  | b :: k => by simp only [hexOf, List.length_cons, hexOf_len k]; omega
theorem hexOf_at : ∀ (k : List UInt8) (i : Nat), i < 2 * k.length → (hexOf k)[i]? = some (digitAt k i)
  | [], i, h => by simp at h
  | b :: k, 0, _ => rfl
  | b :: k, 1, _ => rfl
  | b :: k, i + 2, h => by
    have hi : i < 2 * k.length := by simp only [List.length_cons] at h; omega
    have := hexOf_at k i hi
    show (hexOf k)[i]? = _
    rw [this]
    unfold digitAt
    rw [show (i + 2) % 2 = i % 2 by omega, show (i + 2) / 2 = i / 2 + 1 by omega, List.getD_cons_succ]
/-- The bytes of digits, two for each. -/
def unhex : List UInt8 → List UInt8
  | a :: b :: r => UInt8.ofNat (16 * (sgn a).toNat + (sgn b).toNat) :: unhex r
  | _ => []
def pairAt (s : List UInt8) (i : Nat) : UInt8 := UInt8.ofNat (16 * (sgn (s.getD (2 * i) 0)).toNat + (sgn (s.getD (2 * i + 1) 0)).toNat)
theorem unhex_len : ∀ s : List UInt8, (unhex s).length = s.length / 2
  | [] => rfl
  | [_] => by simp [unhex]
  | a :: b :: r => by simp only [unhex, List.length_cons, unhex_len r]; omega
theorem unhex_at : ∀ (s : List UInt8) (i : Nat), 2 * i + 1 < s.length → (unhex s)[i]? = some (pairAt s i)
  | [], i, h => by simp at h
  | [_], i, h => by simp only [List.length_cons, List.length_nil] at h; omega
  | a :: b :: r, 0, _ => rfl
  | a :: b :: r, i + 1, h => by
    have hi : 2 * i + 1 < r.length := by simp only [List.length_cons] at h; omega
    have := unhex_at r i hi
    show (unhex r)[i]? = _
    rw [this]
    unfold pairAt
    rw [show 2 * (i + 1) = 2 * i + 1 + 1 by omega, List.getD_cons_succ, List.getD_cons_succ, List.getD_cons_succ, List.getD_cons_succ]
theorem nib (b : UInt8) : UInt8.ofNat (16 * (sgn (dig (b.toNat / 16))).toNat + (sgn (dig (b.toNat % 16))).toNat) = b := by
  have hb := b.toNat_lt
  rw [sgn_dig _ (by omega), sgn_dig _ (by omega), Int.toNat_natCast, Int.toNat_natCast, show 16 * (b.toNat / 16) + b.toNat % 16 = b.toNat by omega, UInt8.ofNat_toNat]
theorem unhex_hexOf : ∀ k : List UInt8, unhex (hexOf k) = k
  | [] => rfl
  | b :: k => by rw [hexOf, unhex, nib, unhex_hexOf k]
def allDig (s : List UInt8) : Bool := s.all fun c => decide (0 ≤ sgn c)
theorem allDig_hexOf : ∀ k : List UInt8, allDig (hexOf k) = true
  | [] => rfl
  | b :: k => by
    have hb := b.toNat_lt
    have := allDig_hexOf k
    unfold allDig at this ⊢
    rw [hexOf, List.all_cons, List.all_cons, this, sgn_dig _ (by omega), sgn_dig _ (by omega)]
    simp; omega
theorem hexOf_unhex : ∀ s : List UInt8, allDig s = true → s.length % 2 = 0 → hexOf (unhex s) = s
  | [], _, _ => rfl
  | [_], _, h => by simp at h
  | a :: b :: r, h, hl => by
    unfold allDig at h
    rw [List.all_cons, List.all_cons, Bool.and_eq_true, Bool.and_eq_true] at h
    obtain ⟨ha, hb, hr⟩ := h
    have ha' := of_decide_eq_true ha
    have hb' := of_decide_eq_true hb
    have ra := sgn_range a
    have rb := sgn_range b
    have e : (UInt8.ofNat (16 * (sgn a).toNat + (sgn b).toNat)).toNat = 16 * (sgn a).toNat + (sgn b).toNat := by rw [UInt8.toNat_ofNat']; omega
    rw [unhex, hexOf, e, show (16 * (sgn a).toNat + (sgn b).toNat) / 16 = (sgn a).toNat by omega, show (16 * (sgn a).toNat + (sgn b).toNat) % 16 = (sgn b).toNat by omega, dig_sgn a ha', dig_sgn b hb',
      hexOf_unhex r hr (by simp only [List.length_cons] at hl; omega)]
/-- What Parse takes. -/
def parsed (s : List UInt8) : Bool := decide (s.length = 64) && allDig s
def parseK (s : List UInt8) : List UInt8 := if parsed s then unhex s else List.replicate 32 0
def parseE (s : List UInt8) : Int := if parsed s then 0 else 30
theorem parsed_hex (k : List UInt8) (h : k.length = 32) : parsed (hexOf k) = true := by
  unfold parsed
  rw [allDig_hexOf, hexOf_len, h]; rfl
theorem parseK_hex (k : List UInt8) (h : k.length = 32) : parseK (hexOf k) = k := by
  unfold parseK; rw [if_pos (parsed_hex k h), unhex_hexOf]
theorem parseE_hex (k : List UInt8) (h : k.length = 32) : parseE (hexOf k) = 0 := by
  unfold parseE; rw [if_pos (parsed_hex k h)]
theorem parseK_len (s : List UInt8) : (parseK s).length = 32 := by
  unfold parseK parsed
  by_cases h : s.length = 64
  · split
    · rw [unhex_len, h]
    · simp
  · simp [h]
theorem hex_parse (s : List UInt8) (h : parseE s = 0) : hexOf (parseK s) = s := by
  unfold parseE at h
  unfold parseK
  by_cases hp : parsed s = true
  · rw [if_pos hp]
    unfold parsed at hp
    rw [Bool.and_eq_true] at hp
    exact hexOf_unhex s hp.2 (by rw [of_decide_eq_true hp.1])
  · rw [if_neg hp] at h; cases h
theorem parseK_bad (s : List UInt8) (h : parseE s ≠ 0) : parseK s = List.replicate 32 0 := by
  unfold parseE at h
  unfold parseK
  by_cases hp : parsed s = true
  · rw [if_pos hp] at h; exact absurd rfl h
  · rw [if_neg hp]
/-- The order of keys. -/
def cmpK : List UInt8 → List UInt8 → Int := Lib.compareBytes
theorem cmpK_nil : cmpK [] [] = 0 := rfl
theorem cmpK_cons (a b : UInt8) (as bs : List UInt8) : cmpK (a :: as) (b :: bs) = if a < b then -1 else if b < a then 1 else cmpK as bs := rfl
theorem cmpK_self : ∀ a : List UInt8, cmpK a a = 0
  | [] => rfl
  | a :: as => by rw [cmpK_cons, if_neg (UInt8.lt_irrefl a), if_neg (UInt8.lt_irrefl a), cmpK_self as]
theorem cmpK_range : ∀ a b : List UInt8, cmpK a b = -1 ∨ cmpK a b = 0 ∨ cmpK a b = 1
  | [], [] => .inr (.inl rfl)
  | [], _ :: _ => .inl rfl
  | _ :: _, [] => .inr (.inr rfl)
  | a :: as, b :: bs => by
    rw [cmpK_cons]
    by_cases h1 : a < b
    · rw [if_pos h1]; exact .inl rfl
    · rw [if_neg h1]
      by_cases h2 : b < a
      · rw [if_pos h2]; exact .inr (.inr rfl)
      · rw [if_neg h2]; exact cmpK_range as bs
theorem cmpK_neg : ∀ a b : List UInt8, cmpK b a = - cmpK a b
  | [], [] => rfl
  | [], _ :: _ => rfl
  | _ :: _, [] => rfl
  | a :: as, b :: bs => by
    rw [cmpK_cons, cmpK_cons]
    have ha : a < b ↔ a.toNat < b.toNat := UInt8.lt_iff_toNat_lt
    have hb : b < a ↔ b.toNat < a.toNat := UInt8.lt_iff_toNat_lt
    by_cases h1 : a < b
    · have h2 : ¬ b < a := by rw [hb]; rw [ha] at h1; omega
      rw [if_neg h2, if_pos h1, if_pos h1]; rfl
    · by_cases h2 : b < a
      · rw [if_pos h2, if_neg h1, if_pos h2]
      · rw [if_neg h1, if_neg h2, if_neg h1, if_neg h2]; exact cmpK_neg as bs
theorem cmpK_zero : ∀ a b : List UInt8, cmpK a b = 0 → a = b
  | [], [], _ => rfl
  | [], _ :: _, h => by cases h
  | _ :: _, [], h => by cases h
  | a :: as, b :: bs, h => by
    rw [cmpK_cons] at h
    have ha : a < b ↔ a.toNat < b.toNat := UInt8.lt_iff_toNat_lt
    have hb : b < a ↔ b.toNat < a.toNat := UInt8.lt_iff_toNat_lt
    by_cases h1 : a < b
    · rw [if_pos h1] at h; cases h
    · by_cases h2 : b < a
      · rw [if_neg h1, if_pos h2] at h; cases h
      · rw [if_neg h1, if_neg h2] at h
        have e : a = b := UInt8.toNat_inj.1 (by rw [ha] at h1; rw [hb] at h2; omega)
        rw [e, cmpK_zero as bs h]
/-- The digits are ordered as the keys. -/
theorem cmpK_hex : ∀ a b : List UInt8, cmpK (hexOf a) (hexOf b) = cmpK a b
  | [], [] => rfl
  | [], _ :: _ => rfl
  | _ :: _, [] => rfl
  | a :: as, b :: bs => by
    have la := a.toNat_lt
    have lb := b.toNat_lt
    rw [hexOf, hexOf, cmpK_cons, cmpK_cons, cmpK_cons]
    have dl (m n : Nat) (hm : m < 16) (hn : n < 16) : dig m < dig n ↔ m < n := by
      refine ⟨fun h => ?_, dig_lt m hm n hn⟩
      rcases Nat.lt_trichotomy m n with h1 | h1 | h1
      · exact h1
      · subst h1; exact absurd h (UInt8.lt_irrefl _)
      · exact absurd h (by have := dig_lt n hn m hm h1; rw [UInt8.lt_iff_toNat_lt] at this ⊢; omega)
    have e1 := dl (a.toNat / 16) (b.toNat / 16) (by omega) (by omega)
    have e2 := dl (b.toNat / 16) (a.toNat / 16) (by omega) (by omega)
    have e3 := dl (a.toNat % 16) (b.toNat % 16) (by omega) (by omega)
    have e4 := dl (b.toNat % 16) (a.toNat % 16) (by omega) (by omega)
    have e5 : a < b ↔ a.toNat < b.toNat := UInt8.lt_iff_toNat_lt
    have e6 : b < a ↔ b.toNat < a.toNat := UInt8.lt_iff_toNat_lt
    rw [cmpK_hex as bs]
    simp only [e1, e2, e3, e4, e5, e6]
    generalize cmpK as bs = c
    generalize a.toNat = m at *
    generalize b.toNat = n at *
    split <;> split <;> (try split) <;> (try split) <;> (try split) <;> (try rfl) <;> omega
end Go.Proofs.Ytnloglecfbhpcaa
