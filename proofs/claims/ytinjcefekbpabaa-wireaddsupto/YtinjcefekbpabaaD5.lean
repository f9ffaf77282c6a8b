/- The calls on a Dec by the plain machine: number, next, Var, At, Left, bound. -/
import Derived.Test.YtinjcefekbpabaaD4
import Derived.Test.YtinjcefekbpabaaP2
namespace Go.Proofs.Ytinjcefekbpabaa
set_option linter.unusedVariables false
set_option linter.unusedSimpArgs false
open Go.RowKit

/-- A Dec in memory stands as the plain machine says. -/
def DecSt (w : World) (z : Nat) (sv : Value) (bs : List UInt8) (s : S) : Prop :=
  Bts w z sv bs ∧ s.p ≤ bs.length ∧ DecAt w z sv s.p s.fat s.code

theorem DecSt.lt {w : World} {z : Nat} {sv : Value} {bs : List UInt8} {s : S} (h : DecSt w z sv bs s) : z < w.heap.size := Blk.lt h.2.2
theorem DecSt.grown {w w' : World} {z : Nat} {sv : Value} {bs : List UInt8} {s : S} (h : DecSt w z sv bs s) {row : Option Nat} (hg : w.grownBy w' row) (hz : some z ≠ row) (hb : ∀ b, sv = .slice (some ⟨b, 0, none⟩) bs.length bs.length → some b ≠ row) : DecSt w' z sv bs s := by
  obtain ⟨⟨h0, h1⟩, h2, h3⟩ := h
  refine ⟨⟨h0, ?_⟩, h2, Blk.grown h3 hg hz⟩
  rcases h1 with h1 | ⟨b, e, hne, hB⟩
  · exact .inl h1
  · exact .inr ⟨b, e, hne, hB.grown hg (hb b e)⟩
theorem DecSt.below {w w' : World} {z : Nat} {sv : Value} {bs : List UInt8} {s : S} (h : DecSt w z sv bs s) (hg : Below w.heap.size w w') : DecSt w' z sv bs s :=
  h.grown (row := none) (grownBy_below hg) (by simp) (by simp)
theorem DecSt.drewN {w : World} {z : Nat} {sv : Value} {bs : List UInt8} {s : S} (h : DecSt w z sv bs s) (n : Nat) : DecSt (w.drewN n) z sv bs s := h

theorem neqNat {c : Nat} (h : c ≠ 0) : ((c : Int) != 0) = true := by rw [bne_iff_ne]; omega
theorem eqNat {c : Nat} (h : c ≠ 0) : ((c : Int) == 0) = false := by rw [beq_eq_false_iff_ne]; omega

theorem over_st (w : World) (z : Nat) (sv : Value) (bs : List UInt8) (s : S) (h : DecSt w z sv bs s) : Calls Try.prog 65 #[.pointer (some ⟨z, 0, none⟩)] w fun e w' => e = .returned (.bool (decide (s.code ≠ 0))) ∧ w' = w := by
  by_cases hc : s.code = 0
  · have h2 := h.2.2
    rw [hc] at h2
    have := over_go w z sv s.p s.fat h2
    simpa [hc] using this
  · have := over_stopped w z sv s.p s.fat s.code (neqNat hc) h.2.2
    simpa [hc] using this
theorem at_st (w : World) (z : Nat) (sv : Value) (bs : List UInt8) (s : S) (h : DecSt w z sv bs s) : Calls Try.prog 24 #[.pointer (some ⟨z, 0, none⟩)] w fun e w' => e = .returned (.int .i64 (mPlace s)) ∧ w' = w := by
  by_cases hc : s.code = 0
  · have h2 := h.2.2
    rw [hc] at h2
    have := at_go w z sv s.p s.fat h2
    simpa [hc, mPlace] using this
  · have := at_stopped w z sv s.p s.fat s.code (neqNat hc) h.2.2
    simpa [hc, mPlace] using this
theorem left_st (w : World) (z : Nat) (sv : Value) (bs : List UInt8) (s : S) (h : DecSt w z sv bs s) : Calls Try.prog 23 #[.pointer (some ⟨z, 0, none⟩)] w fun e w' => e = .returned (.int .i64 (mLeft bs s)) ∧ ∃ m, w' = w.drewN m := by
  by_cases hc : s.code = 0
  · obtain ⟨⟨hm, hb⟩, hp, h2⟩ := h
    rw [hc] at h2
    obtain ⟨ao, hsv⟩ : ∃ ao, sv = .slice ao bs.length bs.length := by
      rcases hb with ⟨e1, e2⟩ | ⟨b, e1, _⟩
      · exact ⟨none, by rw [e1, e2]; rfl⟩
      · exact ⟨_, e1⟩
    rw [hsv] at h2
    refine (left_go w z ao bs.length bs.length s.p s.fat (by omega) (by omega) hm h2).mono ?_
    rintro e w' ⟨he, hw⟩
    refine ⟨?_, hw⟩
    rw [he, mLeft, if_neg (by omega)]
    congr 2
    omega
  · refine (left_stopped w z sv s.p s.fat s.code (neqNat hc) h.2.2).mono ?_
    rintro e w' ⟨he, hw⟩
    refine ⟨?_, 0, hw⟩
    rw [he, mLeft, if_pos hc]
    rfl

def NumC (w : World) (z : Nat) (sv : Value) (bs : List UInt8) (r : Nat × Bool × S) (e : Ending) (w' : World) : Prop :=
  e = .returned (.tuple #[.int .u64 r.1, .bool r.2.1]) ∧ DecSt w' z sv bs r.2.2 ∧ w.grownBy w' (some z)
theorem number_st (w : World) (z : Nat) (sv : Value) (bs : List UInt8) (s : S) (most : Nat) (h : DecSt w z sv bs s) :
    Calls Try.prog 66 #[.pointer (some ⟨z, 0, none⟩), .int .u64 most] w (NumC w z sv bs (mNum bs s most)) := by
  have hle := mNum_le bs s most h.2.1
  have hfl := firstGo_len (bs.drop s.p) 0 0
  obtain ⟨v, n, c, hr⟩ : ∃ v n c, firstGo 0 0 (bs.drop s.p) = (v, n, c) := ⟨_, _, _, rfl⟩
  obtain ⟨hb, hp, h2⟩ := h
  unfold mNum at hle ⊢
  rw [hr] at hfl hle ⊢
  by_cases hc : s.code = 0
  · rw [hc] at h2
    rw [if_neg (by omega)] at hle ⊢
    by_cases hcc : c = 0
    · subst hcc
      have hfl := hfl rfl
      rw [List.length_drop] at hfl
      simp only [ne_eq, not_true_eq_false, if_false] at hle ⊢
      by_cases hv : most < v
      · rw [if_pos hv] at hle ⊢
        refine (number_beyond w z sv bs s.p s.fat most v n hb hp h2 hr hv).mono ?_
        rintro e w' ⟨he, hd, hg⟩
        exact ⟨he, ⟨hb.grown hg, hp, hd⟩, hg⟩
      · rw [if_neg hv] at hle ⊢
        refine (number_ok w z sv bs s.p s.fat most v n hb hp h2 hr (by simp only [] at hfl; omega) (by omega)).mono ?_
        rintro e w' ⟨he, hd, hg⟩
        refine ⟨he, ⟨hb.grown hg, hle, ?_⟩, hg⟩
        simp only [hc]
        exact hd
    · simp only [ne_eq, hcc, not_false_eq_true, if_true] at hle ⊢
      refine (number_bad w z sv bs s.p s.fat most v n c hb hp h2 hr (eqNat hcc) (neqNat hcc)).mono ?_
      rintro e w' ⟨he, hd, hg⟩
      exact ⟨he, ⟨hb.grown hg, hp, hd⟩, hg⟩
  · rw [if_pos hc]
    refine (number_stopped w z sv s.p s.fat s.code most (neqNat hc) h2).mono ?_
    rintro e w' ⟨he, hw⟩
    rw [hw]
    exact ⟨he, ⟨hb, hp, h2⟩, World.grownBy.refl _ _⟩

def NextC (w : World) (z : Nat) (sv : Value) (bs : List UInt8) (r : Option (List UInt8) × S) (e : Ending) (w' : World) : Prop :=
  (∃ v, e = .returned (.tuple #[v, .bool r.1.isSome]) ∧ (r.1 = none → v = .slice none 0 0) ∧ Rd w' v (r.1.getD [])) ∧ DecSt w' z sv bs r.2 ∧ w.grownBy w' (some z)
theorem next_st (w : World) (z : Nat) (sv : Value) (bs : List UInt8) (s : S) (start k : Nat) (h : DecSt w z sv bs s) :
    Calls Try.prog 64 #[.pointer (some ⟨z, 0, none⟩), .int .i64 start, .int .i64 k] w (NextC w z sv bs (mNext bs s start k)) := by
  have hle := mNext_le bs s start k h.2.1
  have h0 := h
  obtain ⟨hb, hp, h2⟩ := h
  unfold mNext at hle ⊢
  by_cases hc : s.code = 0
  · rw [hc] at h2
    rw [if_neg (by omega)] at hle ⊢
    by_cases hk : bs.length < s.p + k
    · rw [if_pos hk] at hle ⊢
      obtain ⟨ao, hsv⟩ : ∃ ao, sv = .slice ao bs.length bs.length := by
        rcases hb.2 with ⟨e1, e2⟩ | ⟨b, e1, _⟩
        · exact ⟨none, by rw [e1, e2]; rfl⟩
        · exact ⟨_, e1⟩
      subst hsv
      refine (next_ends w z ao bs.length bs.length s.p s.fat start k hb.1 (by omega) (by omega) (by omega) h2).mono ?_
      rintro e w' ⟨he, hd, hg⟩
      exact ⟨⟨_, he, fun _ => rfl, Rd_none _⟩, ⟨hb.grown hg, hp, hd⟩, hg⟩
    · rw [if_neg hk] at hle ⊢
      refine (next_go w z sv bs s.p k s.fat start hb (by omega) h2).mono ?_
      rintro e w' ⟨v, he, hrd, hd, hg⟩
      refine ⟨⟨v, he, fun e => by simp at e, hrd⟩, ⟨hb.grown hg, hle, ?_⟩, hg⟩
      simp only [hc]
      exact hd
  · rw [if_pos hc]
    refine (next_stopped w z sv s.p s.fat s.code start k (neqNat hc) h2).mono ?_
    rintro e w' ⟨he, hw⟩
    rw [hw]
    exact ⟨⟨_, he, fun _ => rfl, Rd_none _⟩, ⟨hb, hp, h2⟩, World.grownBy.refl _ _⟩

def VarC (w : World) (z : Nat) (sv : Value) (bs : List UInt8) (r : Nat × Bool × S) (e : Ending) (w' : World) : Prop :=
  e = .returned (.int .u64 r.1) ∧ DecSt w' z sv bs r.2.2 ∧ w.grownBy w' (some z)
theorem var_st (w : World) (z : Nat) (sv : Value) (bs : List UInt8) (s : S) (most : Nat) (h : DecSt w z sv bs s) :
    Calls Try.prog 27 #[.pointer (some ⟨z, 0, none⟩), .int .u64 most] w (VarC w z sv bs (mNum bs s most)) := by
  have HN := hide (number_st w z sv bs s most h)
  generalize mNum bs s most = r at HN ⊢
  go_enter Try.func27, Try.ntmps27
  go_wp2_with (go_at_call 66; refine (HN.out).mono ?_; rintro e w' ⟨rfl, hd, hg⟩)
  go_ret
  exact ⟨rfl, hd, hg⟩
theorem var_nil (w : World) (most : Int) : Calls Try.prog 27 #[.pointer none, .int .u64 most] w fun e w' => e = .returned (.int .u64 0) ∧ w' = w := by
  go_enter Try.func27, Try.ntmps27
  go_wp2_with (go_at_call 66; refine (number_nil _ _).mono ?_; rintro e w' ⟨rfl, rfl⟩)
  go_ret
  exact ⟨rfl, rfl⟩
theorem bound_any (w : World) (m : Int) (h1 : -9223372036854775808 ≤ m) (h2 : m ≤ 9223372036854775807) : Calls Try.prog 76 #[.int .i64 m] w fun e w' => e = .returned (.int .u64 (m.toNat : Nat)) ∧ w' = w := by
  by_cases h : 0 ≤ m
  · obtain ⟨n, rfl⟩ := Int.eq_ofNat_of_zero_le h
    go_enter Try.func76, Try.ntmps76
    go_wp2
    go_ret
    exact ⟨congrArg (fun q => Ending.returned (.int .u64 q)) (by omega), rfl⟩
  · go_enter Try.func76, Try.ntmps76
    go_wp2
    go_ret
    exact ⟨congrArg (fun q => Ending.returned (.int .u64 q)) (by omega), rfl⟩
end Go.Proofs.Ytinjcefekbpabaa
