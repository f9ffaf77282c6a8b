/- next, on a wire.Dec that lies in memory. -/
import Derived.Test.YtinjcefekbpabaaD1
namespace Go.Proofs.Ytinjcefekbpabaa
set_option linter.unusedVariables false
set_option linter.unusedSimpArgs false
open Go.RowKit

def u8c (u : UInt8) : Value := .int .u8 (u.toNat : Int)

/-- The bytes that a Dec has: a nil slice and none, or a block of its own. -/
def Bts (w : World) (z : Nat) (sv : Value) (bs : List UInt8) : Prop :=
  bs.length ≤ maxLen ∧ ((sv = .slice none 0 0 ∧ bs = []) ∨ ∃ b, sv = .slice (some ⟨b, 0, none⟩) bs.length bs.length ∧ b ≠ z ∧ Blk w b (bs.map u8c).toArray 5)

/-- A slice of bytes that can be read. -/
def Rd (w : World) (v : Value) (xs : List UInt8) : Prop :=
  ∃ ao c, v = .slice ao xs.length c ∧ xs.length ≤ c ∧ c ≤ maxLen ∧ ((ao = none ∧ c = 0) ∨ ∃ b o, ao = some ⟨b, o, none⟩ ∧ ∀ i (h : i < xs.length), w.cell? ⟨b, o + i, none⟩ = some (u8c xs[i]))

theorem Bts.grown {w w' : World} {z : Nat} {sv : Value} {bs : List UInt8} (h : Bts w z sv bs) (hg : w.grownBy w' (some z)) : Bts w' z sv bs := by
  obtain ⟨h0, h | ⟨b, h1, h2, h3⟩⟩ := h
  · exact ⟨h0, .inl h⟩
  · exact ⟨h0, .inr ⟨b, h1, h2, h3.grown hg (fun e => h2 (Option.some.inj e))⟩⟩
theorem Bts.drewN {w : World} {z : Nat} {sv : Value} {bs : List UInt8} (h : Bts w z sv bs) (n : Nat) : Bts (w.drewN n) z sv bs := h.grown (grownBy_drewN w n _)

theorem next_nil (w : World) (a n : Int) : Calls Try.prog 64 #[.pointer none, .int .i64 a, .int .i64 n] w fun e w' => e = .returned (.tuple #[.slice none 0 0, .bool false]) ∧ w' = w := by
  go_enter Try.func64, Try.ntmps64
  go_wp2_with (go_at_call 65; refine (over_nil _).mono ?_; rintro e w' ⟨rfl, rfl⟩)
  go_ret2
  exact ⟨rfl, rfl⟩
theorem next_stopped (w : World) (z : Nat) (sv : Value) (pos fat code : Int) (a n : Int) (hc : (code != 0) = true) (h : DecAt w z sv pos fat code) : Calls Try.prog 64 #[.pointer (some ⟨z, 0, none⟩), .int .i64 a, .int .i64 n] w fun e w' => e = .returned (.tuple #[.slice none 0 0, .bool false]) ∧ w' = w := by
  go_enter Try.func64, Try.ntmps64
  go_wp2_with (go_at_call 65; refine (over_stopped _ z sv pos fat code hc h).mono ?_; rintro e w' ⟨rfl, rfl⟩)
  go_ret2
  exact ⟨rfl, rfl⟩
theorem next_ends (w : World) (z : Nat) (ao : Option Addr) (k c : Nat) (pos fat : Int) (a n : Int) (hk : k ≤ maxLen) (hp0 : 0 ≤ pos) (hp1 : pos ≤ k) (hn : k - pos < n) (h : DecAt w z (.slice ao k c) pos fat 0) :
    Calls Try.prog 64 #[.pointer (some ⟨z, 0, none⟩), .int .i64 a, .int .i64 n] w fun e w' => e = .returned (.tuple #[.slice none 0 0, .bool false]) ∧ DecAt w' z (.slice ao k c) pos a 10 ∧ w.grownBy w' (some z) := by
  unfold maxLen at hk
  have c0 := h.c0
  have c1 := h.c1
  go_enter Try.func64, Try.ntmps64
  go_wp2_with (go_at_call 65; refine (over_go _ z _ pos fat h).mono ?_; rintro e w' ⟨rfl, rfl⟩)
  go_quiet (fail)
  go_wp2_with (go_at_call 77; refine (stop_go _ z _ pos fat a 10 (Blk.drewN h _)).mono ?_; rintro e w' ⟨rfl, hd, hg⟩)
  go_ret2
  exact ⟨rfl, hd, grownBy_trans (grownBy_drewN _ _ _) hg⟩
/-- What next leaves, where it can take k bytes. -/
def NextOk (w : World) (z : Nat) (sv : Value) (bs : List UInt8) (p k : Nat) (fat : Int) (e : Ending) (w' : World) : Prop :=
  ∃ v, e = .returned (.tuple #[v, .bool true]) ∧ Rd w' v ((bs.drop p).take k) ∧ DecAt w' z sv (p + k : Nat) fat 0 ∧ w.grownBy w' (some z)

set_option maxHeartbeats 800000 in
theorem next_go (w : World) (z : Nat) (sv : Value) (bs : List UInt8) (p k : Nat) (fat a : Int) (hb : Bts w z sv bs) (hk : p + k ≤ bs.length) (h : DecAt w z sv p fat 0) :
    Calls Try.prog 64 #[.pointer (some ⟨z, 0, none⟩), .int .i64 a, .int .i64 k] w (NextOk w z sv bs p k fat) := by
  obtain ⟨hm, ⟨rfl, rfl⟩ | ⟨b, rfl, hne, hB⟩⟩ := hb
  · have hp : p = 0 := by simp at hk; omega
    have hk0 : k = 0 := by simp at hk; omega
    subst hp; subst hk0
    have c0 := h.c0
    have c1 := h.c1
    have f1 := Blk.frozen h 1
    go_enter Try.func64, Try.ntmps64
    go_wp2_with (go_at_call 65; refine (over_go _ z _ _ fat h).mono ?_; rintro e w' ⟨rfl, rfl⟩)
    go_quiet (fail)
    go_wp2
    go_quiet (fail)
    go_wp2
    go_ret2
    exact ⟨_, rfl, ⟨none, 0, rfl, Nat.le_refl _, Nat.zero_le _, .inl ⟨rfl, rfl⟩⟩, Blk.set (Blk.drewN h _) 1 (.int .i64 0), grownBy_trans (grownBy_drewN _ _ _) (grownBy_set _ z 1 _)⟩
  · unfold maxLen at hm
    have c0 := h.c0
    have c1 := h.c1
    have f1 := Blk.frozen h 1
    by_cases hpe : p = bs.length
    · have hk0 : k = 0 := by omega
      subst hpe; subst hk0
      go_enter Try.func64, Try.ntmps64
      go_wp2_with (go_at_call 65; refine (over_go _ z _ _ fat h).mono ?_; rintro e w' ⟨rfl, rfl⟩)
      go_quiet (fail)
      go_wp2
      go_quiet (fail)
      go_wp2
      go_ret2
      exact ⟨_, rfl, ⟨some ⟨b, 0, none⟩, 0, by simp, by simp, Nat.zero_le _, .inr ⟨b, 0, rfl, fun i hi => by simp at hi⟩⟩, Blk.set (Blk.drewN h _) 1 (.int .i64 bs.length), grownBy_trans (grownBy_drewN _ _ _) (grownBy_set _ z 1 _)⟩
    · have hpn : ¬ bs.length = p := fun e => hpe e.symm
      have hle : (k : Int) ≤ (bs.length : Int) - (p : Int) := by omega
      clear hpe
      go_enter Try.func64, Try.ntmps64
      go_wp2_with (go_at_call 65; refine (over_go _ z _ _ fat h).mono ?_; rintro e w' ⟨rfl, rfl⟩)
      go_quiet (fail)
      go_wp2
      go_quiet (fail)
      go_wp2
      go_ret2
      refine ⟨_, rfl, ⟨some ⟨b, p, none⟩, bs.length - p, ?_, ?_, ?_, .inr ⟨b, p, rfl, ?_⟩⟩, Blk.set (Blk.drewN h _) 1 (.int .i64 (p + k : Nat)), grownBy_trans (grownBy_drewN _ _ _) (grownBy_set _ z 1 _)⟩
      · rw [List.length_take, List.length_drop, Nat.min_eq_left (by omega)]; exact congrArg (fun n => Value.slice (some ⟨b, p, none⟩) n (bs.length - p)) (Nat.add_sub_cancel_left p k)
      · rw [List.length_take, List.length_drop]; omega
      · unfold maxLen; omega
      · intro i hi
        refine (((Blk.drewN hB _).setOther _ _ hne).cell _).trans ?_
        rw [List.length_take, List.length_drop] at hi
        have hlt : p + i < bs.length := by omega
        simp [List.getElem?_eq_getElem hlt]
end Go.Proofs.Ytinjcefekbpabaa
