/- The small calls on a wire.Dec that lies in memory. -/
import Derived.Test.YtjcfndiceinkjabDoorOL7
import Derived.Laws.BitsAllLaws
import Derived.Laws.Bits128
import Derived.WalkKit
import Derived.Deep.WholeRow
import Derived.Deep.OwnRows
import Derived.Laws.CopyOwn
import Derived.Laws.BytesArg
import Derived.Deep.MidRow
namespace Go.Proofs.YtjcfndiceinkjabDoor
set_option linter.unusedVariables false
set_option linter.unusedSimpArgs false
set_option maxRecDepth 100000
open Go.RowKit

/-- A wire.Dec at block z: its bytes, where it stands, its fault. -/
def DecAt (w : World) (z : Nat) (sv : Value) (pos fat code : Int) : Prop :=
  Blk w z #[sv, .int .i64 pos, .int .i64 fat, .int .i64 code] 90

theorem DecAt.c0 {w : World} {z : Nat} {sv : Value} {pos fat code : Int} (h : DecAt w z sv pos fat code) : w.cell? ⟨z, 0, none⟩ = some sv := h.cell 0
theorem DecAt.c1 {w : World} {z : Nat} {sv : Value} {pos fat code : Int} (h : DecAt w z sv pos fat code) : w.cell? ⟨z, 1, none⟩ = some (.int .i64 pos) := h.cell 1
theorem DecAt.c2 {w : World} {z : Nat} {sv : Value} {pos fat code : Int} (h : DecAt w z sv pos fat code) : w.cell? ⟨z, 2, none⟩ = some (.int .i64 fat) := h.cell 2
theorem DecAt.c3 {w : World} {z : Nat} {sv : Value} {pos fat code : Int} (h : DecAt w z sv pos fat code) : w.cell? ⟨z, 3, none⟩ = some (.int .i64 code) := h.cell 3

theorem over_nil (w : World) : Calls Tryd.prog 59 #[.pointer none] w fun e w' => e = .returned (.bool true) ∧ w' = w := by
  go_enter Tryd.func59, Tryd.ntmps59
  go_wp2
  go_ret
  exact ⟨rfl, rfl⟩
theorem over_go (w : World) (z : Nat) (sv : Value) (pos fat : Int) (h : DecAt w z sv pos fat 0) : Calls Tryd.prog 59 #[.pointer (some ⟨z, 0, none⟩)] w fun e w' => e = .returned (.bool false) ∧ w' = w := by
  have c3 := h.c3
  go_enter Tryd.func59, Tryd.ntmps59
  go_wp2
  go_ret
  exact ⟨rfl, rfl⟩
theorem over_stopped (w : World) (z : Nat) (sv : Value) (pos fat code : Int) (hc : (code != 0) = true) (h : DecAt w z sv pos fat code) : Calls Tryd.prog 59 #[.pointer (some ⟨z, 0, none⟩)] w fun e w' => e = .returned (.bool true) ∧ w' = w := by
  have c3 := h.c3
  go_enter Tryd.func59, Tryd.ntmps59
  go_wp2
  go_ret
  exact ⟨rfl, rfl⟩

/-- stop, of one that is not stopped. -/
theorem stop_go (w : World) (z : Nat) (sv : Value) (pos fat : Int) (a c : Int) (h : DecAt w z sv pos fat 0) : Calls Tryd.prog 83 #[.pointer (some ⟨z, 0, none⟩), .int .i64 a, .int .i64 c] w fun e w' => e = .returned (.tuple #[]) ∧ DecAt w' z sv pos a c ∧ w.grownBy w' (some z) := by
  have c2 := h.c2
  have c3 := h.c3
  have f2 := Blk.frozen h 2
  have f3 := Blk.frozen h 3
  go_enter Tryd.func83, Tryd.ntmps83
  go_wp2_with (go_at_call 59; refine (over_go _ z sv pos fat h).mono ?_; rintro e w' ⟨rfl, rfl⟩)
  go_returns
  refine ⟨rfl, ?_, grownBy_trans (grownBy_set _ z 2 _) (grownBy_set _ z 3 _)⟩
  exact (Blk.set (Blk.set h 2 (.int .i64 a)) 3 (.int .i64 c))
theorem stop_stopped (w : World) (z : Nat) (sv : Value) (pos fat code : Int) (a c : Int) (hc : (code != 0) = true) (h : DecAt w z sv pos fat code) : Calls Tryd.prog 83 #[.pointer (some ⟨z, 0, none⟩), .int .i64 a, .int .i64 c] w fun e w' => e = .returned (.tuple #[]) ∧ w' = w := by
  go_enter Tryd.func83, Tryd.ntmps83
  go_wp2_with (go_at_call 59; refine (over_stopped _ z sv pos fat code hc h).mono ?_; rintro e w' ⟨rfl, rfl⟩)
  go_returns
  exact ⟨rfl, rfl⟩
theorem stop_nil (w : World) (a c : Int) : Calls Tryd.prog 83 #[.pointer none, .int .i64 a, .int .i64 c] w fun e w' => e = .returned (.tuple #[]) ∧ w' = w := by
  go_enter Tryd.func83, Tryd.ntmps83
  go_wp2_with (go_at_call 59; refine (over_nil _).mono ?_; rintro e w' ⟨rfl, rfl⟩)
  go_returns
  exact ⟨rfl, rfl⟩

theorem at_nil (w : World) : Calls Tryd.prog 43 #[.pointer none] w fun e w' => e = .returned (.int .i64 0) ∧ w' = w := by
  go_enter Tryd.func43, Tryd.ntmps43
  go_wp2
  go_ret
  exact ⟨rfl, rfl⟩
theorem at_go (w : World) (z : Nat) (sv : Value) (pos fat : Int) (h : DecAt w z sv pos fat 0) : Calls Tryd.prog 43 #[.pointer (some ⟨z, 0, none⟩)] w fun e w' => e = .returned (.int .i64 pos) ∧ w' = w := by
  have c1 := h.c1
  go_enter Tryd.func43, Tryd.ntmps43
  go_wp2_with (go_at_call 59; refine (over_go _ z sv pos fat h).mono ?_; rintro e w' ⟨rfl, rfl⟩)
  go_ret
  exact ⟨rfl, rfl⟩
theorem at_stopped (w : World) (z : Nat) (sv : Value) (pos fat code : Int) (hc : (code != 0) = true) (h : DecAt w z sv pos fat code) : Calls Tryd.prog 43 #[.pointer (some ⟨z, 0, none⟩)] w fun e w' => e = .returned (.int .i64 fat) ∧ w' = w := by
  have c2 := h.c2
  go_enter Tryd.func43, Tryd.ntmps43
  go_wp2_with (go_at_call 59; refine (over_stopped _ z sv pos fat code hc h).mono ?_; rintro e w' ⟨rfl, rfl⟩)
  go_ret
  exact ⟨rfl, rfl⟩

theorem left_nil (w : World) : Calls Tryd.prog 47 #[.pointer none] w fun e w' => e = .returned (.int .i64 0) ∧ w' = w := by
  go_enter Tryd.func47, Tryd.ntmps47
  go_wp2_with (go_at_call 59; refine (over_nil _).mono ?_; rintro e w' ⟨rfl, rfl⟩)
  go_ret
  exact ⟨rfl, rfl⟩
theorem left_stopped (w : World) (z : Nat) (sv : Value) (pos fat code : Int) (hc : (code != 0) = true) (h : DecAt w z sv pos fat code) : Calls Tryd.prog 47 #[.pointer (some ⟨z, 0, none⟩)] w fun e w' => e = .returned (.int .i64 0) ∧ w' = w := by
  go_enter Tryd.func47, Tryd.ntmps47
  go_wp2_with (go_at_call 59; refine (over_stopped _ z sv pos fat code hc h).mono ?_; rintro e w' ⟨rfl, rfl⟩)
  go_ret
  exact ⟨rfl, rfl⟩
theorem left_go (w : World) (z : Nat) (ao : Option Addr) (n c : Nat) (pos fat : Int) (hp0 : 0 ≤ pos) (hp1 : pos ≤ n) (hn : n ≤ maxLen) (h : DecAt w z (.slice ao n c) pos fat 0) : Calls Tryd.prog 47 #[.pointer (some ⟨z, 0, none⟩)] w fun e w' => e = .returned (.int .i64 (n - pos)) ∧ ∃ m, w' = w.drewN m := by
  unfold maxLen at hn
  have c0 := h.c0
  have c1 := h.c1
  go_enter Tryd.func47, Tryd.ntmps47
  go_wp2_with (go_at_call 59; refine (over_go _ z _ pos fat h).mono ?_; rintro e w' ⟨rfl, rfl⟩)
  go_quiet (fail)
  go_wp2
  go_ret
  exact ⟨rfl, _, rfl⟩
end Go.Proofs.YtjcfndiceinkjabDoor

/- next, on a wire.Dec that lies in memory. -/
namespace Go.Proofs.YtjcfndiceinkjabDoor
set_option linter.unusedVariables false
set_option linter.unusedSimpArgs false
set_option maxRecDepth 100000
open Go.RowKit
/-- The bytes that a Dec has: a nil slice and none, or a block of its own. -/
def Bts (w : World) (z : Nat) (sv : Value) (bs : List UInt8) : Prop :=
  bs.length ≤ maxLen ∧ ((sv = .slice none 0 0 ∧ bs = []) ∨ ∃ b, sv = .slice (some ⟨b, 0, none⟩) bs.length bs.length ∧ b ≠ z ∧ Blk w b (bs.map u8c).toArray 5)

theorem Bts.grown {w w' : World} {z : Nat} {sv : Value} {bs : List UInt8} (h : Bts w z sv bs) (hg : w.grownBy w' (some z)) : Bts w' z sv bs := by
  obtain ⟨h0, h | ⟨b, h1, h2, h3⟩⟩ := h
  · exact ⟨h0, .inl h⟩
  · exact ⟨h0, .inr ⟨b, h1, h2, h3.grown hg (fun e => h2 (Option.some.inj e))⟩⟩
theorem Bts.drewN {w : World} {z : Nat} {sv : Value} {bs : List UInt8} (h : Bts w z sv bs) (n : Nat) : Bts (w.drewN n) z sv bs := h.grown (grownBy_drewN w n _)

theorem next_nil (w : World) (a n : Int) : Calls Tryd.prog 42 #[.pointer none, .int .i64 a, .int .i64 n] w fun e w' => e = .returned (.tuple #[.slice none 0 0, .bool false]) ∧ w' = w := by
  go_enter Tryd.func42, Tryd.ntmps42
  go_wp2_with (go_at_call 59; refine (over_nil _).mono ?_; rintro e w' ⟨rfl, rfl⟩)
  go_ret2
  exact ⟨rfl, rfl⟩
theorem next_stopped (w : World) (z : Nat) (sv : Value) (pos fat code : Int) (a n : Int) (hc : (code != 0) = true) (h : DecAt w z sv pos fat code) : Calls Tryd.prog 42 #[.pointer (some ⟨z, 0, none⟩), .int .i64 a, .int .i64 n] w fun e w' => e = .returned (.tuple #[.slice none 0 0, .bool false]) ∧ w' = w := by
  go_enter Tryd.func42, Tryd.ntmps42
  go_wp2_with (go_at_call 59; refine (over_stopped _ z sv pos fat code hc h).mono ?_; rintro e w' ⟨rfl, rfl⟩)
  go_ret2
  exact ⟨rfl, rfl⟩
theorem next_ends (w : World) (z : Nat) (ao : Option Addr) (k c : Nat) (pos fat : Int) (a n : Int) (hk : k ≤ maxLen) (hp0 : 0 ≤ pos) (hp1 : pos ≤ k) (hn : k - pos < n) (h : DecAt w z (.slice ao k c) pos fat 0) :
    Calls Tryd.prog 42 #[.pointer (some ⟨z, 0, none⟩), .int .i64 a, .int .i64 n] w fun e w' => e = .returned (.tuple #[.slice none 0 0, .bool false]) ∧ DecAt w' z (.slice ao k c) pos a 10 ∧ w.grownBy w' (some z) := by
  unfold maxLen at hk
  have c0 := h.c0
  have c1 := h.c1
  go_enter Tryd.func42, Tryd.ntmps42
  go_wp2_with (go_at_call 59; refine (over_go _ z _ pos fat h).mono ?_; rintro e w' ⟨rfl, rfl⟩)
  go_quiet (fail)
  go_wp2_with (go_at_call 83; refine (stop_go _ z _ pos fat a 10 (Blk.drewN h _)).mono ?_; rintro e w' ⟨rfl, hd, hg⟩)
  go_ret2
  exact ⟨rfl, hd, grownBy_trans (grownBy_drewN _ _ _) hg⟩
/-- What next leaves, where it can take k bytes. -/
def NextOk (w : World) (z : Nat) (sv : Value) (bs : List UInt8) (p k : Nat) (fat : Int) (e : Ending) (w' : World) : Prop :=
  ∃ v, e = .returned (.tuple #[v, .bool true]) ∧ Rd w' v ((bs.drop p).take k) ∧ DecAt w' z sv (p + k : Nat) fat 0 ∧ w.grownBy w' (some z)

set_option maxHeartbeats 800000 in
theorem next_go (w : World) (z : Nat) (sv : Value) (bs : List UInt8) (p k : Nat) (fat a : Int) (hb : Bts w z sv bs) (hk : p + k ≤ bs.length) (h : DecAt w z sv p fat 0) :
    Calls Tryd.prog 42 #[.pointer (some ⟨z, 0, none⟩), .int .i64 a, .int .i64 k] w (NextOk w z sv bs p k fat) := by
  obtain ⟨hm, ⟨rfl, rfl⟩ | ⟨b, rfl, hne, hB⟩⟩ := hb
  · have hp : p = 0 := by simp at hk; omega
    have hk0 : k = 0 := by simp at hk; omega
    subst hp; subst hk0
    have c0 := h.c0
    have c1 := h.c1
    have f1 := Blk.frozen h 1
    go_enter Tryd.func42, Tryd.ntmps42
    go_wp2_with (go_at_call 59; refine (over_go _ z _ _ fat h).mono ?_; rintro e w' ⟨rfl, rfl⟩)
    go_quiet (fail)
    go_wp2
    go_quiet (fail)
    go_wp2
    go_ret2
    exact ⟨_, rfl, ⟨none, 0, rfl, Nat.le_refl _, Nat.zero_le _, .inl ⟨rfl, rfl⟩⟩, Blk.set (Blk.drewN h _) 1 (.int .i64 0), grownBy_trans (grownBy_drewN _ _ _) (grownBy_set _ z 1 _)⟩
  · unfold maxLen at hm
    have c0 := h.c0
    have c1 := h.c1
    have f1 := Blk.frozen h 1
    by_cases hpe : p = bs.length
    · have hk0 : k = 0 := by omega
      subst hpe; subst hk0
      go_enter Tryd.func42, Tryd.ntmps42
      go_wp2_with (go_at_call 59; refine (over_go _ z _ _ fat h).mono ?_; rintro e w' ⟨rfl, rfl⟩)
      go_quiet (fail)
      go_wp2
      go_quiet (fail)
      go_wp2
      go_ret2
      exact ⟨_, rfl, ⟨some ⟨b, 0, none⟩, 0, by simp, by simp, Nat.zero_le _, .inr ⟨b, 0, rfl, fun i hi => by simp at hi⟩⟩, Blk.set (Blk.drewN h _) 1 (.int .i64 bs.length), grownBy_trans (grownBy_drewN _ _ _) (grownBy_set _ z 1 _)⟩
    · have hpn : ¬ bs.length = p := fun e => hpe e.symm
      have hle : (k : Int) ≤ (bs.length : Int) - (p : Int) := by omega
      clear hpe
      go_enter Tryd.func42, Tryd.ntmps42
      go_wp2_with (go_at_call 59; refine (over_go _ z _ _ fat h).mono ?_; rintro e w' ⟨rfl, rfl⟩)
      go_quiet (fail)
      go_wp2
      go_quiet (fail)
      go_wp2
      go_ret2
      refine ⟨_, rfl, ⟨some ⟨b, p, none⟩, bs.length - p, ?_, ?_, ?_, .inr ⟨b, p, rfl, ?_⟩⟩, Blk.set (Blk.drewN h _) 1 (.int .i64 (p + k : Nat)), grownBy_trans (grownBy_drewN _ _ _) (grownBy_set _ z 1 _)⟩
      · rw [List.length_take, List.length_drop, Nat.min_eq_left (by omega)]; exact congrArg (fun n => Value.slice (some ⟨b, p, none⟩) n (bs.length - p)) (Nat.add_sub_cancel_left p k)
      · rw [List.length_take, List.length_drop]; omega
      · unfold maxLen; omega
      · intro i hi
        refine (((Blk.drewN hB _).setOther _ _ hne).cell _).trans ?_
        rw [List.length_take, List.length_drop] at hi
        have hlt : p + i < bs.length := by omega
        simp [List.getElem?_eq_getElem hlt]
end Go.Proofs.YtjcfndiceinkjabDoor

/- Plain arithmetic of numbers at seven bits a byte. -/
namespace Go.Proofs.YtjcfndiceinkjabDoor
set_option linter.unusedVariables false
set_option linter.unusedSimpArgs false
set_option maxRecDepth 100000
open Go.RowKit
/-- The document's number: the value, how many bytes, the code. -/
def firstGo (v i : Nat) : List UInt8 → Nat × Nat × Nat
  | [] => (0, 0, 10)
  | c :: r =>
    if i = 9 ∧ 1 < c.toNat then (0, 0, 11)
    else if c.toNat < 128 then
      if c.toNat = 0 ∧ 0 < i then (0, 0, 11) else (v + c.toNat % 128 * 128 ^ i, i + 1, 0)
    else firstGo (v + c.toNat % 128 * 128 ^ i) (i + 1) r

theorem pow7 (k : Nat) : (2 : Nat) ^ (7 * k) = 128 ^ k := by rw [Nat.pow_mul]
theorem and127 (y : Nat) (hy : y < 256) : bits .and .u8 (y : Int) 127 = ((y % 128 : Nat) : Int) := by
  rw [show (127 : Int) = ((127 : Nat) : Int) from rfl, u8_and_nat y 127 hy (by decide), show (127 : Nat) = 2 ^ 7 - 1 from rfl, Nat.and_two_pow_sub_one_eq_mod]
theorem pow_le9 (k : Nat) (hk : k ≤ 9) : (128 : Nat) ^ k ≤ 9223372036854775808 := Nat.le_trans (Nat.pow_le_pow_right (by decide) hk) (by decide)
theorem pow_le8 (k : Nat) (hk : k ≤ 8) : (128 : Nat) ^ k ≤ 72057594037927936 := Nat.le_trans (Nat.pow_le_pow_right (by decide) hk) (by decide)
theorem mul_bound (y k : Nat) (hk : k ≤ 9) (h9 : k = 9 → y ≤ 1) : y % 128 * 128 ^ k < 18446744073709551616 := by
  by_cases h : k = 9
  · have h1 := h9 h
    have h2 := pow_le9 k hk
    have h3 : y % 128 ≤ 1 := by omega
    calc y % 128 * 128 ^ k ≤ 1 * 9223372036854775808 := Nat.mul_le_mul h3 h2
      _ < _ := by decide
  · have h2 := pow_le8 k (by omega)
    have h3 : y % 128 ≤ 127 := by omega
    calc y % 128 * 128 ^ k ≤ 127 * 72057594037927936 := Nat.mul_le_mul h3 h2
      _ < _ := by decide
theorem or_step (x y k : Nat) (hx : x < 128 ^ k) (hy : y < 256) (hk : k ≤ 9) (h9 : k = 9 → y ≤ 1) :
    bits .or .u64 (x : Int) (IntKind.u64.wrap (IntKind.u64.wrap (bits .and .u8 (y : Int) 127) * 2 ^ (7 * k))) = ((x + y % 128 * 128 ^ k : Nat) : Int) := by
  have hb := mul_bound y k hk h9
  have hp := pow_le9 k hk
  rw [and127 y hy, IntKind.wrap_u64, IntKind.wrap_u64]
  have e1 : ((y % 128 : Nat) : Int) % 18446744073709551616 = ((y % 128 : Nat) : Int) := by omega
  have e2 : (2 : Int) ^ (7 * k) = ((128 ^ k : Nat) : Int) := by rw [← pow7 k]; simp
  rw [e1, e2, ← Int.natCast_mul]
  have e3 : (((y % 128 * 128 ^ k : Nat) : Int)) % 18446744073709551616 = ((y % 128 * 128 ^ k : Nat) : Int) := by omega
  rw [e3, u64_or_nat x _ (by omega) hb]
  congr 1
  have e4 : x < 2 ^ (7 * k) := by rw [pow7]; exact hx
  have e5 := Nat.two_pow_add_eq_or_of_lt e4 (y % 128)
  rw [pow7] at e5
  rw [Nat.or_comm, Nat.mul_comm, ← e5]; omega
theorem step_lt (x y k : Nat) (hx : x < 128 ^ k) : x + y % 128 * 128 ^ k < 128 ^ (k + 1) := by
  have h3 : y % 128 ≤ 127 := by omega
  have h4 : y % 128 * 128 ^ k ≤ 127 * 128 ^ k := Nat.mul_le_mul_right _ h3
  rw [Nat.pow_succ]; omega

theorem first_form9 (v : Nat) (u : UInt8) (r : List UInt8) (k : Nat) (hk : k = 9) (h : 1 < u.toNat) : firstGo v k (u :: r) = (0, 0, 11) := by
  rw [firstGo, if_pos ⟨hk, h⟩]
theorem first_form0 (v : Nat) (u : UInt8) (r : List UInt8) (k : Nat) (h9 : k = 9 → u.toNat ≤ 1) (h0 : u.toNat = 0) (hk : 0 < k) : firstGo v k (u :: r) = (0, 0, 11) := by
  rw [firstGo, if_neg (by intro h; have := h9 h.1; omega), if_pos (by omega), if_pos ⟨h0, hk⟩]
theorem first_end (v : Nat) (u : UInt8) (r : List UInt8) (k : Nat) (h9 : k = 9 → u.toNat ≤ 1) (h1 : u.toNat < 128) (h0 : ¬ (u.toNat = 0 ∧ 0 < k)) : firstGo v k (u :: r) = (v + u.toNat % 128 * 128 ^ k, k + 1, 0) := by
  rw [firstGo, if_neg (by intro h; have := h9 h.1; omega), if_pos h1, if_neg h0]
theorem first_moreV (v : Nat) (u : UInt8) (r : List UInt8) (k : Nat) (h9 : k ≠ 9) (h1 : 128 ≤ u.toNat) : firstGo v k (u :: r) = firstGo (v + u.toNat % 128 * 128 ^ k) (k + 1) r := by
  rw [firstGo, if_neg (by intro h; exact h9 h.1), if_neg (by omega)]
end Go.Proofs.YtjcfndiceinkjabDoor

/- wire.first: the number at the beginning of some bytes. -/
namespace Go.Proofs.YtjcfndiceinkjabDoor
set_option linter.unusedVariables false
set_option linter.unusedSimpArgs false
set_option maxRecDepth 100000
open Go.RowKit

def FirstOk (r : Nat × Nat × Nat) (w : World) (e : Ending) (w' : World) : Prop := e = .returned (.tuple #[.int .u64 r.1, .int .i64 r.2.1, .int .i64 r.2.2]) ∧ w' = w

set_option maxRecDepth 100000 in
set_option maxHeartbeats 800000 in
theorem first_any (w : World) (sv : Value) (xs : List UInt8) (h : Rd w sv xs) :
    Calls Tryd.prog 102 #[sv] w (FirstOk (firstGo 0 0 xs) w) := by
  obtain ⟨ao, c, rfl, hc, hm, hcell⟩ := h
  unfold maxLen at hm
  go_enter Tryd.func102, Tryd.ntmps102
  go_wp2
  go_loop [5, 10] (fun v i => ∃ k x : Nat, k ≤ xs.length ∧ k ≤ 9 ∧ i = .int .i64 k ∧ v = .int .u64 x ∧ x < 128 ^ k ∧ firstGo 0 0 xs = firstGo x k (xs.drop k)) (fun _ i => xs.length - (intOf i).toNat)
  case atStart => exact ⟨0, 0, Nat.zero_le _, Nat.zero_le _, rfl, rfl, by decide, rfl⟩
  case round =>
    obtain ⟨k, x, hk, hk9, rfl, rfl, hx0, hf⟩ := hrel
    have HX := hide hx0
    clear hx0
    by_cases hlt : k < xs.length
    · have hd : xs.drop k = xs[k] :: xs.drop (k + 1) := List.drop_eq_getElem_cons hlt
      obtain ⟨b, o, rfl, hcel⟩ : ∃ b o, ao = some ⟨b, o, none⟩ ∧ ∀ i (h : i < xs.length), w.cell? ⟨b, o + i, none⟩ = some (u8c xs[i]) := by
        rcases hcell with ⟨_, h⟩ | h
        · omega
        · exact h
      have hck := hcel k hlt
      rw [hd] at hf
      have HF := hide hf
      clear hf hd hcell hcel
      obtain ⟨u, hu⟩ : ∃ u, u = xs[k] := ⟨_, rfl⟩
      rw [← hu] at hck HF
      have hub : u.toNat < 256 := u.toNat_lt
      clear hu
      unfold u8c at hck
      obtain ⟨y, hy⟩ : ∃ y, y = u.toNat := ⟨_, rfl⟩
      rw [← hy] at hck hub
      have HY := hide hy
      clear hy
      go_wp2
      case roundEnd =>
        have h9 : ¬ (k : Int) = 9 := by assumption
        have h1 : (128 : Int) ≤ (y : Int) := by assumption
        have hor := or_step x y k HX.out hub hk9 (fun e => absurd (by omega) h9)
        go_round
        case rel =>
          refine ⟨k + 1, x + y % 128 * 128 ^ k, by omega, by omega, by go_num, by rw [hor], step_lt x y k HX.out, ?_⟩
          rw [HF.out, HY.out]
          exact first_moreV x u _ k (by omega) (by rw [← HY.out]; omega)
        case measure => simp [intOf]; omega
      all_goals go_ret3
      · have h9 : (k : Int) = 9 := by assumption
        have h1 : (1 : Int) < (y : Int) := by assumption
        rw [HF.out, first_form9 x u _ k (by omega) (by rw [← HY.out]; omega)]
        exact ⟨rfl, rfl⟩
      · have h9 : (k : Int) = 9 := by assumption
        have h0 : y = 0 := by assumption
        rw [HF.out, first_form0 x u _ k (fun _ => by rw [← HY.out]; omega) (by rw [← HY.out]; exact h0) (by omega)]
        exact ⟨rfl, rfl⟩
      · have h9 : (k : Int) = 9 := by assumption
        have h1 : (y : Int) ≤ 1 := by assumption
        have h0 : ¬ y = 0 := by assumption
        obtain rfl : k = 9 := by omega
        have hor := or_step x y 9 HX.out hub hk9 (fun _ => by omega)
        rw [show (2 : Int) ^ (7 * 9) = 9223372036854775808 from by decide] at hor
        rw [HF.out, first_end x u _ 9 (fun _ => by rw [← HY.out]; omega) (by rw [← HY.out]; omega) (by rw [← HY.out]; omega), ← HY.out]
        exact ⟨congrArg (fun q => Ending.returned (.tuple #[.int .u64 q, .int .i64 10, .int .i64 0])) hor, rfl⟩
      · have h9 : ¬ (k : Int) = 9 := by assumption
        have h0 : y = 0 := by assumption
        have hk0 : 0 < k := by assumption
        rw [HF.out, first_form0 x u _ k (fun _ => by rw [← HY.out]; omega) (by rw [← HY.out]; exact h0) hk0]
        exact ⟨rfl, rfl⟩
      · have h9 : ¬ (k : Int) = 9 := by assumption
        have h0 : y = 0 := by assumption
        have hk0 : ¬ 0 < k := by assumption
        subst h0
        have hor : bits .or .u64 (x : Int) (IntKind.u64.wrap (IntKind.u64.wrap (bits .and .u8 0 127) * 2 ^ (7 * k))) = ((x + 0 % 128 * 128 ^ k : Nat) : Int) := or_step x 0 k HX.out hub hk9 (fun _ => by omega)
        rw [HF.out, first_end x u _ k (fun _ => by rw [← HY.out]; omega) (by rw [← HY.out]; omega) (by omega), ← HY.out]
        exact ⟨congrArg (fun q => Ending.returned (.tuple #[.int .u64 q, .int .i64 ((k : Int) + 1), .int .i64 0])) hor, rfl⟩
      · have h9 : ¬ (k : Int) = 9 := by assumption
        have h1 : (y : Int) < 128 := by assumption
        have h0 : ¬ y = 0 := by assumption
        have hor := or_step x y k HX.out hub hk9 (fun _ => by omega)
        rw [HF.out, first_end x u _ k (fun _ => by omega) (by rw [← HY.out]; omega) (by rw [← HY.out]; omega), ← HY.out]
        exact ⟨congrArg (fun q => Ending.returned (.tuple #[.int .u64 q, .int .i64 ((k : Int) + 1), .int .i64 0])) hor, rfl⟩
    · have HF := hide hf
      clear hf hcell
      go_wp2
      go_ret3
      rw [HF.out, List.drop_eq_nil_of_le (by omega)]
      exact ⟨rfl, rfl⟩
end Go.Proofs.YtjcfndiceinkjabDoor

/- number, Var, Raw, Key, Text on a wire.Dec that lies in memory. -/
namespace Go.Proofs.YtjcfndiceinkjabDoor
set_option linter.unusedVariables false
set_option linter.unusedSimpArgs false
set_option maxRecDepth 100000
open Go.RowKit

theorem first_is (w : World) (sv : Value) (xs : List UInt8) (v n c : Nat) (hr : firstGo 0 0 xs = (v, n, c)) (h : Rd w sv xs) :
    Calls Tryd.prog 102 #[sv] w fun e w' => e = .returned (.tuple #[.int .u64 v, .int .i64 n, .int .i64 c]) ∧ w' = w := by
  have := first_any w sv xs h
  rw [hr] at this
  exact this

theorem Rd_drop_some {w : World} {b : Nat} {bs : List UInt8} (hm : bs.length ≤ maxLen) (hB : Blk w b (bs.map u8c).toArray 5) (p : Nat) (hp : p < bs.length) : Rd w (.slice (some ⟨b, p, none⟩) (bs.length - p) (bs.length - p)) (bs.drop p) := by
  refine ⟨some ⟨b, p, none⟩, bs.length - p, by rw [List.length_drop], by rw [List.length_drop]; omega, by omega, .inr ⟨b, p, rfl, fun i hi => ?_⟩⟩
  rw [hB.cell]
  rw [List.length_drop] at hi
  have hlt : p + i < bs.length := by omega
  simp [List.getElem?_eq_getElem hlt]
theorem Rd_at (w : World) (b o : Nat) : Rd w (.slice (some ⟨b, o, none⟩) 0 0) [] := ⟨some ⟨b, o, none⟩, 0, rfl, Nat.le_refl _, Nat.zero_le _, .inr ⟨b, o, rfl, fun i hi => by simp at hi⟩⟩

theorem number_nil (w : World) (most : Int) : Calls Tryd.prog 88 #[.pointer none, .int .u64 most] w fun e w' => e = .returned (.tuple #[.int .u64 0, .bool false]) ∧ w' = w := by
  go_enter Tryd.func88, Tryd.ntmps88
  go_wp2_with (go_at_call 59; refine (over_nil _).mono ?_; rintro e w' ⟨rfl, rfl⟩)
  go_ret2
  exact ⟨rfl, rfl⟩
theorem number_stopped (w : World) (z : Nat) (sv : Value) (pos fat code : Int) (most : Int) (hc : (code != 0) = true) (h : DecAt w z sv pos fat code) : Calls Tryd.prog 88 #[.pointer (some ⟨z, 0, none⟩), .int .u64 most] w fun e w' => e = .returned (.tuple #[.int .u64 0, .bool false]) ∧ w' = w := by
  go_enter Tryd.func88, Tryd.ntmps88
  go_wp2_with (go_at_call 59; refine (over_stopped _ z sv pos fat code hc h).mono ?_; rintro e w' ⟨rfl, rfl⟩)
  go_ret2
  exact ⟨rfl, rfl⟩

/-- What a number leaves. -/
def NumOk (w : World) (z : Nat) (sv : Value) (p : Nat) (v : Nat) (ok : Bool) (p' : Nat) (fat' code' : Int) (e : Ending) (w' : World) : Prop :=
  e = .returned (.tuple #[.int .u64 v, .bool ok]) ∧ DecAt w' z sv p' fat' code' ∧ w.grownBy w' (some z)

set_option maxHeartbeats 1600000 in
theorem number_ok (w : World) (z : Nat) (sv : Value) (bs : List UInt8) (p : Nat) (fat : Int) (most v n : Nat) (hb : Bts w z sv bs) (hp : p ≤ bs.length) (h : DecAt w z sv p fat 0)
    (hr : firstGo 0 0 (bs.drop p) = (v, n, 0)) (hn : p + n ≤ bs.length) (hv : v ≤ most) :
    Calls Tryd.prog 88 #[.pointer (some ⟨z, 0, none⟩), .int .u64 most] w (NumOk w z sv p v true (p + n) fat 0) := by
  have c0 := h.c0
  have c1 := h.c1
  have f1 := Blk.frozen h 1
  have HR := hide hr
  clear hr
  have hle : (v : Int) ≤ (most : Int) := by omega
  obtain ⟨hm, ⟨rfl, rfl⟩ | ⟨b, rfl, hne, hB⟩⟩ := hb
  · have hp0 : p = 0 := by simp at hp; omega
    have hn0 : n = 0 := by simp at hn; omega
    subst hp0; subst hn0
    exact absurd (congrArg (fun q : Nat × Nat × Nat => q.2.2) HR.out) (by show ¬ (10 : Nat) = 0; decide)
  · by_cases hpe : p = bs.length
    · subst hpe
      have := HR.out
      rw [List.drop_length] at this
      exact absurd (congrArg (fun q : Nat × Nat × Nat => q.2.2) this) (by show ¬ (10 : Nat) = 0; decide)
    · have hpn : ¬ bs.length = p := fun e => hpe e.symm
      have hrd := fun (m : Nat) => Rd_drop_some hm (Blk.drewN hB m) p (by omega)
      have HD := hide hrd
      have hm2 : bs.length ≤ 9223372036854775807 := hm
      clear hrd hpe
      go_enter Tryd.func88, Tryd.ntmps88
      go_wp2_with (go_at_call 59; refine (over_go _ z _ _ fat h).mono ?_; rintro e w' ⟨rfl, rfl⟩)
      go_quiet ((go_at_call 102; exact Calls.quiet_of_same (first_is _ _ _ v n 0 HR.out (HD.out _))))
      go_wp2
      go_ret2
      exact ⟨rfl, Blk.set (Blk.drewN h _) 1 (.int .i64 (p + n : Nat)), grownBy_trans (grownBy_drewN _ _ _) (grownBy_set _ z 1 _)⟩

set_option maxHeartbeats 1600000 in
theorem number_beyond (w : World) (z : Nat) (sv : Value) (bs : List UInt8) (p : Nat) (fat : Int) (most v n : Nat) (hb : Bts w z sv bs) (hp : p ≤ bs.length) (h : DecAt w z sv p fat 0)
    (hr : firstGo 0 0 (bs.drop p) = (v, n, 0)) (hv : most < v) :
    Calls Tryd.prog 88 #[.pointer (some ⟨z, 0, none⟩), .int .u64 most] w (NumOk w z sv p 0 false p p 12) := by
  have c0 := h.c0
  have c1 := h.c1
  have HR := hide hr
  clear hr
  have hle : (most : Int) < (v : Int) := by omega
  obtain ⟨hm, ⟨rfl, rfl⟩ | ⟨b, rfl, hne, hB⟩⟩ := hb
  · have := HR.out
    rw [List.drop_nil] at this
    exact absurd (congrArg (fun q : Nat × Nat × Nat => q.2.2) this) (by show ¬ (10 : Nat) = 0; decide)
  · by_cases hpe : p = bs.length
    · subst hpe
      have := HR.out
      rw [List.drop_length] at this
      exact absurd (congrArg (fun q : Nat × Nat × Nat => q.2.2) this) (by show ¬ (10 : Nat) = 0; decide)
    · have hpn : ¬ bs.length = p := fun e => hpe e.symm
      have hrd := fun (m : Nat) => Rd_drop_some hm (Blk.drewN hB m) p (by omega)
      have HD := hide hrd
      have hm2 : bs.length ≤ 9223372036854775807 := hm
      clear hrd hpe
      go_enter Tryd.func88, Tryd.ntmps88
      go_wp2_with (go_at_call 59; refine (over_go _ z _ _ fat h).mono ?_; rintro e w' ⟨rfl, rfl⟩)
      go_quiet ((go_at_call 102; exact Calls.quiet_of_same (first_is _ _ _ v n 0 HR.out (HD.out _))))
      go_wp2_with (go_at_call 83; refine (stop_go _ z _ p fat p 12 (Blk.drewN h _)).mono ?_; rintro e w' ⟨rfl, hd, hg⟩)
      go_ret2
      exact ⟨rfl, hd, grownBy_trans (grownBy_drewN _ _ _) hg⟩

set_option maxHeartbeats 1600000 in
theorem number_bad (w : World) (z : Nat) (sv : Value) (bs : List UInt8) (p : Nat) (fat : Int) (most v n c : Nat) (hb : Bts w z sv bs) (hp : p ≤ bs.length) (h : DecAt w z sv p fat 0)
    (hr : firstGo 0 0 (bs.drop p) = (v, n, c)) (hc : ((c : Int) == 0) = false) (hc2 : ((c : Int) != 0) = true) :
    Calls Tryd.prog 88 #[.pointer (some ⟨z, 0, none⟩), .int .u64 most] w (NumOk w z sv p 0 false p p c) := by
  have c0 := h.c0
  have c1 := h.c1
  have HR := hide hr
  clear hr
  obtain ⟨hm, ⟨rfl, rfl⟩ | ⟨b, rfl, hne, hB⟩⟩ := hb
  · have hp0 : p = 0 := by simp at hp; omega
    subst hp0
    have hrd := fun (m : Nat) => Rd_none (w.drewN m)
    have HD := hide hrd
    clear hrd
    have HR2 : Hid (firstGo 0 0 [] = (v, n, c)) := HR
    go_enter Tryd.func88, Tryd.ntmps88
    go_wp2_with (go_at_call 59; refine (over_go _ z _ _ fat h).mono ?_; rintro e w' ⟨rfl, rfl⟩)
    go_quiet ((go_at_call 102; exact Calls.quiet_of_same (first_is _ _ _ v n c HR2.out (HD.out _))))
    go_wp2_with (go_at_call 83; refine (stop_go _ z _ 0 fat 0 c (Blk.drewN h _)).mono ?_; rintro e w' ⟨rfl, hd, hg⟩)
    go_ret2
    exact ⟨rfl, hd, grownBy_trans (grownBy_drewN _ _ _) hg⟩
  · by_cases hpe : p = bs.length
    · subst hpe
      have HR2 : Hid (firstGo 0 0 [] = (v, n, c)) := by have := HR.out; rw [List.drop_length] at this; exact this
      have hrd := fun (m : Nat) => Rd_at (w.drewN m) b 0
      have HD := hide hrd
      have hm2 : bs.length ≤ 9223372036854775807 := hm
      clear hrd HR
      go_enter Tryd.func88, Tryd.ntmps88
      go_wp2_with (go_at_call 59; refine (over_go _ z _ _ fat h).mono ?_; rintro e w' ⟨rfl, rfl⟩)
      go_quiet ((go_at_call 102; exact Calls.quiet_of_same (first_is _ _ _ v n c HR2.out (HD.out _))))
      go_wp2_with (go_at_call 83; refine (stop_go _ z _ bs.length fat bs.length c (Blk.drewN h _)).mono ?_; rintro e w' ⟨rfl, hd, hg⟩)
      go_ret2
      exact ⟨rfl, hd, grownBy_trans (grownBy_drewN _ _ _) hg⟩
    · have hpn : ¬ bs.length = p := fun e => hpe e.symm
      have hrd := fun (m : Nat) => Rd_drop_some hm (Blk.drewN hB m) p (by omega)
      have HD := hide hrd
      have hm2 : bs.length ≤ 9223372036854775807 := hm
      clear hrd hpe
      go_enter Tryd.func88, Tryd.ntmps88
      go_wp2_with (go_at_call 59; refine (over_go _ z _ _ fat h).mono ?_; rintro e w' ⟨rfl, rfl⟩)
      go_quiet ((go_at_call 102; exact Calls.quiet_of_same (first_is _ _ _ v n c HR.out (HD.out _))))
      go_wp2_with (go_at_call 83; refine (stop_go _ z _ p fat p c (Blk.drewN h _)).mono ?_; rintro e w' ⟨rfl, hd, hg⟩)
      go_ret2
      exact ⟨rfl, hd, grownBy_trans (grownBy_drewN _ _ _) hg⟩
end Go.Proofs.YtjcfndiceinkjabDoor

/- The document's Dec as a plain machine. -/
namespace Go.Proofs.YtjcfndiceinkjabDoor
set_option linter.unusedVariables false
set_option linter.unusedSimpArgs false
set_option maxRecDepth 100000
open Go.RowKit

theorem firstGo_len (xs : List UInt8) : ∀ (v i : Nat), (firstGo v i xs).2.2 = 0 → (firstGo v i xs).2.1 ≤ i + xs.length ∧ i < (firstGo v i xs).2.1 := by
  induction xs with
  | nil => intro v i h; simp [firstGo] at h
  | cons c r ih =>
    intro v i h
    rw [firstGo] at h ⊢
    split at h
    · simp at h
    · rename_i h1
      rw [if_neg h1]
      split at h
      · rename_i h2
        rw [if_pos h2]
        split at h
        · simp at h
        · rename_i h3
          rw [if_neg h3]; simp
      · rename_i h2
        rw [if_neg h2]
        have := ih _ _ h
        simp; omega
theorem firstGo_lt (xs : List UInt8) : ∀ (v i : Nat), v < 128 ^ i → i ≤ 9 → (firstGo v i xs).1 < 18446744073709551616 := by
  induction xs with
  | nil => intro v i _ _; simp [firstGo]
  | cons c r ih =>
    intro v i hv hi
    rw [firstGo]
    split
    · simp
    · rename_i h1
      split
      · rename_i h2
        split
        · simp
        · by_cases h9 : i = 9
          · have h3 : c.toNat ≤ 1 := by omega
            subst h9
            have h4 : c.toNat % 128 ≤ 1 := by omega
            have h5 : c.toNat % 128 * 128 ^ 9 ≤ 1 * 128 ^ 9 := Nat.mul_le_mul_right _ h4
            have h6 : (128 : Nat) ^ 9 = 9223372036854775808 := by decide
            simp only []
            omega
          · have h3 := step_lt v c.toNat i hv
            have h4 := pow_le9 (i + 1) (by omega)
            simp only []
            omega
      · rename_i h2
        have h9 : i ≠ 9 := by omega
        exact ih _ _ (step_lt v c.toNat i hv) (by omega)

/-- Where a Dec stands; its fault (code 0: none). -/
structure S where
  p : Nat
  fat : Nat
  code : Nat

def mNum (bs : List UInt8) (s : S) (most : Nat) : Nat × Bool × S :=
  if s.code ≠ 0 then (0, false, s)
  else if (firstGo 0 0 (bs.drop s.p)).2.2 ≠ 0 then (0, false, { s with fat := s.p, code := (firstGo 0 0 (bs.drop s.p)).2.2 })
  else if most < (firstGo 0 0 (bs.drop s.p)).1 then (0, false, { s with fat := s.p, code := 12 })
  else ((firstGo 0 0 (bs.drop s.p)).1, true, { s with p := s.p + (firstGo 0 0 (bs.drop s.p)).2.1 })
def mNext (bs : List UInt8) (s : S) (start k : Nat) : Option (List UInt8) × S :=
  if s.code ≠ 0 then (none, s)
  else if bs.length < s.p + k then (none, { s with fat := start, code := 10 })
  else (some ((bs.drop s.p).take k), { s with p := s.p + k })
def mPlace (s : S) : Nat := if s.code ≠ 0 then s.fat else s.p
def mLeft (bs : List UInt8) (s : S) : Nat := if s.code ≠ 0 then 0 else bs.length - s.p

theorem mNum_le (bs : List UInt8) (s : S) (most : Nat) (h : s.p ≤ bs.length) : (mNum bs s most).2.2.p ≤ bs.length := by
  unfold mNum
  split
  · exact h
  · split
    · exact h
    · rename_i h2
      split
      · exact h
      · have := (firstGo_len (bs.drop s.p) 0 0 (by omega)).1
        rw [List.length_drop] at this
        simp; omega
theorem mNum_ok_le (bs : List UInt8) (s : S) (most : Nat) : (mNum bs s most).1 ≤ most := by
  unfold mNum
  split
  · simp
  · split
    · simp
    · split
      · simp
      · simp; omega
theorem mNext_le (bs : List UInt8) (s : S) (start k : Nat) (h : s.p ≤ bs.length) : (mNext bs s start k).2.p ≤ bs.length := by
  unfold mNext
  split
  · exact h
  · split
    · exact h
    · simp; omega
end Go.Proofs.YtjcfndiceinkjabDoor

/- The calls on a Dec by the plain machine: number, next, Var, At, Left, bound. -/
namespace Go.Proofs.YtjcfndiceinkjabDoor
set_option linter.unusedVariables false
set_option linter.unusedSimpArgs false
set_option maxRecDepth 100000
open Go.RowKit

/-- A Dec in memory stands as the plain machine says. -/
def DecSt (w : World) (z : Nat) (sv : Value) (bs : List UInt8) (s : S) : Prop :=
  Bts w z sv bs ∧ s.p ≤ bs.length ∧ DecAt w z sv s.p s.fat s.code

theorem DecSt.lt {w : World} {z : Nat} {sv : Value} {bs : List UInt8} {s : S} (h : DecSt w z sv bs s) : z < w.heap.size := Blk.lt h.2.2
theorem DecSt.grown {w w' : World} {z : Nat} {sv : Value} {bs : List UInt8} {s : S} (h : DecSt w z sv bs s) {row : Option Nat} (hg : w.grownBy w' row) (hz : some z ≠ row) (hb : ∀ b, sv = .slice (some ⟨b, 0, none⟩) bs.length bs.length → some b ≠ row) : DecSt w' z sv bs s := by
  obtain ⟨⟨h0, h1⟩, h2, h3⟩ := h
  refine ⟨⟨h0, ?_⟩, h2, Blk.grown h3 hg hz⟩
  rcases h1 with h1 | ⟨b, e, hne, hB⟩
  · exact .inl h1
  · exact .inr ⟨b, e, hne, hB.grown hg (hb b e)⟩
theorem DecSt.below {w w' : World} {z : Nat} {sv : Value} {bs : List UInt8} {s : S} (h : DecSt w z sv bs s) (hg : Below w.heap.size w w') : DecSt w' z sv bs s :=
  h.grown (row := none) (grownBy_below hg) (by simp) (by simp)
theorem DecSt.drewN {w : World} {z : Nat} {sv : Value} {bs : List UInt8} {s : S} (h : DecSt w z sv bs s) (n : Nat) : DecSt (w.drewN n) z sv bs s := h

theorem neqNat {c : Nat} (h : c ≠ 0) : ((c : Int) != 0) = true := by rw [bne_iff_ne]; omega
theorem eqNat {c : Nat} (h : c ≠ 0) : ((c : Int) == 0) = false := by rw [beq_eq_false_iff_ne]; omega

theorem over_st (w : World) (z : Nat) (sv : Value) (bs : List UInt8) (s : S) (h : DecSt w z sv bs s) : Calls Tryd.prog 59 #[.pointer (some ⟨z, 0, none⟩)] w fun e w' => e = .returned (.bool (decide (s.code ≠ 0))) ∧ w' = w := by
  by_cases hc : s.code = 0
  · have h2 := h.2.2
    rw [hc] at h2
    have := over_go w z sv s.p s.fat h2
    simpa [hc] using this
  · have := over_stopped w z sv s.p s.fat s.code (neqNat hc) h.2.2
    simpa [hc] using this
theorem at_st (w : World) (z : Nat) (sv : Value) (bs : List UInt8) (s : S) (h : DecSt w z sv bs s) : Calls Tryd.prog 43 #[.pointer (some ⟨z, 0, none⟩)] w fun e w' => e = .returned (.int .i64 (mPlace s)) ∧ w' = w := by
  by_cases hc : s.code = 0
  · have h2 := h.2.2
    rw [hc] at h2
    have := at_go w z sv s.p s.fat h2
    simpa [hc, mPlace] using this
  · have := at_stopped w z sv s.p s.fat s.code (neqNat hc) h.2.2
    simpa [hc, mPlace] using this
theorem left_st (w : World) (z : Nat) (sv : Value) (bs : List UInt8) (s : S) (h : DecSt w z sv bs s) : Calls Tryd.prog 47 #[.pointer (some ⟨z, 0, none⟩)] w fun e w' => e = .returned (.int .i64 (mLeft bs s)) ∧ ∃ m, w' = w.drewN m := by
  by_cases hc : s.code = 0
  · obtain ⟨⟨hm, hb⟩, hp, h2⟩ := h
    rw [hc] at h2
    obtain ⟨ao, hsv⟩ : ∃ ao, sv = .slice ao bs.length bs.length := by
      rcases hb with ⟨e1, e2⟩ | ⟨b, e1, _⟩
      · exact ⟨none, by rw [e1, e2]; rfl⟩
      · exact ⟨_, e1⟩
    rw [hsv] at h2
    refine (left_go w z ao bs.length bs.length s.p s.fat (by omega) (by omega) hm h2).mono ?_
    rintro e w' ⟨he, hw⟩
    refine ⟨?_, hw⟩
    rw [he, mLeft, if_neg (by omega)]
    congr 2
    omega
  · refine (left_stopped w z sv s.p s.fat s.code (neqNat hc) h.2.2).mono ?_
    rintro e w' ⟨he, hw⟩
    refine ⟨?_, 0, hw⟩
    rw [he, mLeft, if_pos hc]
    rfl

def NumC (w : World) (z : Nat) (sv : Value) (bs : List UInt8) (r : Nat × Bool × S) (e : Ending) (w' : World) : Prop :=
  e = .returned (.tuple #[.int .u64 r.1, .bool r.2.1]) ∧ DecSt w' z sv bs r.2.2 ∧ w.grownBy w' (some z)
theorem number_st (w : World) (z : Nat) (sv : Value) (bs : List UInt8) (s : S) (most : Nat) (h : DecSt w z sv bs s) :
    Calls Tryd.prog 88 #[.pointer (some ⟨z, 0, none⟩), .int .u64 most] w (NumC w z sv bs (mNum bs s most)) := by
  have hle := mNum_le bs s most h.2.1
  have hfl := firstGo_len (bs.drop s.p) 0 0
  obtain ⟨v, n, c, hr⟩ : ∃ v n c, firstGo 0 0 (bs.drop s.p) = (v, n, c) := ⟨_, _, _, rfl⟩
  obtain ⟨hb, hp, h2⟩ := h
  unfold mNum at hle ⊢
  rw [hr] at hfl hle ⊢
  by_cases hc : s.code = 0
  · rw [hc] at h2
    rw [if_neg (by omega)] at hle ⊢
    by_cases hcc : c = 0
    · subst hcc
      have hfl := hfl rfl
      rw [List.length_drop] at hfl
      simp only [ne_eq, not_true_eq_false, if_false] at hle ⊢
      by_cases hv : most < v
      · rw [if_pos hv] at hle ⊢
        refine (number_beyond w z sv bs s.p s.fat most v n hb hp h2 hr hv).mono ?_
        rintro e w' ⟨he, hd, hg⟩
        exact ⟨he, ⟨hb.grown hg, hp, hd⟩, hg⟩
      · rw [if_neg hv] at hle ⊢
        refine (number_ok w z sv bs s.p s.fat most v n hb hp h2 hr (by simp only [] at hfl; omega) (by omega)).mono ?_
        rintro e w' ⟨he, hd, hg⟩
        refine ⟨he, ⟨hb.grown hg, hle, ?_⟩, hg⟩
        simp only [hc]
        exact hd
    · simp only [ne_eq, hcc, not_false_eq_true, if_true] at hle ⊢
      refine (number_bad w z sv bs s.p s.fat most v n c hb hp h2 hr (eqNat hcc) (neqNat hcc)).mono ?_
      rintro e w' ⟨he, hd, hg⟩
      exact ⟨he, ⟨hb.grown hg, hp, hd⟩, hg⟩
  · rw [if_pos hc]
    refine (number_stopped w z sv s.p s.fat s.code most (neqNat hc) h2).mono ?_
    rintro e w' ⟨he, hw⟩
    rw [hw]
    exact ⟨he, ⟨hb, hp, h2⟩, World.grownBy.refl _ _⟩

def NextC (w : World) (z : Nat) (sv : Value) (bs : List UInt8) (r : Option (List UInt8) × S) (e : Ending) (w' : World) : Prop :=
  (∃ v, e = .returned (.tuple #[v, .bool r.1.isSome]) ∧ (r.1 = none → v = .slice none 0 0) ∧ Rd w' v (r.1.getD [])) ∧ DecSt w' z sv bs r.2 ∧ w.grownBy w' (some z)
theorem next_st (w : World) (z : Nat) (sv : Value) (bs : List UInt8) (s : S) (start k : Nat) (h : DecSt w z sv bs s) :
    Calls Tryd.prog 42 #[.pointer (some ⟨z, 0, none⟩), .int .i64 start, .int .i64 k] w (NextC w z sv bs (mNext bs s start k)) := by
  have hle := mNext_le bs s start k h.2.1
  have h0 := h
  obtain ⟨hb, hp, h2⟩ := h
  unfold mNext at hle ⊢
  by_cases hc : s.code = 0
  · rw [hc] at h2
    rw [if_neg (by omega)] at hle ⊢
    by_cases hk : bs.length < s.p + k
    · rw [if_pos hk] at hle ⊢
      obtain ⟨ao, hsv⟩ : ∃ ao, sv = .slice ao bs.length bs.length := by
        rcases hb.2 with ⟨e1, e2⟩ | ⟨b, e1, _⟩
        · exact ⟨none, by rw [e1, e2]; rfl⟩
        · exact ⟨_, e1⟩
      subst hsv
      refine (next_ends w z ao bs.length bs.length s.p s.fat start k hb.1 (by omega) (by omega) (by omega) h2).mono ?_
      rintro e w' ⟨he, hd, hg⟩
      exact ⟨⟨_, he, fun _ => rfl, Rd_none _⟩, ⟨hb.grown hg, hp, hd⟩, hg⟩
    · rw [if_neg hk] at hle ⊢
      refine (next_go w z sv bs s.p k s.fat start hb (by omega) h2).mono ?_
      rintro e w' ⟨v, he, hrd, hd, hg⟩
      refine ⟨⟨v, he, fun e => by simp at e, hrd⟩, ⟨hb.grown hg, hle, ?_⟩, hg⟩
      simp only [hc]
      exact hd
  · rw [if_pos hc]
    refine (next_stopped w z sv s.p s.fat s.code start k (neqNat hc) h2).mono ?_
    rintro e w' ⟨he, hw⟩
    rw [hw]
    exact ⟨⟨_, he, fun _ => rfl, Rd_none _⟩, ⟨hb, hp, h2⟩, World.grownBy.refl _ _⟩

def VarC (w : World) (z : Nat) (sv : Value) (bs : List UInt8) (r : Nat × Bool × S) (e : Ending) (w' : World) : Prop :=
  e = .returned (.int .u64 r.1) ∧ DecSt w' z sv bs r.2.2 ∧ w.grownBy w' (some z)
theorem var_st (w : World) (z : Nat) (sv : Value) (bs : List UInt8) (s : S) (most : Nat) (h : DecSt w z sv bs s) :
    Calls Tryd.prog 84 #[.pointer (some ⟨z, 0, none⟩), .int .u64 most] w (VarC w z sv bs (mNum bs s most)) := by
  have HN := hide (number_st w z sv bs s most h)
  generalize mNum bs s most = r at HN ⊢
  go_enter Tryd.func84, Tryd.ntmps84
  go_wp2_with (go_at_call 88; refine (HN.out).mono ?_; rintro e w' ⟨rfl, hd, hg⟩)
  go_ret
  exact ⟨rfl, hd, hg⟩
theorem var_nil (w : World) (most : Int) : Calls Tryd.prog 84 #[.pointer none, .int .u64 most] w fun e w' => e = .returned (.int .u64 0) ∧ w' = w := by
  go_enter Tryd.func84, Tryd.ntmps84
  go_wp2_with (go_at_call 88; refine (number_nil _ _).mono ?_; rintro e w' ⟨rfl, rfl⟩)
  go_ret
  exact ⟨rfl, rfl⟩
theorem bound_any (w : World) (m : Int) (h1 : -9223372036854775808 ≤ m) (h2 : m ≤ 9223372036854775807) : Calls Tryd.prog 85 #[.int .i64 m] w fun e w' => e = .returned (.int .u64 (m.toNat : Nat)) ∧ w' = w := by
  by_cases h : 0 ≤ m
  · obtain ⟨n, rfl⟩ := Int.eq_ofNat_of_zero_le h
    go_enter Tryd.func85, Tryd.ntmps85
    go_wp2
    go_ret
    exact ⟨congrArg (fun q => Ending.returned (.int .u64 q)) (by omega), rfl⟩
  · go_enter Tryd.func85, Tryd.ntmps85
    go_wp2
    go_ret
    exact ⟨congrArg (fun q => Ending.returned (.int .u64 q)) (by omega), rfl⟩
end Go.Proofs.YtjcfndiceinkjabDoor

/- Raw and Text on a Dec. -/
namespace Go.Proofs.YtjcfndiceinkjabDoor
set_option linter.unusedVariables false
set_option linter.unusedSimpArgs false
set_option maxRecDepth 100000
open Go.RowKit
def RawC (w : World) (z : Nat) (sv : Value) (bs : List UInt8) (r : Option (List UInt8) × S) (e : Ending) (w' : World) : Prop :=
  (∃ v, e = .returned v ∧ w'.ownsRow w.heap.size 5 1 v (r.1.getD []).length ((r.1.getD []).map u8c)) ∧ DecSt w' z sv bs r.2 ∧ w.grownBy w' (some z)

theorem mNext_len (bs : List UInt8) (s : S) (a k : Nat) : ((mNext bs s a k).1.getD []).length ≤ bs.length := by
  unfold mNext
  split
  · simp
  · split
    · simp
    · simp; omega

set_option maxRecDepth 20000 in
set_option maxHeartbeats 800000 in
theorem raw_st (w : World) (z : Nat) (sv : Value) (bs : List UInt8) (s : S) (n : Int) (hn : 0 ≤ n) (h2 : n ≤ 9223372036854775807) (h : DecSt w z sv bs s) (hlen : bs.length ≤ 281474976710656) :
    Calls Tryd.prog 46 #[.pointer (some ⟨z, 0, none⟩), .int .i64 n] w (RawC w z sv bs (mNext bs s (mPlace s) n.toNat)) := by
  obtain ⟨k, hk⟩ : ∃ k : Nat, n.toNat = k := ⟨_, rfl⟩
  rw [hk]
  have HA := hide (fun w h => at_st w z sv bs s h)
  have HN := hide (fun w h => next_st w z sv bs s (mPlace s) k h)
  have hxl := mNext_len bs s (mPlace s) k
  generalize mNext bs s (mPlace s) k = r at HN hxl ⊢
  generalize mPlace s = q at HA HN
  obtain ⟨r1, r2⟩ := r
  · obtain rfl : n = k := by omega
    clear hk
    go_enter Tryd.func46, Tryd.ntmps46
    go_wp2_with fail
    refine (HA.out _ h).mono ?_
    rintro e w' ⟨rfl, rfl⟩
    go_wp2_with fail
    refine (HN.out _ h).mono ?_
    rintro e w1 ⟨⟨v, rfl, hv, hrd⟩, hd, hg⟩
    cases r1 with
    | none =>
      have hv := hv rfl
      subst hv
      go_wp2
      go_ret
      exact ⟨⟨_, rfl, World.ownsRow_nil _ _ _ _⟩, hd, hg⟩
    | some xs =>
      clear hv
      simp only [Option.getD_some] at hxl hrd
      have hmk := make_u8 xs.length (by omega)
      have hcp := copy_made w1 v xs hrd
      obtain ⟨ao, c, hv, hrest⟩ := hrd
      clear hrest
      subst hv
      go_wp2
      go_ret
      exact ⟨⟨_, rfl, owns_made w1 xs (by unfold maxLen; omega) _ hg.size⟩, hd.below ((Below.refl _ _).alloc (Nat.le_refl _) _), grownBy_trans hg (World.grownBy_alloc _ _ _)⟩
/-- Text by the plain machine. -/
def mText (bs : List UInt8) (s : S) (most : Nat) : List UInt8 × S :=
  if (mNum bs s most).2.1 then ((mNext bs (mNum bs s most).2.2 (mPlace s) (mNum bs s most).1).1.getD [], (mNext bs (mNum bs s most).2.2 (mPlace s) (mNum bs s most).1).2)
  else ([], (mNum bs s most).2.2)

def TextC (w : World) (z : Nat) (sv : Value) (bs : List UInt8) (r : List UInt8 × S) (e : Ending) (w' : World) : Prop :=
  e = .returned (.string ⟨r.1.toArray⟩) ∧ DecSt w' z sv bs r.2 ∧ w.grownBy w' (some z)

set_option maxRecDepth 20000 in
set_option maxHeartbeats 800000 in
theorem text_st (w : World) (z : Nat) (sv : Value) (bs : List UInt8) (s : S) (n : Int) (h1 : -9223372036854775808 ≤ n) (h2 : n ≤ 9223372036854775807) (h : DecSt w z sv bs s) :
    Calls Tryd.prog 58 #[.pointer (some ⟨z, 0, none⟩), .int .i64 n] w (TextC w z sv bs (mText bs s n.toNat)) := by
  have HA := hide (fun w h => at_st w z sv bs s h)
  have HB := hide (fun w => bound_any w n h1 h2)
  have HN := hide (fun w h => number_st w z sv bs s n.toNat h)
  have hle := mNum_ok_le bs s n.toNat
  obtain ⟨r', hr'⟩ : ∃ r', mText bs s n.toNat = r' := ⟨_, rfl⟩
  rw [hr']
  unfold mText at hr'
  have HT := hide hr'
  clear hr'
  have HX := hide (fun w s' k h => next_st w z sv bs s' (mPlace s) k h)
  generalize mNum bs s n.toNat = r at HN hle HT
  generalize mPlace s = q at HA HX HT
  obtain ⟨v, ok, s'⟩ := r
  have hv63 : v ≤ 9223372036854775807 := by simp only [] at hle; omega
  clear hle
  generalize n.toNat = m at HB HN
  go_enter Tryd.func58, Tryd.ntmps58
  go_wp2_with fail
  refine (HA.out _ h).mono ?_
  rintro e w' ⟨rfl, rfl⟩
  go_wp2_with fail
  refine (HB.out _).mono ?_
  rintro e w' ⟨rfl, rfl⟩
  go_wp2_with fail
  refine (HN.out _ h).mono ?_
  rintro e w1 ⟨rfl, hd, hg⟩
  cases ok with
  | false =>
    go_wp2
    go_ret
    rw [← HT.out]
    exact ⟨rfl, hd, hg⟩
  | true =>
    go_wp2_with fail
    refine (HX.out _ _ v hd).mono ?_
    rintro e w2 ⟨⟨u, rfl, hu, hrd⟩, hd2, hg2⟩
    have hcv := conv_rd w2 u _ hrd
    clear hrd hu
    go_wp2
    go_ret
    rw [← HT.out]
    exact ⟨rfl, hd2, grownBy_trans hg hg2⟩
theorem text_nil (w : World) (n : Int) (h1 : -9223372036854775808 ≤ n) (h2 : n ≤ 9223372036854775807) : Calls Tryd.prog 58 #[.pointer none, .int .i64 n] w fun e w' => e = .returned (.string ⟨#[]⟩) ∧ w' = w := by
  go_enter Tryd.func58, Tryd.ntmps58
  go_wp2_with (first | (go_at_call 43; refine (at_nil _).mono ?_; rintro e w' ⟨rfl, rfl⟩) | (go_at_call 85; refine (bound_any _ _ h1 h2).mono ?_; rintro e w' ⟨rfl, rfl⟩) | (go_at_call 88; refine (number_nil _ _).mono ?_; rintro e w' ⟨rfl, rfl⟩))
  go_ret
  exact ⟨rfl, rfl⟩
end Go.Proofs.YtjcfndiceinkjabDoor

/- Key on a Dec. -/
namespace Go.Proofs.YtjcfndiceinkjabDoor
set_option linter.unusedVariables false
set_option linter.unusedSimpArgs false
set_option maxRecDepth 100000
open Go.RowKit
/-- A key's cells: those of 32 bytes that were taken, or noughts. -/
def keyCells (r : Option (List UInt8)) : Array Value := match r with
  | some xs => (xs.map u8c).toArray
  | none => #[.int .u8 0, .int .u8 0, .int .u8 0, .int .u8 0, .int .u8 0, .int .u8 0, .int .u8 0, .int .u8 0, .int .u8 0, .int .u8 0, .int .u8 0, .int .u8 0, .int .u8 0, .int .u8 0, .int .u8 0, .int .u8 0, .int .u8 0, .int .u8 0, .int .u8 0, .int .u8 0, .int .u8 0, .int .u8 0, .int .u8 0, .int .u8 0, .int .u8 0, .int .u8 0, .int .u8 0, .int .u8 0, .int .u8 0, .int .u8 0, .int .u8 0, .int .u8 0]

def KeyDC (w : World) (z : Nat) (sv : Value) (bs : List UInt8) (r : Option (List UInt8) × S) (e : Ending) (w' : World) : Prop :=
  e = .returned (.agg (keyCells r.1)) ∧ DecSt w' z sv bs r.2 ∧ w.grownBy w' (some z)

theorem wpList_load_key {ops : Array Oper} {rest : List Oper} {op : Oper} {a : Act} {w : World} {Q : Exit → Act → World → Prop} (hgd : op.guard = none) (x : Operand) (ho : op.op = .load 27 x)
    (b o : Nat) (hx : a.eval x = .pointer (some ⟨b, o, none⟩)) (cs : List Value) (hc : w.rangeAt b o cs) (hn : cs.length = 32)
    (h : wpList Tryd.prog ops Q rest (a.put op.dst (.agg cs.toArray)) w) : wpList Tryd.prog ops Q (op :: rest) a w :=
  wpList_load_mid hgd 27 x ho b o hx cs _ hc Tryd.underlying27 rfl (by rw [hn]; exact infoKey) h
theorem arrayAtKey (b o c : Nat) (w : World) : (Instr.arrayAt 27 (.slice (some ⟨b, o, none⟩) 32 c)).run Tryd.prog w = .ok (.pointer (some ⟨b, o, none⟩)) w := by
  simp [Instr.arrayAt, underlying, Tryd.underlying27, Result.andThen, Sem.run_bind]
theorem loadBlk {w : World} {b : Nat} {cs : Array Value} {t : TypeId} (hk : Blk w b cs t) (hn : cs.size = 32) : (loadVar 27 ⟨b, 0, none⟩).run Tryd.prog w = .ok (.agg cs) w := by
  have := run_loadVar_mid (P := Tryd.prog) w b 0 27 cs.toList _ (fun j v hj => by rw [Nat.zero_add, hk.cell, ← hj]; simp) Tryd.underlying27 rfl (by rw [Array.length_toList, hn]; exact infoKey)
  simpa using this
theorem mNext_whole (bs : List UInt8) (s : S) (a k : Nat) (xs : List UInt8) (h : (mNext bs s a k).1 = some xs) : xs.length = k := by
  unfold mNext at h
  split at h
  · simp at h
  · split at h
    · simp at h
    · simp at h; rw [← h]; simp; omega

theorem key_frame {w w1 w2 : World} {z : Nat} {o : Obj} (hg : (w.alloc o).grownBy w1 (some z)) (hg2 : w1.grownBy w2 (some w.heap.size)) : w.grownBy w2 (some z) :=
  ⟨hg2.os.trans hg.os, hg2.tape.trans hg.tape, hg2.output.trans hg.output, Nat.le_trans (by have := hg.size; simp at this; omega) hg2.size,
    fun k hk hne => ((hg2.block k (by have := hg.size; simp at this; omega) (fun e => by have := Option.some.inj e; omega)).trans (hg.block k (by simp; omega) hne)).trans (Below.heap_alloc w o k hk)⟩

set_option maxRecDepth 20000 in
set_option maxHeartbeats 400000 in
theorem key_st (w : World) (z : Nat) (sv : Value) (bs : List UInt8) (s : S) (h : DecSt w z sv bs s) :
    Calls Tryd.prog 55 #[.pointer (some ⟨z, 0, none⟩)] w (KeyDC w z sv bs (mNext bs s (mPlace s) 32)) := by
  have HA := hide (fun w h => at_st w z sv bs s h)
  have HN := hide (fun w h => next_st w z sv bs s (mPlace s) 32 h)
  have HL := hide (mNext_whole bs s (mPlace s) 32)
  generalize mNext bs s (mPlace s) 32 = r at HN HL ⊢
  generalize mPlace s = q at HA HN
  obtain ⟨r1, r2⟩ := r
  have hz := h.lt
  have h' := fun o => h.below ((Below.refl _ _).alloc (Nat.le_refl _) o)
  have HH := hide h'
  clear h'
  have hsv : ∀ b, sv = .slice (some ⟨b, 0, none⟩) bs.length bs.length → b < w.heap.size := by
    intro b e
    rcases h.1.2 with ⟨e1, _⟩ | ⟨b', e1, _, hB⟩
    · rw [e1] at e; cases e
    · rw [e1] at e; cases e; exact hB.lt
  have hdb : ∀ b, sv = .slice (some ⟨b, 0, none⟩) bs.length bs.length → some b ≠ some w.heap.size := by
    intro b e e2
    have := hsv b e
    have := Option.some.inj e2
    omega
  have HDB := hide hdb
  clear hsv hdb
  go_enter Tryd.func55, Tryd.ntmps55
  go_wp2_with fail
  refine (HA.out _ (HH.out _)).mono ?_
  rintro e w' ⟨rfl, rfl⟩
  go_wp2_with fail
  refine (HN.out _ (HH.out _)).mono ?_
  rintro e w1 ⟨⟨v, rfl, hv, hrd⟩, hd, hg⟩
  cases r1 with
  | none =>
    have hv := hv rfl
    subst hv
    clear hrd
    have hk : Blk w1 w.heap.size #[.int .u8 0, .int .u8 0, .int .u8 0, .int .u8 0, .int .u8 0, .int .u8 0, .int .u8 0, .int .u8 0, .int .u8 0, .int .u8 0, .int .u8 0, .int .u8 0, .int .u8 0, .int .u8 0, .int .u8 0, .int .u8 0, .int .u8 0, .int .u8 0, .int .u8 0, .int .u8 0, .int .u8 0, .int .u8 0, .int .u8 0, .int .u8 0, .int .u8 0, .int .u8 0, .int .u8 0, .int .u8 0, .int .u8 0, .int .u8 0, .int .u8 0, .int .u8 0] 27 := (Blk.made w _ _).grown hg (fun e => by have := Option.some.inj e; omega)
    have hone : (keyCells none).all (·.oneCell') = true := by kernel_rfl
    have HK := hide hk
    clear hk
    go_wp2_with ((with_reducible refine wpList_store_blk ?_ 27 (.tmp 2) (.tmp 14) ?_ w.heap.size 32 _ (keyCells none) 27 ?_ ?_ ?_ ?_ HK.out infoKey hone ?_); rfl; rfl; rfl; rfl; rfl; rfl; intro w2 hk2 hg2)
    refine bodyPost_ret (results_cell rfl _ _ _ rfl _ (loadBlk hk2 rfl)) rfl ?_
    exact ⟨rfl, hd.grown hg2 (by simp; omega) HDB.out, key_frame hg hg2⟩
  | some xs =>
    clear hv
    have hxl : xs.length = 32 := HL.out xs rfl
    have hk : Blk w1 w.heap.size #[.int .u8 0, .int .u8 0, .int .u8 0, .int .u8 0, .int .u8 0, .int .u8 0, .int .u8 0, .int .u8 0, .int .u8 0, .int .u8 0, .int .u8 0, .int .u8 0, .int .u8 0, .int .u8 0, .int .u8 0, .int .u8 0, .int .u8 0, .int .u8 0, .int .u8 0, .int .u8 0, .int .u8 0, .int .u8 0, .int .u8 0, .int .u8 0, .int .u8 0, .int .u8 0, .int .u8 0, .int .u8 0, .int .u8 0, .int .u8 0, .int .u8 0, .int .u8 0] 27 := (Blk.made w _ _).grown hg (fun e => by have := Option.some.inj e; omega)
    have HK := hide hk
    simp only [Option.getD_some] at hrd
    obtain ⟨ao, c, rfl, hc, hm, hcel⟩ := hrd
    obtain ⟨b, o, rfl, hcell⟩ : ∃ b o, ao = some ⟨b, o, none⟩ ∧ ∀ i (h : i < xs.length), w1.cell? ⟨b, o + i, none⟩ = some (u8c xs[i]) := by
      rcases hcel with ⟨_, h⟩ | h
      · omega
      · exact h
    have HR := hide (rangeRd hcell)
    have HL1 := hide (show (xs.map u8c).length = 32 by simp [hxl])
    have HL2 := hide (show (xs.map u8c).toArray.size = 32 by simp [hxl])
    have HO := hide (all_oneCell_toArray (u8c_one xs))
    have hrr := arrayAtKey b o c
    rw [hxl]
    obtain ⟨cs, hcs⟩ : ∃ cs, cs = xs.map u8c := ⟨_, rfl⟩
    rw [← hcs] at HR HL1 HL2 HO
    have HCS := hide hcs
    clear hk hcell hcel hc hcs hxl
    go_wp2_with (first | ((with_reducible refine wpList_load_key ?_ (.tmp 16) ?_ b o ?_ cs HR.out HL1.out ?_); rfl; rfl; rfl) | ((with_reducible refine wpList_store_blk ?_ 27 (.tmp 2) (.tmp 17) ?_ w.heap.size 32 _ cs.toArray 27 HL2.out ?_ ?_ ?_ HK.out infoKey HO.out ?_); rfl; rfl; rfl; rfl; rfl; intro w2 hk2 hg2))
    refine bodyPost_ret (results_cell rfl _ _ _ rfl _ (loadBlk hk2 HL2.out)) rfl ?_
    refine ⟨?_, hd.grown hg2 (by simp; omega) HDB.out, key_frame hg hg2⟩
    rw [HCS.out]; rfl
end Go.Proofs.YtjcfndiceinkjabDoor

/- End, and the calls on a nil Dec. -/
namespace Go.Proofs.YtjcfndiceinkjabDoor
set_option linter.unusedVariables false
set_option linter.unusedSimpArgs false
set_option maxRecDepth 100000
open Go.RowKit

/-- What End answers. -/
def endV (bs : List UInt8) (s : S) : Value :=
  if s.code ≠ 0 then .iface 88 (.agg #[.int .i64 s.fat, .int .i64 s.code])
  else if s.p < bs.length then .iface 88 (.agg #[.int .i64 s.p, .int .i64 13]) else .nilIface

theorem end_nil (w : World) : Calls Tryd.prog 26 #[.pointer none] w fun e w' => e = .returned (.iface 88 (.agg #[.int .i64 0, .int .i64 1])) ∧ w' = w := by
  go_enter Tryd.func26, Tryd.ntmps26
  go_wp2
  go_ret
  exact ⟨rfl, rfl⟩
set_option maxHeartbeats 800000 in
theorem end_st (w : World) (z : Nat) (sv : Value) (bs : List UInt8) (s : S) (h : DecSt w z sv bs s) : Calls Tryd.prog 26 #[.pointer (some ⟨z, 0, none⟩)] w fun e w' => e = .returned (endV bs s) ∧ ∃ m, w' = w.drewN m := by
  obtain ⟨v, hv⟩ : ∃ v, endV bs s = v := ⟨_, rfl⟩
  rw [hv]
  unfold endV at hv
  have HV := hide hv
  clear hv
  have HO := hide (fun w h => over_st w z sv bs s h)
  have HL := hide (fun w h => left_st w z sv bs s h)
  have c1 := h.2.2.c1
  have c2 := h.2.2.c2
  have c3 := h.2.2.c3
  by_cases hc : s.code = 0
  · have hd : decide (s.code ≠ 0) = false := by simp [hc]
    by_cases hp : s.p < bs.length
    · have hl : mLeft bs s = bs.length - s.p := by rw [mLeft, if_neg (by omega)]
      have hpos : (0 : Int) < (mLeft bs s : Int) := by rw [hl]; omega
      have hV : v = .iface 88 (.agg #[.int .i64 s.p, .int .i64 13]) := by rw [← HV.out, if_neg (by omega), if_pos hp]
      subst hV
      clear hc hl
      generalize mLeft bs s = l at HL hpos
      go_enter Tryd.func26, Tryd.ntmps26
      go_wp2_with fail
      refine (HO.out _ h).mono ?_
      rintro e w' ⟨rfl, rfl⟩
      rw [hd]
      go_wp2_with fail
      refine (HL.out _ h).mono ?_
      rintro e w' ⟨rfl, m, rfl⟩
      go_wp2
      go_ret
      exact ⟨rfl, m, rfl⟩
    · have hl : mLeft bs s = 0 := by rw [mLeft, if_neg (by omega)]; omega
      have hV : v = .nilIface := by rw [← HV.out, if_neg (by omega), if_neg hp]
      subst hV
      clear hc
      rw [hl] at HL
      go_enter Tryd.func26, Tryd.ntmps26
      go_wp2_with fail
      refine (HO.out _ h).mono ?_
      rintro e w' ⟨rfl, rfl⟩
      rw [hd]
      go_wp2_with fail
      refine (HL.out _ h).mono ?_
      rintro e w' ⟨rfl, m, rfl⟩
      go_wp2
      go_ret
      exact ⟨rfl, m, rfl⟩
  · have hd : decide (s.code ≠ 0) = true := by simp [hc]
    have hV : v = .iface 88 (.agg #[.int .i64 s.fat, .int .i64 s.code]) := by rw [← HV.out, if_pos hc]
    subst hV
    clear hc
    go_enter Tryd.func26, Tryd.ntmps26
    go_wp2_with fail
    refine (HO.out _ h).mono ?_
    rintro e w' ⟨rfl, rfl⟩
    rw [hd]
    go_wp2
    go_ret
    exact ⟨rfl, 0, rfl⟩
end Go.Proofs.YtjcfndiceinkjabDoor

/- Numbers whose lowest byte stands first. -/
namespace Go.Proofs.YtjcfndiceinkjabDoor
set_option linter.unusedVariables false
set_option linter.unusedSimpArgs false
set_option maxRecDepth 100000
open Go.RowKit

def leNat : List UInt8 → Nat
  | [] => 0
  | c :: r => c.toNat + 256 * leNat r

theorem leNat_lt (xs : List UInt8) : ∀ n, xs.length ≤ n → leNat xs < 256 ^ n := by
  induction xs with
  | nil => intro n _; exact Nat.pow_pos (by decide)
  | cons c r ih =>
    intro n hn
    cases n with
    | zero => simp at hn
    | succ n =>
      have h1 := ih n (by simpa using hn)
      have h2 : c.toNat < 256 := c.toNat_lt
      rw [leNat, Nat.pow_succ]
      omega
theorem leNat_append (xs ys : List UInt8) : leNat (xs ++ ys) = leNat xs + 256 ^ xs.length * leNat ys := by
  induction xs with
  | nil => simp [leNat]
  | cons c r ih =>
    simp only [List.cons_append, leNat, ih, List.length_cons, Nat.pow_succ]
    rw [Nat.mul_add, Nat.add_assoc]
    congr 2
    rw [← Nat.mul_assoc, Nat.mul_comm 256]
theorem leNat_snoc (xs : List UInt8) (k : Nat) (h : k < xs.length) : leNat (xs.take (k + 1)) = leNat (xs.take k) + xs[k].toNat * 256 ^ k := by
  rw [List.take_succ_eq_append_getElem h, leNat_append]
  simp only [leNat, List.length_take, Nat.mul_zero, Nat.add_zero]
  rw [Nat.min_eq_left (by omega), Nat.mul_comm]
theorem pow8 (k : Nat) : (2 : Nat) ^ (8 * k) = 256 ^ k := by rw [Nat.pow_mul]
theorem pow_le7 (k : Nat) (hk : k ≤ 7) : (256 : Nat) ^ k ≤ 72057594037927936 := Nat.le_trans (Nat.pow_le_pow_right (by decide) hk) (by decide)
theorem le_step (xs : List UInt8) (k : Nat) (h : k < xs.length) (h8 : xs.length ≤ 8) :
    bits .or .u64 (leNat (xs.take k) : Nat) (IntKind.u64.wrap ((xs[k].toNat : Int) * 2 ^ (8 * k))) = ((leNat (xs.take (k + 1)) : Nat) : Int) := by
  have hp := pow_le7 k (by omega)
  have hc : xs[k].toNat < 256 := xs[k].toNat_lt
  have hx : leNat (xs.take k) < 256 ^ k := leNat_lt _ k (by simp; omega)
  have hb : xs[k].toNat * 256 ^ k < 18446744073709551616 :=
    Nat.lt_of_le_of_lt (Nat.mul_le_mul (show xs[k].toNat ≤ 255 by omega) hp) (by decide)
  rw [leNat_snoc xs k h, IntKind.wrap_u64]
  generalize xs[k].toNat = y at *
  generalize leNat (xs.take k) = x at *
  have e2 : (2 : Int) ^ (8 * k) = ((256 ^ k : Nat) : Int) := by rw [← pow8 k]; simp
  rw [e2, ← Int.natCast_mul]
  have e3 : (((y * 256 ^ k : Nat) : Int)) % 18446744073709551616 = ((y * 256 ^ k : Nat) : Int) := by omega
  rw [e3, u64_or_nat x _ (by omega) hb]
  congr 1
  have e4 : x < 2 ^ (8 * k) := by rw [pow8]; exact hx
  have e5 := Nat.two_pow_add_eq_or_of_lt e4 y
  rw [pow8] at e5
  rw [Nat.or_comm, Nat.mul_comm, ← e5]; omega

theorem mNext_few (bs : List UInt8) (s : S) (a k : Nat) : ((mNext bs s a k).1.getD []).length ≤ k := by
  unfold mNext
  split
  · simp
  · split
    · simp
    · simp; omega
end Go.Proofs.YtjcfndiceinkjabDoor

/- Take of a kind, a mode and an int64. -/
namespace Go.Proofs.YtjcfndiceinkjabDoor
set_option linter.unusedVariables false
set_option linter.unusedSimpArgs false
set_option maxRecDepth 100000
open Go.RowKit

def FixC (kind : IntKind) (w : World) (z : Nat) (sv : Value) (bs : List UInt8) (r : Option (List UInt8) × S) (e : Ending) (w' : World) : Prop :=
  e = .returned (.int kind (kind.wrap (leNat (r.1.getD [])))) ∧ DecSt w' z sv bs r.2 ∧ w.grownBy w' (some z)

set_option maxRecDepth 20000 in
set_option maxHeartbeats 1600000 in
theorem take_kind (w : World) (z : Nat) (sv : Value) (bs : List UInt8) (s : S) (h : DecSt w z sv bs s) :
    Calls Tryd.prog 24 #[.pointer (some ⟨z, 0, none⟩)] w (FixC .u8 w z sv bs (mNext bs s (mPlace s) 1)) := by
  have HA := hide (fun w h => at_st w z sv bs s h)
  have HN := hide (fun w h => next_st w z sv bs s (mPlace s) 1 h)
  have hxl := mNext_few bs s (mPlace s) 1
  generalize mNext bs s (mPlace s) 1 = r at HN hxl ⊢
  generalize mPlace s = q at HA HN
  obtain ⟨r1, r2⟩ := r
  go_enter Tryd.func24, Tryd.ntmps24
  go_wp2_with fail
  refine (HA.out _ h).mono ?_
  rintro e w' ⟨rfl, rfl⟩
  go_wp2_with fail
  refine (width_kind _).mono ?_
  rintro e w' ⟨rfl, rfl⟩
  go_wp2_with fail
  refine (HN.out _ h).mono ?_
  rintro e w1 ⟨⟨v, rfl, hv, hrd⟩, hd, hg⟩
  clear hv HA HN
  obtain ⟨xs, hxs⟩ : ∃ xs, r1.getD [] = xs := ⟨_, rfl⟩
  simp only [hxs] at hxl hrd
  have HXS := hide hxs
  clear hxs
  obtain ⟨ao, c, rfl, hc, hm, hcel⟩ := hrd
  have HC := hide hcel
  clear hcel
  go_wp2
  go_loop [5, 18] (fun v i => ∃ k : Nat, k ≤ xs.length ∧ i = .int .i64 k ∧ v = .int .u64 (leNat (xs.take k) : Nat)) (fun _ i => xs.length - (intOf i).toNat)
  case atStart => exact ⟨0, Nat.zero_le _, rfl, by simp [leNat]⟩
  case round =>
    obtain ⟨k, hk, rfl, rfl⟩ := hrel
    by_cases hlt : k < xs.length
    · obtain ⟨b, o, rfl, hcell⟩ : ∃ b o, ao = some ⟨b, o, none⟩ ∧ ∀ i (h : i < xs.length), w1.cell? ⟨b, o + i, none⟩ = some (u8c xs[i]) := by
        rcases HC.out with ⟨_, h⟩ | h
        · omega
        · exact h
      have hck := hcell k hlt
      have HS := hide (le_step xs k hlt (by omega))
      clear hcell HC
      unfold u8c at hck
      obtain ⟨y, hy⟩ : ∃ y, y = xs[k].toNat := ⟨_, rfl⟩
      have hyb : y < 256 := by rw [hy]; exact xs[k].toNat_lt
      rw [← hy] at hck HS
      clear hy
      obtain ⟨x, hx⟩ : ∃ x, x = leNat (xs.take k) := ⟨_, rfl⟩
      rw [← hx] at HS ⊢
      clear hx
      go_wp2
      go_round
      case rel => exact ⟨k + 1, by omega, by go_num, by rw [HS.out]⟩
      case measure => simp [intOf]; omega
    · go_wp2
      go_ret
      unfold FixC
      simp only [HXS.out]
      refine ⟨congrArg (fun q : Nat => Ending.returned (.int .u8 (IntKind.u8.wrap q))) (by rw [List.take_of_length_le (by omega)]), hd, hg⟩

set_option maxRecDepth 20000 in
set_option maxHeartbeats 1600000 in
theorem take_mode (w : World) (z : Nat) (sv : Value) (bs : List UInt8) (s : S) (h : DecSt w z sv bs s) :
    Calls Tryd.prog 86 #[.pointer (some ⟨z, 0, none⟩)] w (FixC .u8 w z sv bs (mNext bs s (mPlace s) 1)) := by
  have HA := hide (fun w h => at_st w z sv bs s h)
  have HN := hide (fun w h => next_st w z sv bs s (mPlace s) 1 h)
  have hxl := mNext_few bs s (mPlace s) 1
  generalize mNext bs s (mPlace s) 1 = r at HN hxl ⊢
  generalize mPlace s = q at HA HN
  obtain ⟨r1, r2⟩ := r
  go_enter Tryd.func86, Tryd.ntmps86
  go_wp2_with fail
  refine (HA.out _ h).mono ?_
  rintro e w' ⟨rfl, rfl⟩
  go_wp2_with fail
  refine (width_mode _).mono ?_
  rintro e w' ⟨rfl, rfl⟩
  go_wp2_with fail
  refine (HN.out _ h).mono ?_
  rintro e w1 ⟨⟨v, rfl, hv, hrd⟩, hd, hg⟩
  clear hv HA HN
  obtain ⟨xs, hxs⟩ : ∃ xs, r1.getD [] = xs := ⟨_, rfl⟩
  simp only [hxs] at hxl hrd
  have HXS := hide hxs
  clear hxs
  obtain ⟨ao, c, rfl, hc, hm, hcel⟩ := hrd
  have HC := hide hcel
  clear hcel
  go_wp2
  go_loop [5, 18] (fun v i => ∃ k : Nat, k ≤ xs.length ∧ i = .int .i64 k ∧ v = .int .u64 (leNat (xs.take k) : Nat)) (fun _ i => xs.length - (intOf i).toNat)
  case atStart => exact ⟨0, Nat.zero_le _, rfl, by simp [leNat]⟩
  case round =>
    obtain ⟨k, hk, rfl, rfl⟩ := hrel
    by_cases hlt : k < xs.length
    · obtain ⟨b, o, rfl, hcell⟩ : ∃ b o, ao = some ⟨b, o, none⟩ ∧ ∀ i (h : i < xs.length), w1.cell? ⟨b, o + i, none⟩ = some (u8c xs[i]) := by
        rcases HC.out with ⟨_, h⟩ | h
        · omega
        · exact h
      have hck := hcell k hlt
      have HS := hide (le_step xs k hlt (by omega))
      clear hcell HC
      unfold u8c at hck
      obtain ⟨y, hy⟩ : ∃ y, y = xs[k].toNat := ⟨_, rfl⟩
      have hyb : y < 256 := by rw [hy]; exact xs[k].toNat_lt
      rw [← hy] at hck HS
      clear hy
      obtain ⟨x, hx⟩ : ∃ x, x = leNat (xs.take k) := ⟨_, rfl⟩
      rw [← hx] at HS ⊢
      clear hx
      go_wp2
      go_round
      case rel => exact ⟨k + 1, by omega, by go_num, by rw [HS.out]⟩
      case measure => simp [intOf]; omega
    · go_wp2
      go_ret
      unfold FixC
      simp only [HXS.out]
      refine ⟨congrArg (fun q : Nat => Ending.returned (.int .u8 (IntKind.u8.wrap q))) (by rw [List.take_of_length_le (by omega)]), hd, hg⟩

set_option maxRecDepth 20000 in
set_option maxHeartbeats 1600000 in
theorem take_int64 (w : World) (z : Nat) (sv : Value) (bs : List UInt8) (s : S) (h : DecSt w z sv bs s) :
    Calls Tryd.prog 57 #[.pointer (some ⟨z, 0, none⟩)] w (FixC .i64 w z sv bs (mNext bs s (mPlace s) 8)) := by
  have HA := hide (fun w h => at_st w z sv bs s h)
  have HN := hide (fun w h => next_st w z sv bs s (mPlace s) 8 h)
  have hxl := mNext_few bs s (mPlace s) 8
  generalize mNext bs s (mPlace s) 8 = r at HN hxl ⊢
  generalize mPlace s = q at HA HN
  obtain ⟨r1, r2⟩ := r
  go_enter Tryd.func57, Tryd.ntmps57
  go_wp2_with fail
  refine (HA.out _ h).mono ?_
  rintro e w' ⟨rfl, rfl⟩
  go_wp2_with fail
  refine (width_int64 _).mono ?_
  rintro e w' ⟨rfl, rfl⟩
  go_wp2_with fail
  refine (HN.out _ h).mono ?_
  rintro e w1 ⟨⟨v, rfl, hv, hrd⟩, hd, hg⟩
  clear hv HA HN
  obtain ⟨xs, hxs⟩ : ∃ xs, r1.getD [] = xs := ⟨_, rfl⟩
  simp only [hxs] at hxl hrd
  have HXS := hide hxs
  clear hxs
  obtain ⟨ao, c, rfl, hc, hm, hcel⟩ := hrd
  have HC := hide hcel
  clear hcel
  go_wp2
  go_loop [5, 18] (fun v i => ∃ k : Nat, k ≤ xs.length ∧ i = .int .i64 k ∧ v = .int .u64 (leNat (xs.take k) : Nat)) (fun _ i => xs.length - (intOf i).toNat)
  case atStart => exact ⟨0, Nat.zero_le _, rfl, by simp [leNat]⟩
  case round =>
    obtain ⟨k, hk, rfl, rfl⟩ := hrel
    by_cases hlt : k < xs.length
    · obtain ⟨b, o, rfl, hcell⟩ : ∃ b o, ao = some ⟨b, o, none⟩ ∧ ∀ i (h : i < xs.length), w1.cell? ⟨b, o + i, none⟩ = some (u8c xs[i]) := by
        rcases HC.out with ⟨_, h⟩ | h
        · omega
        · exact h
      have hck := hcell k hlt
      have HS := hide (le_step xs k hlt (by omega))
      clear hcell HC
      unfold u8c at hck
      obtain ⟨y, hy⟩ : ∃ y, y = xs[k].toNat := ⟨_, rfl⟩
      have hyb : y < 256 := by rw [hy]; exact xs[k].toNat_lt
      rw [← hy] at hck HS
      clear hy
      obtain ⟨x, hx⟩ : ∃ x, x = leNat (xs.take k) := ⟨_, rfl⟩
      rw [← hx] at HS ⊢
      clear hx
      go_wp2
      go_round
      case rel => exact ⟨k + 1, by omega, by go_num, by rw [HS.out]⟩
      case measure => simp [intOf]; omega
    · go_wp2
      go_ret
      unfold FixC
      simp only [HXS.out]
      refine ⟨congrArg (fun q : Int => Ending.returned (.int .i64 q)) (?_ : wrap64 ((leNat (List.take k xs) : Nat) : Int) = _), hd, hg⟩
      rw [List.take_of_length_le (by omega), IntKind.wrap_i64, wrap64]

end Go.Proofs.YtjcfndiceinkjabDoor
