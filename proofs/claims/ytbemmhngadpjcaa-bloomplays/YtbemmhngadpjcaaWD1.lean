/- A wire.Dec that lies in memory: the small calls, next. -/
import Derived.Test.YtbemmhngadpjcaaGH
import Derived.Deep.MidRow
namespace Go.Proofs.Ytbemmhngadpjcaa
set_option linter.unusedVariables false
set_option linter.unusedSimpArgs false
open Go.RowKit


/-- A wire.Dec at block z: its bytes, where it stands, its fault. -/
def DecAt (w : World) (z : Nat) (sv : Value) (pos fat code : Int) : Prop :=
  Blk w z #[sv, .int .i64 pos, .int .i64 fat, .int .i64 code] 108

theorem DecAt.c0 {w : World} {z : Nat} {sv : Value} {pos fat code : Int} (h : DecAt w z sv pos fat code) : w.cell? ⟨z, 0, none⟩ = some sv := h.cell 0
theorem DecAt.c1 {w : World} {z : Nat} {sv : Value} {pos fat code : Int} (h : DecAt w z sv pos fat code) : w.cell? ⟨z, 1, none⟩ = some (.int .i64 pos) := h.cell 1
theorem DecAt.c2 {w : World} {z : Nat} {sv : Value} {pos fat code : Int} (h : DecAt w z sv pos fat code) : w.cell? ⟨z, 2, none⟩ = some (.int .i64 fat) := h.cell 2
theorem DecAt.c3 {w : World} {z : Nat} {sv : Value} {pos fat code : Int} (h : DecAt w z sv pos fat code) : w.cell? ⟨z, 3, none⟩ = some (.int .i64 code) := h.cell 3

theorem over_nil (w : World) : Calls Try.prog 66 #[.pointer none] w fun e w' => e = .returned (.bool true) ∧ w' = w := by
  go_enter Try.func66, Try.ntmps66
  go_wp2
  go_ret
  exact ⟨rfl, rfl⟩
theorem over_go (w : World) (z : Nat) (sv : Value) (pos fat : Int) (h : DecAt w z sv pos fat 0) : Calls Try.prog 66 #[.pointer (some ⟨z, 0, none⟩)] w fun e w' => e = .returned (.bool false) ∧ w' = w := by
  have c3 := h.c3
  go_enter Try.func66, Try.ntmps66
  go_wp2
  go_ret
  exact ⟨rfl, rfl⟩
theorem over_stopped (w : World) (z : Nat) (sv : Value) (pos fat code : Int) (hc : (code != 0) = true) (h : DecAt w z sv pos fat code) : Calls Try.prog 66 #[.pointer (some ⟨z, 0, none⟩)] w fun e w' => e = .returned (.bool true) ∧ w' = w := by
  have c3 := h.c3
  go_enter Try.func66, Try.ntmps66
  go_wp2
  go_ret
  exact ⟨rfl, rfl⟩

/-- stop, of one that is not stopped. -/
theorem stop_go (w : World) (z : Nat) (sv : Value) (pos fat : Int) (a c : Int) (h : DecAt w z sv pos fat 0) : Calls Try.prog 70 #[.pointer (some ⟨z, 0, none⟩), .int .i64 a, .int .i64 c] w fun e w' => e = .returned (.tuple #[]) ∧ DecAt w' z sv pos a c ∧ w.grownBy w' (some z) := by
  have c2 := h.c2
  have c3 := h.c3
  have f2 := Blk.frozen h 2
  have f3 := Blk.frozen h 3
  go_enter Try.func70, Try.ntmps70
  go_wp2_with (go_at_call 66; refine (over_go _ z sv pos fat h).mono ?_; rintro e w' ⟨rfl, rfl⟩)
  go_returns
  refine ⟨rfl, ?_, grownBy_trans (grownBy_set _ z 2 _) (grownBy_set _ z 3 _)⟩
  exact (Blk.set (Blk.set h 2 (.int .i64 a)) 3 (.int .i64 c))
theorem stop_stopped (w : World) (z : Nat) (sv : Value) (pos fat code : Int) (a c : Int) (hc : (code != 0) = true) (h : DecAt w z sv pos fat code) : Calls Try.prog 70 #[.pointer (some ⟨z, 0, none⟩), .int .i64 a, .int .i64 c] w fun e w' => e = .returned (.tuple #[]) ∧ w' = w := by
  go_enter Try.func70, Try.ntmps70
  go_wp2_with (go_at_call 66; refine (over_stopped _ z sv pos fat code hc h).mono ?_; rintro e w' ⟨rfl, rfl⟩)
  go_returns
  exact ⟨rfl, rfl⟩
theorem stop_nil (w : World) (a c : Int) : Calls Try.prog 70 #[.pointer none, .int .i64 a, .int .i64 c] w fun e w' => e = .returned (.tuple #[]) ∧ w' = w := by
  go_enter Try.func70, Try.ntmps70
  go_wp2_with (go_at_call 66; refine (over_nil _).mono ?_; rintro e w' ⟨rfl, rfl⟩)
  go_returns
  exact ⟨rfl, rfl⟩

theorem at_nil (w : World) : Calls Try.prog 63 #[.pointer none] w fun e w' => e = .returned (.int .i64 0) ∧ w' = w := by
  go_enter Try.func63, Try.ntmps63
  go_wp2
  go_ret
  exact ⟨rfl, rfl⟩
theorem at_go (w : World) (z : Nat) (sv : Value) (pos fat : Int) (h : DecAt w z sv pos fat 0) : Calls Try.prog 63 #[.pointer (some ⟨z, 0, none⟩)] w fun e w' => e = .returned (.int .i64 pos) ∧ w' = w := by
  have c1 := h.c1
  go_enter Try.func63, Try.ntmps63
  go_wp2_with (go_at_call 66; refine (over_go _ z sv pos fat h).mono ?_; rintro e w' ⟨rfl, rfl⟩)
  go_ret
  exact ⟨rfl, rfl⟩
theorem at_stopped (w : World) (z : Nat) (sv : Value) (pos fat code : Int) (hc : (code != 0) = true) (h : DecAt w z sv pos fat code) : Calls Try.prog 63 #[.pointer (some ⟨z, 0, none⟩)] w fun e w' => e = .returned (.int .i64 fat) ∧ w' = w := by
  have c2 := h.c2
  go_enter Try.func63, Try.ntmps63
  go_wp2_with (go_at_call 66; refine (over_stopped _ z sv pos fat code hc h).mono ?_; rintro e w' ⟨rfl, rfl⟩)
  go_ret
  exact ⟨rfl, rfl⟩

theorem left_nil (w : World) : Calls Try.prog 46 #[.pointer none] w fun e w' => e = .returned (.int .i64 0) ∧ w' = w := by
  go_enter Try.func46, Try.ntmps46
  go_wp2_with (go_at_call 66; refine (over_nil _).mono ?_; rintro e w' ⟨rfl, rfl⟩)
  go_ret
  exact ⟨rfl, rfl⟩
theorem left_stopped (w : World) (z : Nat) (sv : Value) (pos fat code : Int) (hc : (code != 0) = true) (h : DecAt w z sv pos fat code) : Calls Try.prog 46 #[.pointer (some ⟨z, 0, none⟩)] w fun e w' => e = .returned (.int .i64 0) ∧ w' = w := by
  go_enter Try.func46, Try.ntmps46
  go_wp2_with (go_at_call 66; refine (over_stopped _ z sv pos fat code hc h).mono ?_; rintro e w' ⟨rfl, rfl⟩)
  go_ret
  exact ⟨rfl, rfl⟩
theorem left_go (w : World) (z : Nat) (ao : Option Addr) (n c : Nat) (pos fat : Int) (hp0 : 0 ≤ pos) (hp1 : pos ≤ n) (hn : n ≤ maxLen) (h : DecAt w z (.slice ao n c) pos fat 0) : Calls Try.prog 46 #[.pointer (some ⟨z, 0, none⟩)] w fun e w' => e = .returned (.int .i64 (n - pos)) ∧ ∃ m, w' = w.drewN m := by
  unfold maxLen at hn
  have c0 := h.c0
  have c1 := h.c1
  go_enter Try.func46, Try.ntmps46
  go_wp2_with (go_at_call 66; refine (over_go _ z _ pos fat h).mono ?_; rintro e w' ⟨rfl, rfl⟩)
  go_quiet (fail)
  go_wp2
  go_ret
  exact ⟨rfl, _, rfl⟩

def u8c (u : UInt8) : Value := .int .u8 (u.toNat : Int)

/-- The bytes that a Dec has: a nil slice and none, or a block of its own. -/
def Bts (w : World) (z : Nat) (sv : Value) (bs : List UInt8) : Prop :=
  bs.length ≤ maxLen ∧ ((sv = .slice none 0 0 ∧ bs = []) ∨ ∃ b, sv = .slice (some ⟨b, 0, none⟩) bs.length bs.length ∧ b ≠ z ∧ Blk w b (bs.map u8c).toArray 5)

/-- A slice of bytes that can be read. -/
def Rd (w : World) (v : Value) (xs : List UInt8) : Prop :=
  ∃ ao c, v = .slice ao xs.length c ∧ xs.length ≤ c ∧ c ≤ maxLen ∧ ((ao = none ∧ c = 0) ∨ ∃ b o, ao = some ⟨b, o, none⟩ ∧ ∀ i (h : i < xs.length), w.cell? ⟨b, o + i, none⟩ = some (u8c xs[i]))

theorem Bts.grown {w w' : World} {z : Nat} {sv : Value} {bs : List UInt8} (h : Bts w z sv bs) (hg : w.grownBy w' (some z)) : Bts w' z sv bs := by
  obtain ⟨h0, h | ⟨b, h1, h2, h3⟩⟩ := h
  · exact ⟨h0, .inl h⟩
  · exact ⟨h0, .inr ⟨b, h1, h2, h3.grown hg (fun e => h2 (Option.some.inj e))⟩⟩
theorem Bts.drewN {w : World} {z : Nat} {sv : Value} {bs : List UInt8} (h : Bts w z sv bs) (n : Nat) : Bts (w.drewN n) z sv bs := h.grown (grownBy_drewN w n _)

theorem next_nil (w : World) (a n : Int) : Calls Try.prog 62 #[.pointer none, .int .i64 a, .int .i64 n] w fun e w' => e = .returned (.tuple #[.slice none 0 0, .bool false]) ∧ w' = w := by
  go_enter Try.func62, Try.ntmps62
  go_wp2_with (go_at_call 66; refine (over_nil _).mono ?_; rintro e w' ⟨rfl, rfl⟩)
  go_ret2
  exact ⟨rfl, rfl⟩
theorem next_stopped (w : World) (z : Nat) (sv : Value) (pos fat code : Int) (a n : Int) (hc : (code != 0) = true) (h : DecAt w z sv pos fat code) : Calls Try.prog 62 #[.pointer (some ⟨z, 0, none⟩), .int .i64 a, .int .i64 n] w fun e w' => e = .returned (.tuple #[.slice none 0 0, .bool false]) ∧ w' = w := by
  go_enter Try.func62, Try.ntmps62
  go_wp2_with (go_at_call 66; refine (over_stopped _ z sv pos fat code hc h).mono ?_; rintro e w' ⟨rfl, rfl⟩)
  go_ret2
  exact ⟨rfl, rfl⟩
theorem next_ends (w : World) (z : Nat) (ao : Option Addr) (k c : Nat) (pos fat : Int) (a n : Int) (hk : k ≤ maxLen) (hp0 : 0 ≤ pos) (hp1 : pos ≤ k) (hn : k - pos < n) (h : DecAt w z (.slice ao k c) pos fat 0) :
    Calls Try.prog 62 #[.pointer (some ⟨z, 0, none⟩), .int .i64 a, .int .i64 n] w fun e w' => e = .returned (.tuple #[.slice none 0 0, .bool false]) ∧ DecAt w' z (.slice ao k c) pos a 10 ∧ w.grownBy w' (some z) := by
  unfold maxLen at hk
  have c0 := h.c0
  have c1 := h.c1
  go_enter Try.func62, Try.ntmps62
  go_wp2_with (go_at_call 66; refine (over_go _ z _ pos fat h).mono ?_; rintro e w' ⟨rfl, rfl⟩)
  go_quiet (fail)
  go_wp2_with (go_at_call 70; refine (stop_go _ z _ pos fat a 10 (Blk.drewN h _)).mono ?_; rintro e w' ⟨rfl, hd, hg⟩)
  go_ret2
  exact ⟨rfl, hd, grownBy_trans (grownBy_drewN _ _ _) hg⟩
/-- What next leaves, where it can take k bytes. -/
def NextOk (w : World) (z : Nat) (sv : Value) (bs : List UInt8) (p k : Nat) (fat : Int) (e : Ending) (w' : World) : Prop :=
  ∃ v, e = .returned (.tuple #[v, .bool true]) ∧ Rd w' v ((bs.drop p).take k) ∧ DecAt w' z sv (p + k : Nat) fat 0 ∧ w.grownBy w' (some z)

set_option maxHeartbeats 800000 in
theorem next_go (w : World) (z : Nat) (sv : Value) (bs : List UInt8) (p k : Nat) (fat a : Int) (hb : Bts w z sv bs) (hk : p + k ≤ bs.length) (h : DecAt w z sv p fat 0) :
    Calls Try.prog 62 #[.pointer (some ⟨z, 0, none⟩), .int .i64 a, .int .i64 k] w (NextOk w z sv bs p k fat) := by
  obtain ⟨hm, ⟨rfl, rfl⟩ | ⟨b, rfl, hne, hB⟩⟩ := hb
  · have hp : p = 0 := by simp at hk; omega
    have hk0 : k = 0 := by simp at hk; omega
    subst hp; subst hk0
    have c0 := h.c0
    have c1 := h.c1
    have f1 := Blk.frozen h 1
    go_enter Try.func62, Try.ntmps62
    go_wp2_with (go_at_call 66; refine (over_go _ z _ _ fat h).mono ?_; rintro e w' ⟨rfl, rfl⟩)
    go_quiet (fail)
    go_wp2
    go_quiet (fail)
    go_wp2
    go_ret2
    exact ⟨_, rfl, ⟨none, 0, rfl, Nat.le_refl _, Nat.zero_le _, .inl ⟨rfl, rfl⟩⟩, Blk.set (Blk.drewN h _) 1 (.int .i64 0), grownBy_trans (grownBy_drewN _ _ _) (grownBy_set _ z 1 _)⟩
  · unfold maxLen at hm
    have c0 := h.c0
    have c1 := h.c1
    have f1 := Blk.frozen h 1
    by_cases hpe : p = bs.length
    · have hk0 : k = 0 := by omega
      subst hpe; subst hk0
      go_enter Try.func62, Try.ntmps62
      go_wp2_with (go_at_call 66; refine (over_go _ z _ _ fat h).mono ?_; rintro e w' ⟨rfl, rfl⟩)
      go_quiet (fail)
      go_wp2
      go_quiet (fail)
      go_wp2
      go_ret2
      exact ⟨_, rfl, ⟨some ⟨b, 0, none⟩, 0, by simp, by simp, Nat.zero_le _, .inr ⟨b, 0, rfl, fun i hi => by simp at hi⟩⟩, Blk.set (Blk.drewN h _) 1 (.int .i64 bs.length), grownBy_trans (grownBy_drewN _ _ _) (grownBy_set _ z 1 _)⟩
    · have hpn : ¬ bs.length = p := fun e => hpe e.symm
      have hle : (k : Int) ≤ (bs.length : Int) - (p : Int) := by omega
      clear hpe
      go_enter Try.func62, Try.ntmps62
      go_wp2_with (go_at_call 66; refine (over_go _ z _ _ fat h).mono ?_; rintro e w' ⟨rfl, rfl⟩)
      go_quiet (fail)
      go_wp2
      go_quiet (fail)
      go_wp2
      go_ret2
      refine ⟨_, rfl, ⟨some ⟨b, p, none⟩, bs.length - p, ?_, ?_, ?_, .inr ⟨b, p, rfl, ?_⟩⟩, Blk.set (Blk.drewN h _) 1 (.int .i64 (p + k : Nat)), grownBy_trans (grownBy_drewN _ _ _) (grownBy_set _ z 1 _)⟩
      · rw [List.length_take, List.length_drop, Nat.min_eq_left (by omega)]; exact congrArg (fun n => Value.slice (some ⟨b, p, none⟩) n (bs.length - p)) (Nat.add_sub_cancel_left p k)
      · rw [List.length_take, List.length_drop]; omega
      · unfold maxLen; omega
      · intro i hi
        refine (((Blk.drewN hB _).setOther _ _ hne).cell _).trans ?_
        rw [List.length_take, List.length_drop] at hi
        have hlt : p + i < bs.length := by omega
        simp [List.getElem?_eq_getElem hlt]
theorem Rd_drop_some {w : World} {b : Nat} {bs : List UInt8} (hm : bs.length ≤ maxLen) (hB : Blk w b (bs.map u8c).toArray 5) (p : Nat) (hp : p < bs.length) : Rd w (.slice (some ⟨b, p, none⟩) (bs.length - p) (bs.length - p)) (bs.drop p) := by
  refine ⟨some ⟨b, p, none⟩, bs.length - p, by rw [List.length_drop], by rw [List.length_drop]; omega, by omega, .inr ⟨b, p, rfl, fun i hi => ?_⟩⟩
  rw [hB.cell]
  rw [List.length_drop] at hi
  have hlt : p + i < bs.length := by omega
  simp [List.getElem?_eq_getElem hlt]
theorem Rd_none (w : World) : Rd w (.slice none 0 0) [] := ⟨none, 0, rfl, Nat.le_refl _, Nat.zero_le _, .inl ⟨rfl, rfl⟩⟩
theorem Rd_at (w : World) (b o : Nat) : Rd w (.slice (some ⟨b, o, none⟩) 0 0) [] := ⟨some ⟨b, o, none⟩, 0, rfl, Nat.le_refl _, Nat.zero_le _, .inr ⟨b, o, rfl, fun i hi => by simp at hi⟩⟩

/-- Where a Dec stands; its fault (code 0: none). -/
structure S where
  p : Nat
  fat : Nat
  code : Nat

def mNext (bs : List UInt8) (s : S) (start k : Nat) : Option (List UInt8) × S :=
  if s.code ≠ 0 then (none, s)
  else if bs.length < s.p + k then (none, { s with fat := start, code := 10 })
  else (some ((bs.drop s.p).take k), { s with p := s.p + k })
def mPlace (s : S) : Nat := if s.code ≠ 0 then s.fat else s.p
def mLeft (bs : List UInt8) (s : S) : Nat := if s.code ≠ 0 then 0 else bs.length - s.p

theorem mNext_le (bs : List UInt8) (s : S) (start k : Nat) (h : s.p ≤ bs.length) : (mNext bs s start k).2.p ≤ bs.length := by
  unfold mNext
  split
  · exact h
  · split
    · exact h
    · simp; omega

def leNat : List UInt8 → Nat
  | [] => 0
  | c :: r => c.toNat + 256 * leNat r

theorem leNat_lt (xs : List UInt8) : ∀ n, xs.length ≤ n → leNat xs < 256 ^ n := by
  induction xs with
  | nil => intro n _; exact Nat.pow_pos (by decide)
  | cons c r ih =>
    intro n hn
    cases n with
    | zero => simp at hn
    | succ n =>
      have h1 := ih n (by simpa using hn)
      have h2 : c.toNat < 256 := c.toNat_lt
      rw [leNat, Nat.pow_succ]
      omega
theorem leNat_append (xs ys : List UInt8) : leNat (xs ++ ys) = leNat xs + 256 ^ xs.length * leNat ys := by
  induction xs with
  | nil => simp [leNat]
  | cons c r ih =>
    simp only [List.cons_append, leNat, ih, List.length_cons, Nat.pow_succ]
    rw [Nat.mul_add, Nat.add_assoc]
    congr 2
    rw [← Nat.mul_assoc, Nat.mul_comm 256]
theorem leNat_snoc (xs : List UInt8) (k : Nat) (h : k < xs.length) : leNat (xs.take (k + 1)) = leNat (xs.take k) + xs[k].toNat * 256 ^ k := by
  rw [List.take_succ_eq_append_getElem h, leNat_append]
  simp only [leNat, List.length_take, Nat.mul_zero, Nat.add_zero]
  rw [Nat.min_eq_left (by omega), Nat.mul_comm]
theorem pow8 (k : Nat) : (2 : Nat) ^ (8 * k) = 256 ^ k := by rw [Nat.pow_mul]
theorem pow_le7 (k : Nat) (hk : k ≤ 7) : (256 : Nat) ^ k ≤ 72057594037927936 := Nat.le_trans (Nat.pow_le_pow_right (by decide) hk) (by decide)
theorem le_step (xs : List UInt8) (k : Nat) (h : k < xs.length) (h8 : xs.length ≤ 8) :
    bits .or .u64 (leNat (xs.take k) : Nat) (IntKind.u64.wrap ((xs[k].toNat : Int) * 2 ^ (8 * k))) = ((leNat (xs.take (k + 1)) : Nat) : Int) := by
  have hp := pow_le7 k (by omega)
  have hc : xs[k].toNat < 256 := xs[k].toNat_lt
  have hx : leNat (xs.take k) < 256 ^ k := leNat_lt _ k (by simp; omega)
  have hb : xs[k].toNat * 256 ^ k < 18446744073709551616 :=
    Nat.lt_of_le_of_lt (Nat.mul_le_mul (show xs[k].toNat ≤ 255 by omega) hp) (by decide)
  rw [leNat_snoc xs k h, IntKind.wrap_u64]
  generalize xs[k].toNat = y at *
  generalize leNat (xs.take k) = x at *
  have e2 : (2 : Int) ^ (8 * k) = ((256 ^ k : Nat) : Int) := by rw [← pow8 k]; simp
  rw [e2, ← Int.natCast_mul]
  have e3 : (((y * 256 ^ k : Nat) : Int)) % 18446744073709551616 = ((y * 256 ^ k : Nat) : Int) := by omega
  rw [e3, u64_or_nat x _ (by omega) hb]
  congr 1
  have e4 : x < 2 ^ (8 * k) := by rw [pow8]; exact hx
  have e5 := Nat.two_pow_add_eq_or_of_lt e4 y
  rw [pow8] at e5
  rw [Nat.or_comm, Nat.mul_comm, ← e5]; omega

theorem mNext_few (bs : List UInt8) (s : S) (a k : Nat) : ((mNext bs s a k).1.getD []).length ≤ k := by
  unfold mNext
  split
  · simp
  · split
    · simp
    · simp; omega

/-- A Dec in memory stands as the plain machine says. -/
def DecSt (w : World) (z : Nat) (sv : Value) (bs : List UInt8) (s : S) : Prop :=
  Bts w z sv bs ∧ s.p ≤ bs.length ∧ DecAt w z sv s.p s.fat s.code

theorem DecSt.lt {w : World} {z : Nat} {sv : Value} {bs : List UInt8} {s : S} (h : DecSt w z sv bs s) : z < w.heap.size := Blk.lt h.2.2
theorem DecSt.grown {w w' : World} {z : Nat} {sv : Value} {bs : List UInt8} {s : S} (h : DecSt w z sv bs s) {row : Option Nat} (hg : w.grownBy w' row) (hz : some z ≠ row) (hb : ∀ b, sv = .slice (some ⟨b, 0, none⟩) bs.length bs.length → some b ≠ row) : DecSt w' z sv bs s := by
  obtain ⟨⟨h0, h1⟩, h2, h3⟩ := h
  refine ⟨⟨h0, ?_⟩, h2, Blk.grown h3 hg hz⟩
  rcases h1 with h1 | ⟨b, e, hne, hB⟩
  · exact .inl h1
  · exact .inr ⟨b, e, hne, hB.grown hg (hb b e)⟩
theorem DecSt.below {w w' : World} {z : Nat} {sv : Value} {bs : List UInt8} {s : S} (h : DecSt w z sv bs s) (hg : Below w.heap.size w w') : DecSt w' z sv bs s :=
  h.grown (row := none) (grownBy_below hg) (by simp) (by simp)
theorem DecSt.drewN {w : World} {z : Nat} {sv : Value} {bs : List UInt8} {s : S} (h : DecSt w z sv bs s) (n : Nat) : DecSt (w.drewN n) z sv bs s := h

theorem neqNat {c : Nat} (h : c ≠ 0) : ((c : Int) != 0) = true := by rw [bne_iff_ne]; omega
theorem eqNat {c : Nat} (h : c ≠ 0) : ((c : Int) == 0) = false := by rw [beq_eq_false_iff_ne]; omega

theorem over_st (w : World) (z : Nat) (sv : Value) (bs : List UInt8) (s : S) (h : DecSt w z sv bs s) : Calls Try.prog 66 #[.pointer (some ⟨z, 0, none⟩)] w fun e w' => e = .returned (.bool (decide (s.code ≠ 0))) ∧ w' = w := by
  by_cases hc : s.code = 0
  · have h2 := h.2.2
    rw [hc] at h2
    have := over_go w z sv s.p s.fat h2
    simpa [hc] using this
  · have := over_stopped w z sv s.p s.fat s.code (neqNat hc) h.2.2
    simpa [hc] using this
theorem at_st (w : World) (z : Nat) (sv : Value) (bs : List UInt8) (s : S) (h : DecSt w z sv bs s) : Calls Try.prog 63 #[.pointer (some ⟨z, 0, none⟩)] w fun e w' => e = .returned (.int .i64 (mPlace s)) ∧ w' = w := by
  by_cases hc : s.code = 0
  · have h2 := h.2.2
    rw [hc] at h2
    have := at_go w z sv s.p s.fat h2
    simpa [hc, mPlace] using this
  · have := at_stopped w z sv s.p s.fat s.code (neqNat hc) h.2.2
    simpa [hc, mPlace] using this
theorem left_st (w : World) (z : Nat) (sv : Value) (bs : List UInt8) (s : S) (h : DecSt w z sv bs s) : Calls Try.prog 46 #[.pointer (some ⟨z, 0, none⟩)] w fun e w' => e = .returned (.int .i64 (mLeft bs s)) ∧ ∃ m, w' = w.drewN m := by
  by_cases hc : s.code = 0
  · obtain ⟨⟨hm, hb⟩, hp, h2⟩ := h
    rw [hc] at h2
    obtain ⟨ao, hsv⟩ : ∃ ao, sv = .slice ao bs.length bs.length := by
      rcases hb with ⟨e1, e2⟩ | ⟨b, e1, _⟩
      · exact ⟨none, by rw [e1, e2]; rfl⟩
      · exact ⟨_, e1⟩
    rw [hsv] at h2
    refine (left_go w z ao bs.length bs.length s.p s.fat (by omega) (by omega) hm h2).mono ?_
    rintro e w' ⟨he, hw⟩
    refine ⟨?_, hw⟩
    rw [he, mLeft, if_neg (by omega)]
    congr 2
    omega
  · refine (left_stopped w z sv s.p s.fat s.code (neqNat hc) h.2.2).mono ?_
    rintro e w' ⟨he, hw⟩
    refine ⟨?_, 0, hw⟩
    rw [he, mLeft, if_pos hc]
    rfl

def NextC (w : World) (z : Nat) (sv : Value) (bs : List UInt8) (r : Option (List UInt8) × S) (e : Ending) (w' : World) : Prop :=
  (∃ v, e = .returned (.tuple #[v, .bool r.1.isSome]) ∧ (r.1 = none → v = .slice none 0 0) ∧ Rd w' v (r.1.getD [])) ∧ DecSt w' z sv bs r.2 ∧ w.grownBy w' (some z)
theorem next_st (w : World) (z : Nat) (sv : Value) (bs : List UInt8) (s : S) (start k : Nat) (h : DecSt w z sv bs s) :
    Calls Try.prog 62 #[.pointer (some ⟨z, 0, none⟩), .int .i64 start, .int .i64 k] w (NextC w z sv bs (mNext bs s start k)) := by
  have hle := mNext_le bs s start k h.2.1
  have h0 := h
  obtain ⟨hb, hp, h2⟩ := h
  unfold mNext at hle ⊢
  by_cases hc : s.code = 0
  · rw [hc] at h2
    rw [if_neg (by omega)] at hle ⊢
    by_cases hk : bs.length < s.p + k
    · rw [if_pos hk] at hle ⊢
      obtain ⟨ao, hsv⟩ : ∃ ao, sv = .slice ao bs.length bs.length := by
        rcases hb.2 with ⟨e1, e2⟩ | ⟨b, e1, _⟩
        · exact ⟨none, by rw [e1, e2]; rfl⟩
        · exact ⟨_, e1⟩
      subst hsv
      refine (next_ends w z ao bs.length bs.length s.p s.fat start k hb.1 (by omega) (by omega) (by omega) h2).mono ?_
      rintro e w' ⟨he, hd, hg⟩
      exact ⟨⟨_, he, fun _ => rfl, Rd_none _⟩, ⟨hb.grown hg, hp, hd⟩, hg⟩
    · rw [if_neg hk] at hle ⊢
      refine (next_go w z sv bs s.p k s.fat start hb (by omega) h2).mono ?_
      rintro e w' ⟨v, he, hrd, hd, hg⟩
      refine ⟨⟨v, he, fun e => by simp at e, hrd⟩, ⟨hb.grown hg, hle, ?_⟩, hg⟩
      simp only [hc]
      exact hd
  · rw [if_pos hc]
    refine (next_stopped w z sv s.p s.fat s.code start k (neqNat hc) h2).mono ?_
    rintro e w' ⟨he, hw⟩
    rw [hw]
    exact ⟨⟨_, he, fun _ => rfl, Rd_none _⟩, ⟨hb, hp, h2⟩, World.grownBy.refl _ _⟩

end Go.Proofs.Ytbemmhngadpjcaa
