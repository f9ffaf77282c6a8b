/- Plain words: turned, chosen, the most. -/
import Derived.Laws.BitsAllLaws
import Derived.WalkKit
import Derived.Test.YtjcfndiceinkjabDoorOL7
import Derived.Deep.MidRow
import Derived.Laws.Cover3
namespace Go.Proofs.YtjcfndiceinkjabDoor
set_option linter.unusedVariables false
set_option linter.unusedSimpArgs false
open Go.RowKit

/-- A word turned right by n places. -/
def rr (n x : Nat) : Nat := x / 2 ^ n + x % 2 ^ n * 2 ^ (32 - n)
def s0 (x : Nat) : Nat := rr 7 x ^^^ rr 18 x ^^^ x / 8
def s1 (x : Nat) : Nat := rr 17 x ^^^ rr 19 x ^^^ x / 1024
def S0 (x : Nat) : Nat := rr 2 x ^^^ rr 13 x ^^^ rr 22 x
def S1 (x : Nat) : Nat := rr 6 x ^^^ rr 11 x ^^^ rr 25 x
def ch (e f g : Nat) : Nat := (e &&& f) ||| ((4294967295 - e) &&& g)
def maj (a b c : Nat) : Nat := (a &&& b) ||| (a &&& c) ||| (b &&& c)

theorem pow_sub_mul (n : Nat) (hn : n ≤ 32) : 2 ^ n * 2 ^ (32 - n) = 4294967296 := by
  rw [← Nat.pow_add, Nat.add_sub_cancel' hn]

theorem rr_lt (n x : Nat) (hn : n ≤ 32) (hx : x < 4294967296) : rr n x < 4294967296 := by
  have hp := pow_sub_mul n hn
  have h1 : x / 2 ^ n < 2 ^ (32 - n) := by
    rw [Nat.div_lt_iff_lt_mul (Nat.two_pow_pos n), Nat.mul_comm, hp]; exact hx
  have h2 : x % 2 ^ n + 1 ≤ 2 ^ n := Nat.mod_lt _ (Nat.two_pow_pos n)
  have h3 := Nat.mul_le_mul_right (2 ^ (32 - n)) h2
  rw [hp, Nat.add_mul, Nat.one_mul] at h3
  unfold rr; omega

/-- As the program turns it: out of two shifts. -/
theorem rr_or (n x : Nat) (hn : n ≤ 32) (hx : x < 4294967296) : (x * 2 ^ (32 - n) % 4294967296) ||| (x / 2 ^ n) = rr n x := by
  have hp := pow_sub_mul n hn
  have h1 : x / 2 ^ n < 2 ^ (32 - n) := by
    rw [Nat.div_lt_iff_lt_mul (Nat.two_pow_pos n), Nat.mul_comm, hp]; exact hx
  have h2 : x * 2 ^ (32 - n) % 4294967296 = 2 ^ (32 - n) * (x % 2 ^ n) := by
    rw [← hp, Nat.mul_mod_mul_right, Nat.mul_comm]
  rw [h2, ← Nat.two_pow_add_eq_or_of_lt h1]
  unfold rr; rw [Nat.mul_comm, Nat.add_comm]

theorem lt32 {x : Nat} : x < 4294967296 ↔ x < 2 ^ 32 := Iff.rfl
theorem xor_lt {x y : Nat} (hx : x < 4294967296) (hy : y < 4294967296) : x ^^^ y < 4294967296 := Nat.xor_lt_two_pow (n := 32) hx hy
theorem or_lt {x y : Nat} (hx : x < 4294967296) (hy : y < 4294967296) : x ||| y < 4294967296 := Nat.or_lt_two_pow (n := 32) hx hy
theorem and_lt {x y : Nat} (hx : x < 4294967296) : x &&& y < 4294967296 := Nat.lt_of_le_of_lt Nat.and_le_left hx
theorem and_lt' {x y : Nat} (hy : y < 4294967296) : x &&& y < 4294967296 := Nat.lt_of_le_of_lt Nat.and_le_right hy

theorem s0_lt {x : Nat} (hx : x < 4294967296) : s0 x < 4294967296 := xor_lt (xor_lt (rr_lt 7 x (by decide) hx) (rr_lt 18 x (by decide) hx)) (by omega)
theorem s1_lt {x : Nat} (hx : x < 4294967296) : s1 x < 4294967296 := xor_lt (xor_lt (rr_lt 17 x (by decide) hx) (rr_lt 19 x (by decide) hx)) (by omega)
theorem S0_lt {x : Nat} (hx : x < 4294967296) : S0 x < 4294967296 := xor_lt (xor_lt (rr_lt 2 x (by decide) hx) (rr_lt 13 x (by decide) hx)) (rr_lt 22 x (by decide) hx)
theorem S1_lt {x : Nat} (hx : x < 4294967296) : S1 x < 4294967296 := xor_lt (xor_lt (rr_lt 6 x (by decide) hx) (rr_lt 11 x (by decide) hx)) (rr_lt 25 x (by decide) hx)
theorem ch_lt {e f g : Nat} (he : e < 4294967296) : ch e f g < 4294967296 := or_lt (and_lt he) (and_lt (by omega))
theorem maj_lt {a b c : Nat} (ha : a < 4294967296) (hb : b < 4294967296) : maj a b c < 4294967296 := or_lt (or_lt (and_lt ha) (and_lt ha)) (and_lt hb)

theorem ch_xor (e f g : Nat) (he : e < 4294967296) : (e &&& f) ^^^ ((4294967295 - e) &&& g) = ch e f g := by
  unfold ch
  apply Nat.eq_of_testBit_eq
  intro i
  have := Nat.testBit_two_pow_sub_succ (n := 32) he i
  rw [show 2 ^ 32 - (e + 1) = 4294967295 - e by omega] at this
  simp only [Nat.testBit_xor, Nat.testBit_or, Nat.testBit_and, this]
  cases e.testBit i <;> simp
theorem maj_xor (a b c : Nat) : (a &&& b) ^^^ (a &&& c) ^^^ (b &&& c) = maj a b c := by
  unfold maj
  apply Nat.eq_of_testBit_eq
  intro i
  simp only [Nat.testBit_xor, Nat.testBit_or, Nat.testBit_and]
  cases a.testBit i <;> cases b.testBit i <;> cases c.testBit i <;> rfl

/-- Eight words. -/
structure S8 where
  a : Nat
  b : Nat
  c : Nat
  d : Nat
  e : Nat
  f : Nat
  g : Nat
  h : Nat
def S8.ok (s : S8) : Prop := s.a < 4294967296 ∧ s.b < 4294967296 ∧ s.c < 4294967296 ∧ s.d < 4294967296 ∧ s.e < 4294967296 ∧ s.f < 4294967296 ∧ s.g < 4294967296 ∧ s.h < 4294967296
def S8.nats (s : S8) : List Nat := [s.a, s.b, s.c, s.d, s.e, s.f, s.g, s.h]
/-- One round, with what is added and the round's word. -/
def rnd (k w : Nat) (s : S8) : S8 :=
  ⟨(s.h + S1 s.e + ch s.e s.f s.g + k + w + (S0 s.a + maj s.a s.b s.c)) % 4294967296, s.a, s.b, s.c, (s.d + (s.h + S1 s.e + ch s.e s.f s.g + k + w)) % 4294967296, s.e, s.f, s.g⟩
theorem rnd_ok (k w : Nat) {s : S8} (h : s.ok) : (rnd k w s).ok := by
  obtain ⟨h1, h2, h3, h4, h5, h6, h7, h8⟩ := h
  exact ⟨Nat.mod_lt _ (by decide), h1, h2, h3, Nat.mod_lt _ (by decide), h5, h6, h7⟩
def addS (s t : S8) : S8 := ⟨(s.a + t.a) % 4294967296, (s.b + t.b) % 4294967296, (s.c + t.c) % 4294967296, (s.d + t.d) % 4294967296, (s.e + t.e) % 4294967296, (s.f + t.f) % 4294967296, (s.g + t.g) % 4294967296, (s.h + t.h) % 4294967296⟩
theorem addS_ok (s t : S8) : (addS s t).ok := ⟨Nat.mod_lt _ (by decide), Nat.mod_lt _ (by decide), Nat.mod_lt _ (by decide), Nat.mod_lt _ (by decide), Nat.mod_lt _ (by decide), Nat.mod_lt _ (by decide), Nat.mod_lt _ (by decide), Nat.mod_lt _ (by decide)⟩

/-- What each round adds. -/
def Kt : List Nat := [
  0x428a2f98, 0x71374491, 0xb5c0fbcf, 0xe9b5dba5, 0x3956c25b, 0x59f111f1, 0x923f82a4, 0xab1c5ed5,
  0xd807aa98, 0x12835b01, 0x243185be, 0x550c7dc3, 0x72be5d74, 0x80deb1fe, 0x9bdc06a7, 0xc19bf174,
  0xe49b69c1, 0xefbe4786, 0x0fc19dc6, 0x240ca1cc, 0x2de92c6f, 0x4a7484aa, 0x5cb0a9dc, 0x76f988da,
  0x983e5152, 0xa831c66d, 0xb00327c8, 0xbf597fc7, 0xc6e00bf3, 0xd5a79147, 0x06ca6351, 0x14292967,
  0x27b70a85, 0x2e1b2138, 0x4d2c6dfc, 0x53380d13, 0x650a7354, 0x766a0abb, 0x81c2c92e, 0x92722c85,
  0xa2bfe8a1, 0xa81a664b, 0xc24b8b70, 0xc76c51a3, 0xd192e819, 0xd6990624, 0xf40e3585, 0x106aa070,
  0x19a4c116, 0x1e376c08, 0x2748774c, 0x34b0bcb5, 0x391c0cb3, 0x4ed8aa4a, 0x5b9cca4f, 0x682e6ff3,
  0x748f82ee, 0x78a5636f, 0x84c87814, 0x8cc70208, 0x90befffa, 0xa4506ceb, 0xbef9a3f7, 0xc67178f2]
def begin8 : S8 := ⟨0x6a09e667, 0xbb67ae85, 0x3c6ef372, 0xa54ff53a, 0x510e527f, 0x9b05688c, 0x1f83d9ab, 0x5be0cd19⟩
theorem begin8_ok : begin8.ok := by unfold S8.ok begin8; decide

/-- A block's t-th word, and the one behind some words. -/
def wordAt (b : List UInt8) (t : Nat) : Nat := ((b[4 * t]?.getD 0).toNat * 256 + (b[4 * t + 1]?.getD 0).toNat) * 65536 + (b[4 * t + 2]?.getD 0).toNat * 256 + (b[4 * t + 3]?.getD 0).toNat
def wnext (ws : List Nat) : Nat :=
  (s1 (ws[ws.length - 2]?.getD 0) + ws[ws.length - 7]?.getD 0 + s0 (ws[ws.length - 15]?.getD 0) + ws[ws.length - 16]?.getD 0) % 4294967296
def wds (b : List UInt8) : Nat → List Nat
  | 0 => []
  | t + 1 => wds b t ++ [if t < 16 then wordAt b t else wnext (wds b t)]
theorem wds_length (b : List UInt8) (t : Nat) : (wds b t).length = t := by
  induction t with
  | zero => rfl
  | succ t ih => simp [wds, ih]
theorem wordAt_lt (b : List UInt8) (t : Nat) : wordAt b t < 4294967296 := by
  have h (o : Option UInt8) : (o.getD 0).toNat < 256 := (o.getD 0).toNat_lt
  have h1 := h b[4 * t]?
  have h2 := h b[4 * t + 1]?
  have h3 := h b[4 * t + 2]?
  have h4 := h b[4 * t + 3]?
  unfold wordAt; omega
theorem wds_lt (b : List UInt8) (t : Nat) : ∀ x ∈ wds b t, x < 4294967296 := by
  induction t with
  | zero => intro x hx; cases hx
  | succ t ih =>
    intro x hx
    rcases List.mem_append.1 hx with h | h
    · exact ih x h
    · rw [List.mem_singleton] at h
      subst h
      split
      · exact wordAt_lt b t
      · exact Nat.mod_lt _ (by decide)
theorem wds_low (b : List UInt8) (t i : Nat) (h : i < t) : (wds b t)[i]? = (wds b (i + 1))[i]? := by
  induction t with
  | zero => omega
  | succ t ih =>
    by_cases hi : i = t
    · rw [hi]
    · rw [wds, List.getElem?_append_left (by rw [wds_length]; omega)]
      exact ih (by omega)

def rounds (ws : List Nat) (s : S8) : Nat → S8
  | 0 => s
  | t + 1 => rnd (Kt[t]?.getD 0) (ws[t]?.getD 0) (rounds ws s t)
theorem rounds_ok (ws : List Nat) {s : S8} (h : s.ok) (t : Nat) : (rounds ws s t).ok := by
  induction t with
  | zero => exact h
  | succ t ih => exact rnd_ok _ _ ih
def blk (s : S8) (b : List UInt8) : S8 := addS s (rounds (wds b 64) s 64)
theorem blk_ok (s : S8) (b : List UInt8) : (blk s b).ok := addS_ok _ _

/-- Block by block. -/
def chain (s : S8) : Nat → List UInt8 → S8
  | 0, _ => s
  | k + 1, bs => chain (blk s (bs.take 64)) k (bs.drop 64)
theorem chain_ok {s : S8} (h : s.ok) (k : Nat) (bs : List UInt8) : (chain s k bs).ok := by
  induction k generalizing s bs with
  | zero => exact h
  | succ k ih => exact ih (blk_ok _ _) _
theorem chain_append (s : S8) (k m : Nat) (xs ys : List UInt8) (h : xs.length = 64 * k) : chain s (k + m) (xs ++ ys) = chain (chain s k xs) m ys := by
  induction k generalizing s xs with
  | zero => obtain rfl : xs = [] := List.eq_nil_of_length_eq_zero (by omega); simp [chain]
  | succ k ih =>
    rw [show k + 1 + m = (k + m) + 1 by omega, chain, chain, List.take_append_of_le_length (by omega), List.drop_append_of_le_length (by omega)]
    exact ih _ _ (by simp; omega)
theorem chain_succ (s : S8) (k : Nat) (xs ys : List UInt8) (h : xs.length = 64 * k) (hy : ys.length = 64) : chain s (k + 1) (xs ++ ys) = blk (chain s k xs) ys := by
  rw [chain_append s k 1 xs ys h]; simp [chain, List.take_of_length_le (Nat.le_of_eq hy)]
theorem chain_take (s : S8) (k : Nat) (xs : List UInt8) (n : Nat) (h : 64 * k ≤ n) : chain s k (xs.take n) = chain s k xs := by
  induction k generalizing s xs n with
  | zero => rfl
  | succ k ih =>
    rw [chain, chain, List.take_take, Nat.min_eq_left (by omega), List.drop_take]
    exact ih _ _ _ (by omega)

/-- What is laid behind n bytes. -/
def tailL (n : Nat) : List UInt8 :=
  128 :: (List.replicate ((119 - n % 64) % 64) 0 ++ (List.range 8).map (fun i => UInt8.ofNat (8 * n % 18446744073709551616 / 256 ^ (7 - i) % 256)))
theorem tailL_length (n : Nat) : (tailL n).length = 9 + (119 - n % 64) % 64 := by simp [tailL]; omega
theorem tailL_whole (n : Nat) : (n + (tailL n).length) % 64 = 0 := by rw [tailL_length]; omega

/-- The bytes of eight words. -/
def bytes8 (s : S8) : List UInt8 := (List.range 32).map (fun i => UInt8.ofNat (s.nats[i / 4]?.getD 0 / 2 ^ (24 - 8 * (i % 4)) % 256))
def shaOf (bs : List UInt8) : List UInt8 := bytes8 (chain begin8 ((bs.length + (tailL bs.length).length) / 64) (bs ++ tailL bs.length))
end Go.Proofs.YtjcfndiceinkjabDoor

/- Whole arrays and structs, loaded and stored. -/
namespace Go.Proofs.YtjcfndiceinkjabDoor
set_option linter.unusedVariables false
set_option linter.unusedSimpArgs false
open Go.RowKit

def u32c (x : Nat) : Value := .int .u32 (x : Int)
def u64c (x : Nat) : Value := .int .u64 (x : Int)
theorem u32c_one (xs : List Nat) : ∀ v ∈ xs.map u32c, v.oneCell' = true := by
  intro v hv
  obtain ⟨u, _, rfl⟩ := List.mem_map.1 hv
  rfl
theorem infoW64 : (Tryd.prog.info? 147).map (·.size) = some 64 := by kernel_rfl
theorem infoB64 : (Tryd.prog.info? 105).map (·.size) = some 64 := by kernel_rfl
theorem infoS8 : (Tryd.prog.info? 69).map (·.size) = some 8 := by kernel_rfl
theorem infoHas : (Tryd.prog.info? 107).map (·.size) = some 74 := by kernel_rfl
end Go.Proofs.YtjcfndiceinkjabDoor

/- A word turned right, as the program does it, and as the document does. -/
namespace Go.Proofs.YtjcfndiceinkjabDoor
set_option linter.unusedVariables false
set_option linter.unusedSimpArgs false
open Go.RowKit

set_option maxRecDepth 20000 in
theorem rotl_any (w : World) (x n : Nat) (hx : x < 4294967296) (h1 : 1 ≤ n) (h2 : n ≤ 31) (q : Int) (hq : q = -n) : Calls Tryd.prog 108 #[.int .u32 x, .int .i64 q] w fun e w' => e = .returned (.int .u32 (rr n x : Nat)) ∧ w' = w := by
  obtain ⟨m, hm⟩ : ∃ m : Nat, m = 18446744073709551616 - n := ⟨_, rfl⟩
  obtain ⟨s, hs⟩ : ∃ s : Nat, s = 32 - n := ⟨_, rfl⟩
  have a1 : IntKind.u64.wrap q = (m : Int) := by rw [IntKind.wrap_u64]; omega
  have a2 : bits .and .u64 (m : Int) 31 = (s : Int) := by
    rw [show (31 : Int) = ((31 : Nat) : Int) from rfl, u64_and_nat m 31 (by omega) (by decide), show (31 : Nat) = 2 ^ 5 - 1 from rfl, Nat.and_two_pow_sub_one_eq_mod]; omega
  have a3 : IntKind.u64.wrap (32 - s) = (n : Int) := by rw [IntKind.wrap_u64]; omega
  have a4 : IntKind.u32.wrap ((x : Int) * 2 ^ s) = ((x * 2 ^ s % 4294967296 : Nat) : Int) := by rw [IntKind.wrap_u32']; simp
  have a5 : bits .or .u32 ((x : Int) * 2 ^ s % 4294967296) ((x : Int) / 2 ^ n) = ((rr n x : Nat) : Int) := by
    have e1 : (x : Int) * 2 ^ s % 4294967296 = ((x * 2 ^ s % 4294967296 : Nat) : Int) := by simp
    have e2 : (x : Int) / 2 ^ n = ((x / 2 ^ n : Nat) : Int) := by simp
    rw [e1, e2, u32_or_nat _ _ (Nat.mod_lt _ (by decide)) (Nat.lt_of_le_of_lt (Nat.div_le_self _ _) hx), hs, rr_or n x (by omega) hx]
  have hs32 : s < 32 := by omega
  clear hm hs hq
  go_enter Tryd.func108, Tryd.ntmps108
  go_wp2
  go_ret
  exact ⟨rfl, rfl⟩
set_option maxRecDepth 20000 in
theorem right_any (w : World) (x n : Nat) (hx : x < 4294967296) (h1 : 1 ≤ n) (h2 : n ≤ 31) : Calls Tryd.prog 107 #[.int .u32 x, .int .i64 n] w fun e w' => e = .returned (.int .u32 (rr n x : Nat)) ∧ w' = w := by
  go_enter Tryd.func107, Tryd.ntmps107
  go_wp2_with fail
  refine (rotl_any _ x n hx h1 h2 _ (by go_num)).mono ?_
  rintro e w' ⟨rfl, rfl⟩
  go_wp2
  go_ret
  exact ⟨rfl, rfl⟩
theorem pow_lt33 (n : Nat) (h : n ≤ 32) : 2 ^ n ≤ 4294967296 := Nat.pow_le_pow_right (n := 2) (by decide) h
set_option maxRecDepth 20000 in
theorem part_any (w : World) (n : Nat) (h : n ≤ 32) : Calls Tryd.prog 33 #[.int .i64 n] w fun e w' => e = .returned (.int .u64 (2 ^ n : Nat)) ∧ w' = w := by
  go_enter Tryd.func33, Tryd.ntmps33
  go_wp2
  go_loopw [3, 4] (fun v i wr => ∃ k : Nat, i = .int .i64 k ∧ k ≤ n ∧ v = .int .u64 (2 ^ k : Nat) ∧ wr = w) (fun _ i _ => n - (intOf i).toNat)
  case atStart => exact ⟨0, rfl, by omega, rfl, rfl⟩
  case round =>
    obtain ⟨k, rfl, hk, rfl, rfl⟩ := hrel
    have hp := pow_lt33 k (by omega)
    obtain ⟨p, hpp⟩ : ∃ p, p = 2 ^ k := ⟨_, rfl⟩
    rw [← hpp] at hp ⊢
    have HP := hide hpp
    clear hpp
    by_cases hlt : k < n
    · have g : IntKind.u64.wrap ((p : Int) * 2) = ((p * 2 : Nat) : Int) := by rw [IntKind.wrap_u64]; omega
      go_wp2
      refine ⟨⟨k + 1, by go_num, by omega, ?_, by trivial⟩, by simp [intOf]; omega⟩
      rw [Nat.pow_succ, ← HP.out]
      first | rfl | simp
    · go_wp2
      go_ret
      obtain rfl : k = n := by omega
      rw [← HP.out]
      exact ⟨rfl, rfl⟩
theorem wrap64_nat (n : Nat) (h : n < 18446744073709551616) : IntKind.u64.wrap (n : Int) = (n : Int) := by rw [IntKind.wrap_u64]; omega
set_option maxRecDepth 20000 in
theorem rright_any (w : World) (x n : Nat) (hx : x < 4294967296) (h : n ≤ 32) : Calls Tryd.prog 100 #[.int .u64 x, .int .i64 n] w fun e w' => e = .returned (.int .u64 (x / 2 ^ n : Nat)) ∧ w' = w := by
  have HP := hide (fun w => part_any w n h)
  have hp := Nat.two_pow_pos n
  have hd : x / 2 ^ n ≤ x := Nat.div_le_self _ _
  have c2 : (x : Int) / (2 ^ n : Nat) = ((x / 2 ^ n : Nat) : Int) := rfl
  generalize x / 2 ^ n = d at c2 hd ⊢
  generalize 2 ^ n = p at HP hp c2
  have hne : ¬ (p : Int) = 0 := by omega
  have hne2 : ¬ p = 0 := by omega
  have c3 := wrap64_nat d (by omega)
  go_enter Tryd.func100, Tryd.ntmps100
  go_wp2_with fail
  refine (HP.out _).mono ?_
  rintro e w' ⟨rfl, rfl⟩
  go_wp2
  go_ret
  exact ⟨rfl, rfl⟩
set_option maxRecDepth 20000 in
set_option maxHeartbeats 1000000 in
theorem turned_any (w : World) (x n : Nat) (hx : x < 4294967296) (h : n ≤ 32) : Calls Tryd.prog 99 #[.int .u64 x, .int .i64 n] w fun e w' => e = .returned (.int .u64 (rr n x : Nat)) ∧ ∃ m, w' = w.drewN m := by
  have HP := hide (fun w => part_any w n h)
  obtain ⟨l, hl⟩ : ∃ l, l = 32 - n := ⟨_, rfl⟩
  have g0 : (32 : Int) - n = (l : Int) := by omega
  have HQ := hide (fun w => part_any w l (by omega))
  have hp := Nat.two_pow_pos n
  have hr := rr_lt n x h hx
  have hrd : rr n x = x / 2 ^ n + x % 2 ^ n * 2 ^ l := by rw [hl]; rfl
  have c2 : (x : Int) / (2 ^ n : Nat) = ((x / 2 ^ n : Nat) : Int) := rfl
  have c3 : (x : Int).tmod (2 ^ n : Nat) = ((x % 2 ^ n : Nat) : Int) := by rw [Int.tmod_eq_emod_of_nonneg (by omega)]; rfl
  have hl32 : l ≤ 32 := by omega
  have c0 := wrapi64_nat l (by omega)
  have c4 : ((x % 2 ^ n : Nat) : Int) * ((2 ^ l : Nat) : Int) = ((x % 2 ^ n * 2 ^ l : Nat) : Int) := by simp
  generalize x % 2 ^ n * 2 ^ l = y at hrd c4
  generalize x / 2 ^ n = d at c2 hrd
  generalize x % 2 ^ n = m at c3 c4
  generalize 2 ^ n = p at HP hp c2 c3
  generalize 2 ^ l = r at HQ c4
  generalize rr n x = z at hr hrd ⊢
  have hne : ¬ (p : Int) = 0 := by omega
  have hne2 : ¬ p = 0 := by omega
  have c5 := wrap64_nat d (by omega)
  have c6 : IntKind.u64.wrap ((m : Int) * (r : Int)) = (y : Int) := by rw [c4]; exact wrap64_nat y (by omega)
  have c7 : IntKind.u64.wrap ((d : Int) + (y : Int)) = (z : Int) := by rw [IntKind.wrap_u64]; omega
  clear hl hrd c4
  go_enter Tryd.func99, Tryd.ntmps99
  go_wp2
  refine wp_region_quiet_lit (by kernel_rfl) (by kernel_rfl) ?_
  quiet_step (fail)
  quiet_step (fail)
  quiet_step (exact Calls.quiet_of_same (HP.out _))
  quiet_step (fail)
  quiet_step (fail)
  quiet_step (fail)
  quiet_step (exact Calls.quiet_of_same (HP.out _))
  quiet_step (fail)
  quiet_step (fail)
  quiet_step (fail)
  quiet_step (exact Calls.quiet_of_same (HQ.out _))
  quiet_step (fail)
  quiet_step (fail)
  quiet_step (fail)
  refine wpQuiet_nil ?_
  intro _ hw'
  obtain ⟨nq, hw''⟩ := hw'
  subst hw''
  go_wp2
  go_ret
  exact ⟨rfl, _, rfl⟩
end Go.Proofs.YtjcfndiceinkjabDoor
