/- The document's head of a record, and its numbers of two and four bytes. -/
import Derived.Test.YtbnedlcldfpfdaaEX1
namespace Go.Proofs.Ytbnedlcldfpfdaa
set_option linter.unusedVariables false
set_option linter.unusedSimpArgs false
open Go.RowKit Go.Sort

theorem i64_and_nat (a b : Nat) (ha : a < 9223372036854775808) (hb : b < 9223372036854775808) : bits .and .i64 (a : Int) (b : Int) = ((a &&& b : Nat) : Int) := by
  have hx : a &&& b < 2 ^ 63 := Nat.lt_of_le_of_lt Nat.and_le_left (by omega)
  show IntKind.i64.wrap ((BitVec.ofInt 64 (a : Int) &&& BitVec.ofInt 64 (b : Int)).toNat : Int) = _
  rw [BitVec.toNat_and, ofInt_u64 a (by omega), ofInt_u64 b (by omega), IntKind.wrap_i64]
  omega
theorem and255 (n : Nat) (h : n < 9223372036854775808) : bits .and .i64 (n : Int) 255 = ((n % 256 : Nat) : Int) := by
  rw [show (255 : Int) = ((255 : Nat) : Int) from rfl, i64_and_nat n 255 h (by decide), show (255 : Nat) = 2 ^ 8 - 1 from rfl, Nat.and_two_pow_sub_one_eq_mod]
theorem wrap8m (n : Nat) : IntKind.u8.wrap ((n % 256 : Nat) : Int) = ((UInt8.ofNat n).toNat : Int) := by rw [IntKind.wrap_u8', UInt8.toNat_ofNat']; omega
set_option maxRecDepth 20000 in
set_option maxHeartbeats 1600000 in
theorem rhead_any (w : World) (n : Nat) (hn : n ≤ 65535) : Calls Try.prog 37 #[.int .i64 (n : Int)] w (JoinC w (openL n)) := by
  have b1 := and255 n (by omega)
  obtain ⟨m, hm⟩ : ∃ m, m = 65535 - n := ⟨_, rfl⟩
  have hmi : (65535 : Int) - (n : Int) = (m : Int) := by omega
  have hml : m ≤ 65535 := by omega
  have b3 := and255 m (by omega)
  have q1 := wrap8m n
  have q2 : IntKind.u8.wrap ((n : Int) / 256) = ((UInt8.ofNat (n / 256)).toNat : Int) := by rw [← wrap8]; congr 1
  have q3 := wrap8m m
  have q4 : IntKind.u8.wrap ((m : Int) / 256) = ((UInt8.ofNat (m / 256)).toNat : Int) := by rw [← wrap8]; congr 1
  have HO : Hid (openL n = [199, .ofNat n, .ofNat (n / 256), .ofNat m, .ofNat (m / 256), 1]) := hide (by rw [hm]; rfl)
  obtain ⟨a1, h1⟩ : ∃ a, a = UInt8.ofNat n := ⟨_, rfl⟩
  obtain ⟨a2, h2⟩ : ∃ a, a = UInt8.ofNat (n / 256) := ⟨_, rfl⟩
  obtain ⟨a3, h3⟩ : ∃ a, a = UInt8.ofNat m := ⟨_, rfl⟩
  obtain ⟨a4, h4⟩ : ∃ a, a = UInt8.ofNat (m / 256) := ⟨_, rfl⟩
  obtain ⟨n', hn'⟩ : ∃ n', n' = n % 256 := ⟨_, rfl⟩
  obtain ⟨m', hm'⟩ : ∃ m', m' = m % 256 := ⟨_, rfl⟩
  rw [← h1] at q1 HO
  rw [← h2] at q2 HO
  rw [← h3] at q3 HO
  rw [← h4] at q4 HO
  rw [← hn'] at q1 b1
  rw [← hm'] at q3 b3
  clear h1 h2 h3 h4 hm hn' hm'
  have HW := hide (owns_made w [199, a1, a2, a3, a4, 1] (show 6 ≤ maxLen by decide) w.heap.size (Nat.le_refl _))
  have HB := hide ((Below.refl w.heap.size w).alloc (Nat.le_refl _) (.cells (([199, a1, a2, a3, a4, 1] : List UInt8).map u8c).toArray 5))
  go_enter Try.func37, Try.ntmps37
  go_wp2
  go_ret
  exact ⟨_, rfl, by rw [HO.out]; exact HW.out, HB.out⟩
def I64C (w : World) (n : Nat) (e : Ending) (w' : World) : Prop := e = .returned (.int .i64 (n : Int)) ∧ Below w.heap.size w w'
set_option maxRecDepth 20000 in
set_option maxHeartbeats 1600000 in
theorem rtwo_any (w : World) (v : Value) (xs : List UInt8) (hv : RdA w v xs) (k : Nat) (h : k + 1 < xs.length) (q : Int) (hq : q = k) : Calls Try.prog 39 #[v, .int .i64 q] w (I64C w (xs[k].toNat + 256 * xs[k + 1].toNat)) := by
  subst hq
  obtain ⟨ao, c, rfl, hl63⟩ := hv.slice
  obtain ⟨bz, bo, cc, he, h0⟩ := hv.at k (by omega)
  obtain ⟨bz', bo', cc', he', h1⟩ := hv.at (k + 1) h
  rw [he] at he'
  obtain ⟨e1, -, -⟩ := (Value.slice.injEq ..).mp he'
  cases e1
  cases he
  have hx : xs[k].toNat < 256 := xs[k].toNat_lt
  have hy : xs[k + 1].toNat < 256 := xs[k + 1].toNat_lt
  obtain ⟨x, ex⟩ : ∃ x, x = xs[k].toNat := ⟨_, rfl⟩
  obtain ⟨y, ey⟩ : ∃ y, y = xs[k + 1].toNat := ⟨_, rfl⟩
  rw [← ex] at h0 hx ⊢
  rw [← ey] at h1 hy ⊢
  have hk : (k : Int) < xs.length := by omega
  have hk1 : (k : Int) + 1 < xs.length := by omega
  have hsum : (x : Int) + 256 * (y : Int) = ((x + 256 * y : Nat) : Int) := by omega
  have g0 := fun d os => cell_regrown h0 d os
  have g1 := fun d os => cell_regrown h1 d os
  obtain ⟨k1, ek⟩ : ∃ k1, k1 = k + 1 := ⟨_, rfl⟩
  rw [← ek] at g1 h1
  have wk : IntKind.i64.wrap ((k : Int) + 1) = (k1 : Int) := by rw [IntKind.wrap_i64]; omega
  have wx : IntKind.i64.wrap (x : Int) = (x : Int) := by rw [IntKind.wrap_i64]; omega
  have wy : IntKind.i64.wrap (y : Int) = (y : Int) := by rw [IntKind.wrap_i64]; omega
  have wm : IntKind.i64.wrap (256 * (y : Int)) = ((256 * y : Nat) : Int) := by rw [IntKind.wrap_i64]; omega
  obtain ⟨m, em⟩ : ∃ m, m = 256 * y := ⟨_, rfl⟩
  rw [← em] at wm ⊢
  have ws : IntKind.i64.wrap ((x : Int) + (m : Int)) = ((x + m : Nat) : Int) := by rw [IntKind.wrap_i64]; omega
  obtain ⟨s, es⟩ : ∃ s, s = x + m := ⟨_, rfl⟩
  rw [← es] at ws ⊢
  have hk1' : (k1 : Int) < xs.length := by omega
  clear ex ey hv ek em es hk1 hsum
  go_enter Try.func39, Try.ntmps39
  go_wp2
  refine wp_region_quiet_below (by kernel_rfl) (by kernel_rfl) ?_
  repeat quiet_step (fail)
  refine wpQuiet_nil ?_
  intro w2 hw'
  obtain ⟨⟨dq, osq⟩, hw''⟩ := hw'
  have hb12 := below_regrown w dq osq
  rw [← show w2 = grow (redrawn w dq) osq from hw''] at hb12
  clear hw''
  go_wp2
  go_ret
  exact ⟨rfl, hb12⟩
theorem or_four (a b c d : Nat) (ha : a < 256) (hb : b < 256) (hc : c < 256) (hd : d < 256) : bits .or .u32 (bits .or .u32 (bits .or .u32 (a : Int) ((b : Int) * 256)) ((c : Int) * 65536)) ((d : Int) * 16777216) = ((a + 256 * b + 65536 * c + 16777216 * d : Nat) : Int) := by
  have e1 : (b : Int) * 256 = ((256 * b : Nat) : Int) := by omega
  have e2 : (c : Int) * 65536 = ((65536 * c : Nat) : Int) := by omega
  have e3 : (d : Int) * 16777216 = ((16777216 * d : Nat) : Int) := by omega
  rw [e1, e2, e3, u32_or_nat a (256 * b) (by omega) (by omega), Nat.or_comm, nat_join 8 (256 * b) a (by omega) ha, u32_or_nat _ (65536 * c) (by omega) (by omega), Nat.or_comm, nat_join 16 (65536 * c) (256 * b + a) (by omega) (by omega), u32_or_nat _ (16777216 * d) (by omega) (by omega), Nat.or_comm, nat_join 24 (16777216 * d) _ (by omega) (by omega)]
  congr 1; omega
set_option maxRecDepth 20000 in
set_option maxHeartbeats 1600000 in
theorem rfour_any (w : World) (v : Value) (xs : List UInt8) (hv : RdA w v xs) (k : Nat) (h : k + 3 < xs.length) (q : Int) (hq : q = k) : Calls Try.prog 40 #[v, .int .i64 q] w (SumC w (xs[k].toNat + 256 * xs[k + 1].toNat + 65536 * xs[k + 2].toNat + 16777216 * xs[k + 3].toNat)) := by
  subst hq
  obtain ⟨ao, c, rfl, hl63⟩ := hv.slice
  obtain ⟨bz, bo, cc, he, h0⟩ := hv.at k (by omega)
  have hat : ∀ j (hj : j < xs.length), w.cell? ⟨bz, bo + j, none⟩ = some (.int .u8 (xs[j].toNat : Int)) := by
    intro j hj
    obtain ⟨b', o', cc', he', hc'⟩ := hv.at j hj
    rw [he] at he'
    obtain ⟨e1, -, -⟩ := (Value.slice.injEq ..).mp he'
    cases e1
    exact hc'
  cases he
  have h1 := hat (k + 1) (by omega)
  have h2 := hat (k + 2) (by omega)
  have h3 := hat (k + 3) h
  have l0 : xs[k].toNat < 256 := xs[k].toNat_lt
  have l1 : xs[k + 1].toNat < 256 := xs[k + 1].toNat_lt
  have l2 : xs[k + 2].toNat < 256 := xs[k + 2].toNat_lt
  have l3 : xs[k + 3].toNat < 256 := xs[k + 3].toNat_lt
  obtain ⟨x0, e0⟩ : ∃ x, x = xs[k].toNat := ⟨_, rfl⟩
  obtain ⟨x1, e1⟩ : ∃ y, y = xs[k + 1].toNat := ⟨_, rfl⟩
  obtain ⟨x2, e2⟩ : ∃ y, y = xs[k + 2].toNat := ⟨_, rfl⟩
  obtain ⟨x3, e3⟩ : ∃ y, y = xs[k + 3].toNat := ⟨_, rfl⟩
  rw [← e0] at h0 l0 ⊢
  rw [← e1] at h1 l1 ⊢
  rw [← e2] at h2 l2 ⊢
  rw [← e3] at h3 l3 ⊢
  have hk : (k : Int) < xs.length := by omega
  have hk1 : (k : Int) + 1 < xs.length := by omega
  have hk2 : (k : Int) + 2 < xs.length := by omega
  have hk3 : (k : Int) + 3 < xs.length := by omega
  have hs := or_four x0 x1 x2 x3 l0 l1 l2 l3
  obtain ⟨s, es⟩ : ∃ s, s = x0 + 256 * x1 + 65536 * x2 + 16777216 * x3 := ⟨_, rfl⟩
  rw [← es] at hs ⊢
  have v0 : IntKind.u32.wrap (x0 : Int) = (x0 : Int) := by rw [IntKind.wrap_u32']; omega
  have v1 : IntKind.u32.wrap (x1 : Int) = (x1 : Int) := by rw [IntKind.wrap_u32']; omega
  have v2 : IntKind.u32.wrap (x2 : Int) = (x2 : Int) := by rw [IntKind.wrap_u32']; omega
  have v3 : IntKind.u32.wrap (x3 : Int) = (x3 : Int) := by rw [IntKind.wrap_u32']; omega
  have z1 : IntKind.u32.wrap ((x1 : Int) * 256) = (x1 : Int) * 256 := by rw [IntKind.wrap_u32']; omega
  have z2 : IntKind.u32.wrap ((x2 : Int) * 65536) = (x2 : Int) * 65536 := by rw [IntKind.wrap_u32']; omega
  have z3 : IntKind.u32.wrap ((x3 : Int) * 16777216) = (x3 : Int) * 16777216 := by rw [IntKind.wrap_u32']; omega
  have g0 := fun d os => cell_regrown h0 d os
  have g1 := fun d os => cell_regrown h1 d os
  have g2 := fun d os => cell_regrown h2 d os
  have g3 := fun d os => cell_regrown h3 d os
  obtain ⟨k1, ek1⟩ : ∃ k1, k1 = k + 1 := ⟨_, rfl⟩
  obtain ⟨k2, ek2⟩ : ∃ k1, k1 = k + 2 := ⟨_, rfl⟩
  obtain ⟨k3, ek3⟩ : ∃ k1, k1 = k + 3 := ⟨_, rfl⟩
  rw [← ek1] at g1 h1
  rw [← ek2] at g2 h2
  rw [← ek3] at g3 h3
  have wk1 : IntKind.i64.wrap ((k : Int) + 1) = (k1 : Int) := by rw [IntKind.wrap_i64]; omega
  have wk2 : IntKind.i64.wrap ((k : Int) + 2) = (k2 : Int) := by rw [IntKind.wrap_i64]; omega
  have wk3 : IntKind.i64.wrap ((k : Int) + 3) = (k3 : Int) := by rw [IntKind.wrap_i64]; omega
  have hk1' : (k1 : Int) < xs.length := by omega
  have hk2' : (k2 : Int) < xs.length := by omega
  have hk3' : (k3 : Int) < xs.length := by omega
  clear es e0 e1 e2 e3 hv hat ek1 ek2 ek3 hk1 hk2 hk3
  go_enter Try.func40, Try.ntmps40
  go_wp2
  refine wp_region_quiet_below (by kernel_rfl) (by kernel_rfl) ?_
  repeat quiet_step (fail)
  refine wpQuiet_nil ?_
  intro w2 hw'
  obtain ⟨⟨dq, osq⟩, hw''⟩ := hw'
  have hb12 := below_regrown w dq osq
  rw [← show w2 = grow (redrawn w dq) osq from hw''] at hb12
  clear hw''
  go_wp2
  go_ret
  exact ⟨rfl, hb12⟩
end Go.Proofs.Ytbnedlcldfpfdaa
