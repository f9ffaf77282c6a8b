/- Len, Var, Key and Text on an Enc. -/
import Derived.Test.YtjcfndiceinkjabDoorOE1
import Derived.Lib.ConvBytes
namespace Go.Proofs.YtjcfndiceinkjabDoor
set_option linter.unusedVariables false
set_option linter.unusedSimpArgs false
open Go.RowKit

/-- The bytes of a number at seven bits a byte. -/
def varGo : Nat → Nat → List UInt8
  | 0, v => [UInt8.ofNat v]
  | n + 1, v => if v < 128 then [UInt8.ofNat v] else UInt8.ofNat (v % 128 + 128) :: varGo n (v / 128)
def varB (v : Nat) : List UInt8 := varGo 9 v
theorem varGo_len : ∀ (n v : Nat), (varGo n v).length ≤ n + 1
  | 0, v => by simp [varGo]
  | n + 1, v => by
    rw [varGo]
    split
    · simp
    · have := varGo_len n (v / 128)
      simp; omega
theorem varB_len (v : Nat) : (varB v).length ≤ 10 := varGo_len 9 v

theorem pow10b (y k : Nat) (h : y * 128 ^ k ≤ 18446744073709551615) (hy : 128 ≤ y) : k ≤ 8 := by
  rcases Nat.lt_or_ge k 9 with h1 | h1
  · omega
  · have h2 : (128 : Nat) ^ 9 ≤ 128 ^ k := Nat.pow_le_pow_right (by decide) h1
    have h3 : 128 * 128 ^ 9 ≤ y * 128 ^ k := Nat.mul_le_mul hy h2
    have h4 : (128 : Nat) * 128 ^ 9 = 1180591620717411303424 := by decide
    omega
theorem pow10s (y k : Nat) (h : y * 128 ^ k ≤ 18446744073709551615) : y / 128 * 128 ^ (k + 1) ≤ 18446744073709551615 := by
  have h1 : y / 128 * 128 ≤ y := Nat.div_mul_le_self y 128
  have h2 : y / 128 * 128 * 128 ^ k ≤ y * 128 ^ k := Nat.mul_le_mul_right _ h1
  rw [Nat.pow_succ, Nat.mul_comm (128 ^ k), ← Nat.mul_assoc]
  omega
theorem cut10 (a : Addr) (k : Nat) (hk : k ≤ 9) (w : World) : (Instr.sliceAt 138 (.pointer (some a)) none (some (.int .i64 ((k : Int) + 1))) none).run Tryd.prog w = .ok (.slice (some a) (k + 1) 10) w := by
  rcases (show k = 0 ∨ k = 1 ∨ k = 2 ∨ k = 3 ∨ k = 4 ∨ k = 5 ∨ k = 6 ∨ k = 7 ∨ k = 8 ∨ k = 9 by omega) with rfl | rfl | rfl | rfl | rfl | rfl | rfl | rfl | rfl | rfl
  all_goals kernel_rfl

/-- Bytes, and noughts up to n behind them. -/
def padN (n : Nat) (xs : List UInt8) : List UInt8 := xs ++ List.replicate (n - xs.length) 0
theorem padN_len (n : Nat) (xs : List UInt8) (h : xs.length ≤ n) : (padN n xs).length = n := by simp [padN]; omega
theorem padN_take (n : Nat) (xs : List UInt8) : (padN n xs).take xs.length = xs := by simp [padN]
theorem padN_set (n : Nat) (xs : List UInt8) (x : UInt8) (h : xs.length < n) : ((padN n xs).map u8c).toArray.setIfInBounds xs.length (u8c x) = ((padN n (xs ++ [x])).map u8c).toArray := by
  apply Array.ext'
  rw [Array.toList_setIfInBounds]
  simp only [padN, List.map_append, List.length_append, List.length_singleton]
  rw [List.set_append_right _ _ (by simp)]
  obtain ⟨m, hm⟩ : ∃ m, n - xs.length = m + 1 := ⟨n - xs.length - 1, by omega⟩
  rw [hm, show n - (xs.length + 1) = m by omega]
  simp [List.replicate_succ]
theorem padN_at (n : Nat) (xs : List UInt8) (k : Nat) (hk : xs.length = k) (h : k < n) : ((padN n xs).map u8c).toArray[k]? = some (.int .u8 0) := by
  subst hk
  rw [List.getElem?_toArray, padN, List.map_append, List.getElem?_append_right (by simp)]
  obtain ⟨m, hm⟩ : ∃ m, n - xs.length = m + 1 := ⟨n - xs.length - 1, by omega⟩
  rw [hm]
  simp [u8c, List.replicate_succ]
theorem Rd_take {w : World} {b : Nat} {xs : List UInt8} {t : TypeId} (hB : Blk w b (xs.map u8c).toArray t) (c : Nat) (hc : xs.length = c) (hm : c ≤ maxLen) (ys : List UInt8) (n : Nat) (hn : ys.length = n) (hy : xs.take n = ys) : Rd w (.slice (some ⟨b, 0, none⟩) n c) ys := by
  subst hn
  have hle : ys.length ≤ c := by rw [← hy, List.length_take]; omega
  refine ⟨some ⟨b, 0, none⟩, c, rfl, hle, hm, .inr ⟨b, 0, rfl, fun i hi => ?_⟩⟩
  rw [Nat.zero_add, hB.cell]
  have : xs[i]? = some ys[i] := by
    rw [← List.getElem?_take_of_lt hi, hy, List.getElem?_eq_getElem hi]
  simp [this]

theorem EncSt.below {w w' : World} {X : Nat → Prop} {z : Nat} {xs : List UInt8} (h : EncSt w X z xs) (hb : Below w.heap.size w w') : EncSt w' X z xs :=
  h.grown (row := none) (grownBy_below hb) (by simp) (fun b e => by cases e)
theorem EncSt.alloc {w : World} {X : Nat → Prop} {z : Nat} {xs : List UInt8} (h : EncSt w X z xs) (o : Obj) : EncSt (w.alloc o) X z xs := h.below ((Below.refl _ _).alloc (Nat.le_refl _) _)
theorem EncSt.zlt {w : World} {X : Nat → Prop} {z : Nat} {xs : List UInt8} (h : EncSt w X z xs) : z < w.heap.size := h.lt z h.mem

theorem elen_enc (w : World) (X : Nat → Prop) (z : Nat) (xs : List UInt8) (h : EncSt w X z xs) : Calls Tryd.prog 41 #[.pointer (some ⟨z, 0, none⟩)] w fun e w' => e = .returned (.int .i64 (xs.length : Int)) ∧ w' = w := by
  obtain ⟨m, l, p, pre, part, tl, h1, h2, h3, h4, h5, h6⟩ := h
  have c257 := h6.cell 257
  rw [enc_257 _ _ _ h4] at c257
  clear h6 h2 h1 h5 h3 m l
  go_enter Tryd.func41, Tryd.ntmps41
  go_wp2
  go_ret
  exact ⟨rfl, rfl⟩

theorem raw_own {w : World} {X : Nat → Prop} {z : Nat} {xs ys : List UInt8} {o : Obj} {e : Ending} {w' : World} (h : RawE (w.alloc o) X z (xs ++ ys) e w') : RawE w X z (xs ++ ys) e w' := ⟨h.1, h.2.1, grownBy_trans (World.grownBy_alloc _ _ _) h.2.2⟩

theorem or128 (y : Nat) : bits .or .u8 ((y : Int) % 256) 128 = ((y % 128 + 128 : Nat) : Int) := by
  have h : ∀ q, q < 256 → q ||| 128 = q % 128 + 128 := by decide +kernel
  rw [show ((y : Int) % 256) = ((y % 256 : Nat) : Int) by omega, show (128 : Int) = ((128 : Nat) : Int) from rfl, u8_or_nat _ _ (by omega) (by omega), h _ (by omega)]
  omega
theorem ofN (y : Nat) : ((UInt8.ofNat (y % 128 + 128)).toNat : Int) = (y : Int) % 128 + 128 := by
  simp
  omega
theorem wrap8 (y : Nat) : IntKind.u8.wrap (y : Int) = ((UInt8.ofNat y).toNat : Int) := by
  rw [IntKind.wrap_u8]
  simp

set_option maxRecDepth 20000 in
set_option maxHeartbeats 1600000 in
theorem evar_enc (w : World) (X : Nat → Prop) (z : Nat) (xs : List UInt8) (v : Nat) (hv : v ≤ 18446744073709551615) (h : EncSt w X z xs) (hlen : xs.length ≤ 2305843009213693952) :
    Calls Tryd.prog 78 #[.pointer (some ⟨z, 0, none⟩), .int .u64 v] w (RawE w X z (xs ++ varB v)) := by
  have HE := hide (fun arr => h.alloc (.cells arr 138))
  have hz := h.zlt
  clear h
  go_enter Tryd.func78, Tryd.ntmps78
  go_wp2
  go_loopw [1, 5] (fun x n wr => ∃ (y k : Nat) (bs : List UInt8), x = .int .u64 y ∧ n = .int .i64 k ∧ k ≤ 9 ∧ y * 128 ^ k ≤ 18446744073709551615 ∧ bs.length = k ∧ varB v = bs ++ varGo (9 - k) y ∧ wr = w.alloc (.cells ((padN 10 bs).map u8c).toArray 138)) (fun x _ _ => (intOf x).toNat)
  case atStart => exact ⟨v, 0, [], rfl, rfl, by omega, by omega, rfl, rfl, rfl⟩
  case round =>
    obtain ⟨y, k, bs, rfl, rfl, hk, hb, hbl, hvb, rfl⟩ := hrel
    have HB := hide hb
    have HVB := hide hvb
    have HSET := hide (fun x => padN_set 10 bs x (by omega))
    have hsz : ((padN 10 bs).map u8c).toArray.size = 10 := by simp [padN_len 10 bs (by omega)]
    have hq : ((padN 10 bs).map u8c).toArray[k]? = some (.int .u8 0) := padN_at 10 bs k hbl (by omega)
    obtain ⟨arr, harr⟩ : ∃ arr, arr = ((padN 10 bs).map u8c).toArray := ⟨_, rfl⟩
    rw [← harr] at HSET hsz hq ⊢
    have HARR := hide harr
    have HBL := hide hbl
    clear hb hvb harr
    by_cases hlt : 128 ≤ y
    · have hk8 := pow10b y k HB.out hlt
      have hyi : (128 : Int) ≤ (y : Int) := by omega
      have hor := or128 y
      go_wp2
      go_roundw
      case rel =>
        refine ⟨y / 128, k + 1, bs ++ [UInt8.ofNat (y % 128 + 128)], by go_num, by go_num, by omega, pow10s y k HB.out, by simp [HBL.out], ?_, ?_⟩
        · rw [HVB.out, show 9 - k = (9 - (k + 1)) + 1 by omega, varGo, if_neg (by omega), List.append_assoc]; rfl
        · rw [← HSET.out, HBL.out, u8c, ofN]
      case measure => simp [intOf]; omega
    · have hyi : (y : Int) < 128 := by omega
      have hk10 : (k : Int) < 10 := by omega
      have hsl := fun a => cut10 a k hk
      have hw8 := wrap8 y
      have HSY := hide (HSET.out (UInt8.ofNat y))
      have HV9 : Hid (varB v = bs ++ [UInt8.ofNat y]) := by
        refine hide ?_
        rw [HVB.out]
        congr 1
        cases h9 : 9 - k with
        | zero => rfl
        | succ m => rw [varGo, if_pos (by omega)]
      go_wp2_with fail
      have ha : arr.setIfInBounds k (.int .u8 ((y : Int) % 256)) = ((padN 10 (bs ++ [UInt8.ofNat y])).map u8c).toArray := by
        rw [← HSY.out, HBL.out, u8c]
        congr 3
      rw [ha]
      have hl1 : (bs ++ [UInt8.ofNat y]).length = k + 1 := by simp [HBL.out]
      have hrd := Rd_take (Blk.made w ((padN 10 (bs ++ [UInt8.ofNat y])).map u8c).toArray 138) 10 (padN_len 10 _ (by omega)) (by decide) (bs ++ [UInt8.ofNat y]) (k + 1) hl1 (by rw [← hl1]; exact padN_take _ _)
      refine (raw_enc _ X z xs (bs ++ [UInt8.ofNat y]) _ (HE.out _) hrd (fun b o l c e => by cases e; omega) (by omega)).mono ?_
      clear hrd
      rintro e w2 ⟨rfl, h1, h2⟩
      have H1 := hide h1
      have H2 := hide h2
      clear h1 h2
      go_wp2
      go_returns
      exact ⟨rfl, by rw [HV9.out]; exact H1.out, grownBy_trans (World.grownBy_alloc _ _ _) H2.out⟩

set_option maxRecDepth 20000 in
set_option maxHeartbeats 1600000 in
theorem ekey_enc (w : World) (X : Nat → Prop) (z : Nat) (xs kb : List UInt8) (hk : kb.length = 32) (h : EncSt w X z xs) (hlen : xs.length ≤ 2305843009213693952) :
    Calls Tryd.prog 79 #[.pointer (some ⟨z, 0, none⟩), .agg (kb.map u8c).toArray] w (RawE w X z (xs ++ kb)) := by
  have hz := h.zlt
  have HE := hide (h.alloc (.cells (kb.map u8c).toArray 27))
  have hrd := Rd_take (Blk.made w (kb.map u8c).toArray 27) 32 hk (by decide) kb 32 hk (by rw [← hk]; exact List.take_length)
  have HR := hide (raw_enc _ X z xs kb _ HE.out hrd (fun b o l c e => by cases e; omega) (by omega))
  clear hrd h
  obtain ⟨arr, harr⟩ : ∃ arr, arr = (kb.map u8c).toArray := ⟨_, rfl⟩
  have hsz : arr.size = 32 := by rw [harr]; simp [hk]
  rw [← harr] at HE HR ⊢
  clear harr
  go_enter Tryd.func79, Tryd.ntmps79
  go_wp2_with fail
  refine (HR.out).mono ?_
  rintro e w2 ⟨rfl, h1, h2⟩
  have H1 := hide h1
  have H2 := hide h2
  clear h1 h2
  go_wp2
  go_returns
  exact ⟨rfl, H1.out, grownBy_trans (World.grownBy_alloc _ _ _) H2.out⟩

theorem bytes_rd (w : World) (tb : List UInt8) (cap : Nat) (h1 : tb.length ≤ cap) (h2 : cap ≤ maxLen) : Rd (Lib.bytesWorld w 5 ⟨tb.toArray⟩) (.slice (some ⟨w.heap.size, 0, none⟩) tb.length cap) tb := by
  refine ⟨some ⟨w.heap.size, 0, none⟩, cap, rfl, h1, h2, .inr ⟨w.heap.size, 0, rfl, fun i hi => ?_⟩⟩
  rw [Nat.zero_add, Lib.bytesWorld_cell w _ _ i (by simpa [ByteArray.size] using hi)]
  simp [u8c, List.getD, List.getElem?_eq_getElem hi]
theorem bytesW_below (w : World) (e : TypeId) (s : ByteArray) : Below w.heap.size w (Lib.bytesWorld w e s) :=
  ⟨rfl, rfl, rfl, by rw [Lib.bytesWorld_size]; omega, fun k hk => Lib.bytesWorld_at_old w e s k hk⟩
set_option maxRecDepth 20000 in
set_option maxHeartbeats 1600000 in
theorem etext_enc (w : World) (X : Nat → Prop) (z : Nat) (xs tb : List UInt8) (h : EncSt w X z xs) (hlen : xs.length + tb.length ≤ 2251799813685248) :
    Calls Tryd.prog 80 #[.pointer (some ⟨z, 0, none⟩), .string ⟨tb.toArray⟩] w (RawE w X z (xs ++ varB tb.length ++ tb)) := by
  have HV := hide (evar_enc w X z xs tb.length (by omega) h (by omega))
  have hl : (⟨tb.toArray⟩ : ByteArray).size = tb.length := by simp [ByteArray.size]
  have hvl := varB_len tb.length
  have HBR := hide (fun W cap h1 h2 => bytes_rd W tb cap h1 h2)
  obtain ⟨s, hs⟩ : ∃ s : ByteArray, s = ⟨tb.toArray⟩ := ⟨_, rfl⟩
  rw [← hs] at hl HBR ⊢
  clear h hs
  have hcv := fun W => Lib.run_convert_string_bytes (P := Tryd.prog) W 9 23 5 s Tryd.underlying9 Tryd.underlying23 Tryd.underlying5
  go_enter Tryd.func80, Tryd.ntmps80
  go_wp2_with fail
  refine (HV.out).mono ?_
  rintro e w1 ⟨rfl, h1, h2⟩
  have H1 := hide h1
  have H2 := hide h2
  clear h1 h2 HV
  go_wp2_with fail
  have hxl : (xs ++ varB tb.length).length ≤ xs.length + 10 := by simp; omega
  refine (raw_enc _ X z (xs ++ varB tb.length) tb _ (H1.out.below (bytesW_below _ _ _)) (HBR.out _ _ (grownCap_ge _ _ _ _) (grownCap_le_maxLen _ _ _ _ (by unfold maxLen; omega))) (fun b o l c e => by cases e; exact Nat.ne_of_gt H1.out.zlt) (by omega)).mono ?_
  rintro e w2 ⟨rfl, h1, h2⟩
  have H3 := hide h1
  have H4 := hide h2
  clear h1 h2
  go_wp2
  go_returns
  exact ⟨rfl, H3.out, grownBy_trans H2.out (grownBy_trans (grownBy_below (bytesW_below _ _ _)) H4.out)⟩
end Go.Proofs.YtjcfndiceinkjabDoor
