/- Put on an Enc, of a kind, a mode and an int64. -/
import Derived.Test.YtjcfndiceinkjabDoorOEm
namespace Go.Proofs.YtjcfndiceinkjabDoor
set_option linter.unusedVariables false
set_option linter.unusedSimpArgs false
open Go.RowKit

/-- So many bytes of a number, the lowest first. -/
def fixB : Nat → Nat → List UInt8
  | 0, _ => []
  | n + 1, v => UInt8.ofNat v :: fixB n (v / 256)
theorem fixB_len : ∀ (n v : Nat), (fixB n v).length = n
  | 0, _ => rfl
  | n + 1, v => by rw [fixB, List.length_cons, fixB_len n]
theorem fixB_snoc : ∀ (n v : Nat), fixB (n + 1) v = fixB n v ++ [UInt8.ofNat (v / 256 ^ n)]
  | 0, v => by simp [fixB]
  | n + 1, v => by
    rw [fixB, fixB_snoc n, fixB]
    simp [Nat.div_div_eq_div_mul, Nat.pow_succ, Nat.mul_comm]
theorem cut8 (a : Addr) (k : Nat) (hk : k ≤ 8) (w : World) : (Instr.sliceAt 137 (.pointer (some a)) none (some (.int .i64 (k : Int))) none).run Tryd.prog w = .ok (.slice (some a) k 8) w := by
  rcases (show k = 0 ∨ k = 1 ∨ k = 2 ∨ k = 3 ∨ k = 4 ∨ k = 5 ∨ k = 6 ∨ k = 7 ∨ k = 8 by omega) with rfl | rfl | rfl | rfl | rfl | rfl | rfl | rfl | rfl
  all_goals kernel_rfl
theorem shr8 (u k : Nat) : (u : Int) / 2 ^ (8 * k) % 256 = ((UInt8.ofNat (u / 256 ^ k)).toNat : Int) := by
  have e : (2 : Int) ^ (8 * k) = ((256 ^ k : Nat) : Int) := by rw [Int.pow_mul]; simp
  rw [e, ← Int.natCast_ediv]
  simp

set_option maxHeartbeats 4000000 in
theorem width_kind (w : World) : Calls Tryd.prog 44 #[] w fun e w' => e = .returned (.int .i64 1) ∧ w' = w := by
  go_enter Tryd.func44, Tryd.ntmps44
  go_wp2
  go_rounds 9
  go_ret
  exact ⟨rfl, rfl⟩

set_option maxRecDepth 20000 in
set_option maxHeartbeats 1600000 in
theorem put_kind (w : World) (X : Nat → Prop) (z : Nat) (xs : List UInt8) (u : Nat) (hu : u ≤ 255) (h : EncSt w X z xs) (hlen : xs.length ≤ 2305843009213693952) :
    Calls Tryd.prog 76 #[.pointer (some ⟨z, 0, none⟩), .int .u8 (u : Int)] w (RawE w X z (xs ++ fixB 1 u)) := by
  have HE := hide (fun arr => h.alloc (.cells arr 137))
  have hz := h.zlt
  clear h
  go_enter Tryd.func76, Tryd.ntmps76
  go_wp2_with fail
  refine (width_kind _).mono ?_
  rintro e w' ⟨rfl, rfl⟩
  have hsz0 : True := trivial
  go_wp2_with fail
  go_loopw [12] (fun i wr => ∃ (k : Nat), i = .int .i64 k ∧ k ≤ 1 ∧ wr = w.alloc (.cells ((padN 8 (fixB k u)).map u8c).toArray 137)) (fun i _ => 1 - (intOf i).toNat)
  case atStart => exact ⟨0, rfl, by omega, rfl⟩
  case round =>
    obtain ⟨k, rfl, hk, rfl⟩ := hrel
    have hbl := fixB_len k u
    have HSET := hide (padN_set 8 (fixB k u) (UInt8.ofNat (u / 256 ^ k)))
    have hsz : ((padN 8 (fixB k u)).map u8c).toArray.size = 8 := by simp [padN_len 8 (fixB k u) (by omega)]
    by_cases hlt : k < 1
    · have hq : ((padN 8 (fixB k u)).map u8c).toArray[k]? = some (.int .u8 0) := padN_at 8 (fixB k u) k hbl (by omega)
      obtain ⟨arr, harr⟩ : ∃ arr, arr = ((padN 8 (fixB k u)).map u8c).toArray := ⟨_, rfl⟩
      rw [← harr] at HSET hsz hq ⊢
      have HARR := hide harr
      have HBL := hide hbl
      clear harr hbl
      have hk8 : (k : Int) < 8 := by omega
      go_wp2
      go_roundw
      case rel =>
        refine ⟨k + 1, by go_num, by omega, ?_⟩
        rw [fixB_snoc, ← HSET.out (by have := HBL.out; omega), HBL.out, u8c, shr8]
      case measure => simp [intOf]; omega
    · obtain rfl : k = 1 := by omega
      have hsl := fun a => cut8 a 1 (by omega)
      have hrd := Rd_take (Blk.made w ((padN 8 (fixB 1 u)).map u8c).toArray 137) 8 (padN_len 8 _ (by omega)) (by decide) (fixB 1 u) 1 hbl (by have := padN_take 8 (fixB 1 u); rwa [hbl] at this)
      have HR := hide (raw_enc _ X z xs (fixB 1 u) _ (HE.out _) hrd (fun b o l c e => by cases e; omega) (by omega))
      generalize ((padN 8 (fixB 1 u)).map u8c).toArray = arr at HR hsz ⊢
      clear hrd HSET hbl
      go_wp2_with fail
      refine (HR.out).mono ?_
      rintro e w2 ⟨rfl, h1, h2⟩
      have H1 := hide h1
      have H2 := hide h2
      clear h1 h2
      go_wp2
      go_returns
      exact ⟨rfl, H1.out, grownBy_trans (World.grownBy_alloc _ _ _) H2.out⟩

set_option maxHeartbeats 4000000 in
theorem width_mode (w : World) : Calls Tryd.prog 101 #[] w fun e w' => e = .returned (.int .i64 1) ∧ w' = w := by
  go_enter Tryd.func101, Tryd.ntmps101
  go_wp2
  go_rounds 9
  go_ret
  exact ⟨rfl, rfl⟩

set_option maxRecDepth 20000 in
set_option maxHeartbeats 1600000 in
theorem put_mode (w : World) (X : Nat → Prop) (z : Nat) (xs : List UInt8) (u : Nat) (hu : u ≤ 255) (h : EncSt w X z xs) (hlen : xs.length ≤ 2305843009213693952) :
    Calls Tryd.prog 81 #[.pointer (some ⟨z, 0, none⟩), .int .u8 (u : Int)] w (RawE w X z (xs ++ fixB 1 u)) := by
  have HE := hide (fun arr => h.alloc (.cells arr 137))
  have hz := h.zlt
  clear h
  go_enter Tryd.func81, Tryd.ntmps81
  go_wp2_with fail
  refine (width_mode _).mono ?_
  rintro e w' ⟨rfl, rfl⟩
  have hsz0 : True := trivial
  go_wp2_with fail
  go_loopw [12] (fun i wr => ∃ (k : Nat), i = .int .i64 k ∧ k ≤ 1 ∧ wr = w.alloc (.cells ((padN 8 (fixB k u)).map u8c).toArray 137)) (fun i _ => 1 - (intOf i).toNat)
  case atStart => exact ⟨0, rfl, by omega, rfl⟩
  case round =>
    obtain ⟨k, rfl, hk, rfl⟩ := hrel
    have hbl := fixB_len k u
    have HSET := hide (padN_set 8 (fixB k u) (UInt8.ofNat (u / 256 ^ k)))
    have hsz : ((padN 8 (fixB k u)).map u8c).toArray.size = 8 := by simp [padN_len 8 (fixB k u) (by omega)]
    by_cases hlt : k < 1
    · have hq : ((padN 8 (fixB k u)).map u8c).toArray[k]? = some (.int .u8 0) := padN_at 8 (fixB k u) k hbl (by omega)
      obtain ⟨arr, harr⟩ : ∃ arr, arr = ((padN 8 (fixB k u)).map u8c).toArray := ⟨_, rfl⟩
      rw [← harr] at HSET hsz hq ⊢
      have HARR := hide harr
      have HBL := hide hbl
      clear harr hbl
      have hk8 : (k : Int) < 8 := by omega
      go_wp2
      go_roundw
      case rel =>
        refine ⟨k + 1, by go_num, by omega, ?_⟩
        rw [fixB_snoc, ← HSET.out (by have := HBL.out; omega), HBL.out, u8c, shr8]
      case measure => simp [intOf]; omega
    · obtain rfl : k = 1 := by omega
      have hsl := fun a => cut8 a 1 (by omega)
      have hrd := Rd_take (Blk.made w ((padN 8 (fixB 1 u)).map u8c).toArray 137) 8 (padN_len 8 _ (by omega)) (by decide) (fixB 1 u) 1 hbl (by have := padN_take 8 (fixB 1 u); rwa [hbl] at this)
      have HR := hide (raw_enc _ X z xs (fixB 1 u) _ (HE.out _) hrd (fun b o l c e => by cases e; omega) (by omega))
      generalize ((padN 8 (fixB 1 u)).map u8c).toArray = arr at HR hsz ⊢
      clear hrd HSET hbl
      go_wp2_with fail
      refine (HR.out).mono ?_
      rintro e w2 ⟨rfl, h1, h2⟩
      have H1 := hide h1
      have H2 := hide h2
      clear h1 h2
      go_wp2
      go_returns
      exact ⟨rfl, H1.out, grownBy_trans (World.grownBy_alloc _ _ _) H2.out⟩

set_option maxHeartbeats 4000000 in
theorem width_int64 (w : World) : Calls Tryd.prog 87 #[] w fun e w' => e = .returned (.int .i64 8) ∧ w' = w := by
  have a1 : wrap64 9223372036854775808 = -9223372036854775808 := by decide +kernel
  have a2 : wrap64 (-18446744073709551616) = 0 := by decide +kernel
  go_enter Tryd.func87, Tryd.ntmps87
  go_wp2
  go_rounds 65
  go_ret
  exact ⟨rfl, rfl⟩

set_option maxRecDepth 20000 in
set_option maxHeartbeats 1600000 in
theorem put_int64 (w : World) (X : Nat → Prop) (z : Nat) (xs : List UInt8) (v : Int) (u : Nat) (hu : IntKind.u64.wrap v = (u : Int)) (hv : (Lit.int .i64 v).wf = true) (h : EncSt w X z xs) (hlen : xs.length ≤ 2305843009213693952) :
    Calls Tryd.prog 82 #[.pointer (some ⟨z, 0, none⟩), .int .i64 v] w (RawE w X z (xs ++ fixB 8 u)) := by
  have HE := hide (fun arr => h.alloc (.cells arr 137))
  have hz := h.zlt
  clear h
  go_enter Tryd.func82, Tryd.ntmps82
  go_wp2_with fail
  refine (width_int64 _).mono ?_
  rintro e w' ⟨rfl, rfl⟩
  have hsz0 : True := trivial
  go_wp2_with fail
  go_loopw [12] (fun i wr => ∃ (k : Nat), i = .int .i64 k ∧ k ≤ 8 ∧ wr = w.alloc (.cells ((padN 8 (fixB k u)).map u8c).toArray 137)) (fun i _ => 8 - (intOf i).toNat)
  case atStart => exact ⟨0, rfl, by omega, rfl⟩
  case round =>
    obtain ⟨k, rfl, hk, rfl⟩ := hrel
    have hbl := fixB_len k u
    have HSET := hide (padN_set 8 (fixB k u) (UInt8.ofNat (u / 256 ^ k)))
    have hsz : ((padN 8 (fixB k u)).map u8c).toArray.size = 8 := by simp [padN_len 8 (fixB k u) (by omega)]
    by_cases hlt : k < 8
    · have hq : ((padN 8 (fixB k u)).map u8c).toArray[k]? = some (.int .u8 0) := padN_at 8 (fixB k u) k hbl (by omega)
      obtain ⟨arr, harr⟩ : ∃ arr, arr = ((padN 8 (fixB k u)).map u8c).toArray := ⟨_, rfl⟩
      rw [← harr] at HSET hsz hq ⊢
      have HARR := hide harr
      have HBL := hide hbl
      clear harr hbl
      have hk8 : (k : Int) < 8 := by omega
      go_wp2
      go_roundw
      case rel =>
        refine ⟨k + 1, by go_num, by omega, ?_⟩
        rw [fixB_snoc, ← HSET.out (by have := HBL.out; omega), HBL.out, u8c, shr8]
      case measure => simp [intOf]; omega
    · obtain rfl : k = 8 := by omega
      have hsl := fun a => cut8 a 8 (by omega)
      have hrd := Rd_take (Blk.made w ((padN 8 (fixB 8 u)).map u8c).toArray 137) 8 (padN_len 8 _ (by omega)) (by decide) (fixB 8 u) 8 hbl (by have := padN_take 8 (fixB 8 u); rwa [hbl] at this)
      have HR := hide (raw_enc _ X z xs (fixB 8 u) _ (HE.out _) hrd (fun b o l c e => by cases e; omega) (by omega))
      generalize ((padN 8 (fixB 8 u)).map u8c).toArray = arr at HR hsz ⊢
      clear hrd HSET hbl
      go_wp2_with fail
      refine (HR.out).mono ?_
      rintro e w2 ⟨rfl, h1, h2⟩
      have H1 := hide h1
      have H2 := hide h2
      clear h1 h2
      go_wp2
      go_returns
      exact ⟨rfl, H1.out, grownBy_trans (World.grownBy_alloc _ _ _) H2.out⟩

end Go.Proofs.YtjcfndiceinkjabDoor
