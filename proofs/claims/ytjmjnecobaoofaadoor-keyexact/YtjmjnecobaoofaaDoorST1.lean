/- Tail, the program's and the document's. -/
import Derived.Test.YtjmjnecobaoofaaDoorSB
import Derived.Test.YtjmjnecobaoofaaDoorSP1
namespace Go.Proofs.YtjmjnecobaoofaaDoor
set_option linter.unusedVariables false
set_option linter.unusedSimpArgs false
open Go.RowKit

def TailC (w : World) (n : Nat) (e : Ending) (w' : World) : Prop := ∃ v, e = .returned v ∧ OwnsB w' w.heap.size v (tailL n) ∧ Below w.heap.size w w'

theorem make_u8u (n : Nat) (h : n ≤ 281474976710656) (w : World) : (Instr.makeSlice 22 (.int .u64 (n : Int)) (.int .u64 (n : Int))).run Tryd.prog w = .ok (.slice (some ⟨w.heap.size, 0, none⟩) n n) (w.alloc (.cells (madeCells #[.int .u8 0] n) 5)) :=
  run_make_row' (P := Tryd.prog) 22 5 (.int .u8 0) 1 Tryd.underlying22 infoU8 rfl .u64 .u64 n (by omega) (by omega) w

/-- The tail's byte j of its last eight. -/
def tb (n j : Nat) : UInt8 := UInt8.ofNat (8 * n % 18446744073709551616 / 256 ^ (7 - j) % 256)
/-- The tail while it is written, k of its last bytes laid. -/
def tailK (n z k : Nat) : List UInt8 := 128 :: (List.replicate z 0 ++ (List.range 8).map (fun j => if 8 - k ≤ j then tb n j else 0))
theorem tailK_all (n : Nat) : tailK n ((119 - n % 64) % 64) 8 = tailL n := by simp [tailK, tailL, tb]
theorem tailK_len (n z k : Nat) : (tailK n z k).length = 9 + z := by simp [tailK]; omega
theorem tailK_set (n z k : Nat) (hk : k < 8) : (tailK n z k).set (8 + z - k) (tb n (7 - k)) = tailK n z (k + 1) := by
  unfold tailK
  rw [show 8 + z - k = (z + (7 - k)) + 1 by omega, List.set_cons_succ, List.set_append_right _ _ (by simp)]
  congr 2
  rw [List.length_replicate, Nat.add_sub_cancel_left]
  have : k = 0 ∨ k = 1 ∨ k = 2 ∨ k = 3 ∨ k = 4 ∨ k = 5 ∨ k = 6 ∨ k = 7 := by omega
  rcases this with h | h | h | h | h | h | h | h <;> subst h <;> rfl
theorem tailK_zero (n z : Nat) : (tailK n z 0).map u8c = Value.int .u8 128 :: List.replicate (8 + z) (.int .u8 0) := by
  rw [Nat.add_comm, ← List.replicate_append_replicate]
  simp only [tailK, List.map_cons, List.map_append, List.map_replicate]
  rfl
set_option maxRecDepth 20000 in
set_option maxHeartbeats 1600000 in
theorem stail (w : World) (n : Nat) (hn : n < 18446744073709551616) : Calls Tryd.prog 37 #[.int .u64 n] w (TailC w n) := by
  obtain ⟨z, hz⟩ : ∃ z : Nat, z = (119 - n % 64) % 64 := ⟨_, rfl⟩
  obtain ⟨m, hm⟩ : ∃ m : Nat, m = 9 + z := ⟨_, rfl⟩
  have hz64 : z < 64 := by omega
  have e1 : (IntKind.u64.wrap (-IntKind.u64.wrap (IntKind.u64.wrap (n + 1) + 8))).tmod 64 = z := by
    rw [IntKind.wrap_u64, IntKind.wrap_u64, IntKind.wrap_u64, Int.tmod_eq_emod_of_nonneg (by omega)]; omega
  have e2 : IntKind.u64.wrap (1 + z) = 1 + z := by rw [IntKind.wrap_u64]; omega
  have e3 : IntKind.u64.wrap (1 + z + 8) = (m : Int) := by rw [IntKind.wrap_u64]; omega
  have hmk := make_u8u m (by omega) w
  have HZ := hide hz
  have HM := hide hm
  have hm9 : 9 ≤ m := by omega
  have hm72 : m < 73 := by omega
  obtain ⟨b, hb⟩ : ∃ b : Nat, b = 8 * n % 18446744073709551616 := ⟨_, rfl⟩
  have e4 : IntKind.u64.wrap (8 * n) = (b : Int) := by rw [IntKind.wrap_u64]; omega
  have HB := hide hb
  have hB0 := Blk.made w (madeCells #[.int .u8 0] m) 5
  have c0 : (w.alloc (.cells (madeCells #[.int .u8 0] m) 5)).cell? ⟨w.heap.size, 0, none⟩ = some (.int .u8 0) := by
    rw [hB0.cell, ← Array.getElem?_toList, toList_madeCells_one, List.getElem?_replicate, if_pos (by omega)]
  have f0 := hB0.frozen 0
  clear hz hm hb hB0
  go_enter Tryd.func37, Tryd.ntmps37
  go_wp2
  go_loopw [20] (fun i wr => ∃ k : Nat, i = .int .i64 k ∧ k ≤ 8 ∧ Blk wr w.heap.size ((tailK n z k).map u8c).toArray 5 ∧ Below w.heap.size w wr) (fun i _ => 8 - (intOf i).toNat)
  case atStart =>
    refine ⟨0, rfl, by omega, ?_, (Below.refl _ _).alloc (Nat.le_refl _) _⟩
    rw [tailK_zero]
    rw [show (madeCells #[Value.int .u8 0] m).setIfInBounds 0 (.int .u8 128) = (Value.int .u8 128 :: List.replicate (8 + z) (.int .u8 0)).toArray by
      apply Array.ext'
      rw [Array.toList_setIfInBounds, toList_madeCells_one, HM.out, show 9 + z = (8 + z) + 1 by omega, List.replicate_succ, List.set_cons_zero]]
    exact Blk.made _ _ _
  case round =>
    obtain ⟨k, rfl, hk, hblk, hbel⟩ := hrel
    by_cases hlt : k < 8
    · obtain ⟨j, hj⟩ : ∃ j : Nat, j = 8 + z - k := ⟨_, rfl⟩
      have hm := HM.out
      have g1 : (m : Int) - 1 - k = j := by omega
      have hjm : j < m := by omega
      have hlen := tailK_len n z k
      obtain ⟨q, gc⟩ : ∃ q, wr.cell? ⟨w.heap.size, j, none⟩ = some (.int .u8 q) := by
        refine ⟨((tailK n z k)[j]'(by omega)).toNat, ?_⟩
        rw [hblk.cell, List.getElem?_toArray, List.getElem?_map, List.getElem?_eq_getElem (by omega)]; rfl
      have gf := hblk.frozen j
      have HJ := hide hj
      have HBK := hide hblk
      clear hj hm hblk hlen
      go_wp2
      refine ⟨⟨k + 1, by go_num, by omega, ?_, hbel.setCell (Nat.le_refl _) _⟩, by simp [intOf]; omega⟩
      have h := HBK.out.set j (.int .u8 ((b : Int) / 2 ^ (8 * k) % 256))
      rw [← tailK_set n z k hlt, ← HJ.out, List.map_set]
      have e : u8c (tb n (7 - k)) = .int .u8 ((b : Int) / 2 ^ (8 * k) % 256) := by
        unfold u8c tb
        rw [UInt8.toNat_ofNat', ← HB.out, show 7 - (7 - k) = k by omega, Nat.mod_mod, show (2 : Int) ^ (8 * k) = ((256 ^ k : Nat) : Int) by rw [Int.pow_mul]; simp]
        rfl
      rw [e]
      simpa using h
    · obtain rfl : k = 8 := by omega
      have HBK := hide hblk
      clear hblk
      go_wp2
      go_ret
      refine ⟨_, rfl, ?_, hbel⟩
      have hl := tailK_len n z 8
      rw [HZ.out, tailK_all] at hl
      have h := HBK.out
      rw [HZ.out, tailK_all] at h
      have e : m = (tailL n).length := by rw [hl, ← HZ.out]; exact HM.out
      rw [e]
      exact ⟨by simp, .inr ⟨w.heap.size, _, _, rfl, Nat.le_refl _, h, Nat.le_refl _, by unfold maxLen; omega, by simp, List.take_of_length_le (by simp)⟩⟩
end Go.Proofs.YtjmjnecobaoofaaDoor
