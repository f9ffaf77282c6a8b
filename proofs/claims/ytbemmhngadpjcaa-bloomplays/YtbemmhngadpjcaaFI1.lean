/- A filter in memory; New. -/
import Derived.Test.YtbemmhngadpjcaaWE3
namespace Go.Proofs.Ytbemmhngadpjcaa
set_option linter.unusedVariables false
set_option linter.unusedSimpArgs false
open Go.RowKit

def u64c (n : Nat) : Value := .int .u64 (n : Int)
/-- A filter at block z: so many hashes, and its words in block g. -/
structure FilAt (w : World) (z g h : Nat) (ws : List Nat) : Prop where
  zb : Blk w z #[.int .i64 h, .slice (some ⟨g, 0, none⟩) ws.length ws.length] 84
  gb : Blk w g (ws.map u64c).toArray 80
  hh : 1 ≤ h ∧ h ≤ 16
  hn : 1 ≤ ws.length ∧ ws.length ≤ 16384
  ok : ∀ x ∈ ws, x < 18446744073709551616
theorem FilAt.below {w w' : World} {z g h : Nat} {ws : List Nat} (f : FilAt w z g h ws) (hb : Below w.heap.size w w') : FilAt w' z g h ws :=
  ⟨f.zb.below hb f.zb.lt, f.gb.below hb f.gb.lt, f.hh, f.hn, f.ok⟩
theorem FilAt.grown {w w' : World} {z g h : Nat} {ws : List Nat} {row : Option Nat} (f : FilAt w z g h ws) (hb : w.grownBy w' row) (h1 : some z ≠ row) (h2 : some g ≠ row) : FilAt w' z g h ws :=
  ⟨f.zb.grown hb h1, f.gb.grown hb h2, f.hh, f.hn, f.ok⟩
theorem FilAt.ne {w : World} {z g h : Nat} {ws : List Nat} (f : FilAt w z g h ws) : z ≠ g := fun e => by
  have h1 := f.zb
  have h2 := f.gb
  unfold Blk at h1 h2
  rw [e, h2] at h1
  have := Obj.cells.inj (Option.some.inj h1)
  exact absurd this.2.1 (by decide)
theorem none_nil (w : World) : Calls Try.prog 48 #[.pointer none] w fun e w' => e = .returned (.bool true) ∧ w' = w := by
  go_enter Try.func48, Try.ntmps48
  go_wp2
  go_ret
  exact ⟨rfl, rfl⟩
theorem none_some (w : World) (z g h : Nat) (ws : List Nat) (f : FilAt w z g h ws) : Calls Try.prog 48 #[.pointer (some ⟨z, 0, none⟩)] w fun e w' => e = .returned (.bool false) ∧ w' = w := by
  have c0 : w.cell? ⟨z, 0, none⟩ = some (.int .i64 h) := f.zb.cell 0
  have hh : ((h : Int) == 0) = false := by
    rw [beq_eq_false_iff_ne]
    have := f.hh
    omega
  clear f
  go_enter Try.func48, Try.ntmps48
  go_wp2
  go_ret
  exact ⟨rfl, rfl⟩
theorem infoU64 : (Try.prog.info? 80).map (fun i => (i.zero, i.size, i.bytes)) = some (some (.int .u64 0), 1, 8) := by kernel_rfl
theorem make_u64 (n : Nat) (h : n ≤ 16384) (w : World) : (Instr.makeSlice 82 (.int .i64 (n : Int)) (.int .i64 (n : Int))).run Try.prog w = .ok (.slice (some ⟨w.heap.size, 0, none⟩) n n) (w.alloc (.cells (madeCells #[.int .u64 0] n) 80)) :=
  run_make_row' (P := Try.prog) 82 80 (.int .u64 0) 8 Try.underlying82 infoU64 rfl .i64 .i64 n (by omega) (by omega) w
theorem madeZ64 (n : Nat) : madeCells #[Value.int .u64 0] n = ((List.replicate n 0).map u64c).toArray := by
  apply Array.ext'
  rw [toList_madeCells_one, List.map_replicate]
  rfl
def NewC (w : World) (h n : Nat) (e : Ending) (w' : World) : Prop := e = .returned (.tuple #[.pointer (some ⟨w.heap.size + 1, 0, none⟩), .int .i64 0]) ∧ FilAt w' (w.heap.size + 1) w.heap.size h (List.replicate n 0) ∧ Below w.heap.size w w' ∧ w'.heap.size = w.heap.size + 2
set_option maxRecDepth 20000 in
set_option maxHeartbeats 2000000 in
theorem new_in (w : World) (k n h : Nat) (hk : k = 64 * n) (hn : 1 ≤ n ∧ n ≤ 16384) (hh : 1 ≤ h ∧ h ≤ 16) : Calls Try.prog 20 #[.int .i64 k, .int .i64 h] w (NewC w h n) := by
  have hmk := make_u64 n hn.2
  have hmod : Int.tmod (k : Int) 64 = 0 := by
    have := Int.ofNat_tmod k 64
    rw [show k % 64 = 0 by omega] at this
    exact this.symm
  have hdiv : Int.tdiv (k : Int) 64 = (n : Int) := by
    have := Int.ofNat_tdiv k 64
    rw [show k / 64 = n by omega] at this
    exact this.symm
  have i1 : ¬ (k : Int) < 64 := by omega
  have i2 : ¬ (1048576 : Int) < k := by omega
  have i3 : ¬ (h : Int) < 1 := by omega
  have i4 : ¬ (16 : Int) < h := by omega
  go_enter Try.func20, Try.ntmps20
  go_wp2
  go_ret2
  refine ⟨rfl, ⟨?_, ?_, hh, by simpa using hn, ?_⟩, ((Below.refl _ _).alloc (Nat.le_refl _) _).alloc (by simp) _, by simp⟩
  · have := Blk.made (w.alloc (.cells (madeCells #[.int .u64 0] n) 80)) #[.int .i64 h, .slice (some ⟨w.heap.size, 0, none⟩) n n] 84
    rw [World.size_alloc] at this
    rw [List.length_replicate]
    exact this
  · rw [← madeZ64]
    exact (Blk.made w _ _).alloc _
  · intro x hx
    rw [List.eq_of_mem_replicate hx]
    omega
/-- May a filter have so many bits and hashes? -/
def NewOk (b h : Int) : Prop := 64 ≤ b ∧ b ≤ 1048576 ∧ b % 64 = 0 ∧ 1 ≤ h ∧ h ≤ 16
def NoC (w : World) (er : Int) (e : Ending) (w' : World) : Prop := e = .returned (.tuple #[.pointer none, .int .i64 er]) ∧ Below w.heap.size w w'
set_option maxRecDepth 20000 in
set_option maxHeartbeats 2000000 in
theorem new_out (w : World) (b h : Int) (hno : ¬ NewOk b h) : Calls Try.prog 20 #[.int .i64 b, .int .i64 h] w (NoC w 70) := by
  have hc : b < 64 ∨ (¬ b < 64 ∧ (1048576 : Int) < b) ∨ (¬ b < 64 ∧ ¬ (1048576 : Int) < b ∧ b % 64 ≠ 0) ∨ (¬ b < 64 ∧ ¬ (1048576 : Int) < b ∧ b % 64 = 0 ∧ h < 1) ∨ (¬ b < 64 ∧ ¬ (1048576 : Int) < b ∧ b % 64 = 0 ∧ ¬ h < 1 ∧ (16 : Int) < h) := by
    unfold NewOk at hno
    omega
  clear hno
  go_enter Try.func20, Try.ntmps20
  rcases hc with a1 | ⟨a1, a2⟩ | ⟨a1, a2, a3⟩ | ⟨a1, a2, a3, a4⟩ | ⟨a1, a2, a3, a4, a5⟩
  · go_wp2
    go_ret2
    exact ⟨rfl, Below.refl _ _⟩
  · go_wp2
    go_ret2
    exact ⟨rfl, Below.refl _ _⟩
  · obtain ⟨m, hm⟩ : ∃ m, Int.tmod b 64 = m := ⟨_, rfl⟩
    have hm0 : ¬ m = 0 := by
      rw [← hm, Int.tmod_eq_emod_of_nonneg (by omega)]
      exact a3
    clear a3
    go_wp2
    go_ret2
    exact ⟨rfl, Below.refl _ _⟩
  · have hm0 : Int.tmod b 64 = 0 := by rw [Int.tmod_eq_emod_of_nonneg (by omega)]; exact a3
    clear a3
    go_wp2
    go_ret2
    exact ⟨rfl, Below.refl _ _⟩
  · have hm0 : Int.tmod b 64 = 0 := by rw [Int.tmod_eq_emod_of_nonneg (by omega)]; exact a3
    clear a3
    go_wp2
    go_ret2
    exact ⟨rfl, Below.refl _ _⟩
theorem wrapu64_nat (n : Nat) (h : n < 18446744073709551616) : IntKind.u64.wrap (n : Int) = (n : Int) := by simp [IntKind.wrap, IntKind.bits, IntKind.signed]; omega
theorem pow_u64 (k : Nat) (h : k < 64) : (2 : Nat) ^ k < 18446744073709551616 := by
  have := Nat.pow_lt_pow_right (a := 2) (by omega) h
  exact this
theorem wrap_pow (k : Nat) (h : k < 64) : IntKind.u64.wrap ((2 : Int) ^ k) = ((2 ^ k : Nat) : Int) := by
  have e : (2 : Int) ^ k = ((2 ^ k : Nat) : Int) := by simp
  rw [e, wrapu64_nat _ (pow_u64 k h)]
/-- Where the bit of a number lies. -/
def plc (n L : Nat) : Nat := n % (64 * L)
set_option maxRecDepth 20000 in
set_option maxHeartbeats 2000000 in
theorem spot_any (w : World) (z g h : Nat) (ws : List Nat) (f : FilAt w z g h ws) (n : Nat) (hn : n < 18446744073709551616) : Calls Try.prog 55 #[.pointer (some ⟨z, 0, none⟩), .int .u64 n] w fun e w' => e = .returned (.tuple #[.int .i64 ((plc n ws.length / 64 : Nat) : Int), .int .u64 ((2 ^ (plc n ws.length % 64) : Nat) : Int)]) ∧ w' = w := by
  have c1 : w.cell? ⟨z, 1, none⟩ = some (.slice (some ⟨g, 0, none⟩) ws.length ws.length) := f.zb.cell 1
  obtain ⟨L, hL⟩ : ∃ L, L = ws.length := ⟨_, rfl⟩
  rw [← hL] at c1 ⊢
  have hl : 1 ≤ L ∧ L ≤ 16384 := by rw [hL]; exact f.hn
  clear f hL
  obtain ⟨q, hq⟩ : ∃ q, q = plc n L := ⟨_, rfl⟩
  have hm : Int.tmod (n : Int) (64 * (L : Int)) = (q : Int) := by
    have := Int.ofNat_tmod n (64 * L)
    rw [hq]
    unfold plc
    rw [this]
    simp
  rw [← hq]
  have hqb : q < 1048576 := by
    rw [hq]
    unfold plc
    have := Nat.mod_lt n (show 0 < 64 * L by omega)
    omega
  have h64 : ((64 * (L : Int) == 0)) = false := by rw [beq_eq_false_iff_ne]; omega
  clear hq
  have hd : Int.tdiv (q : Int) 64 = ((q / 64 : Nat) : Int) := (Int.ofNat_tdiv q 64).symm
  have hr : Int.tmod (q : Int) 64 = ((q % 64 : Nat) : Int) := (Int.ofNat_tmod q 64).symm
  go_enter Try.func55, Try.ntmps55
  go_wp2
  go_ret2
  refine ⟨?_, rfl⟩
  show Ending.returned (.tuple #[.int .i64 ((q : Int) / 64), .int .u64 (IntKind.u64.wrap (2 ^ (q % 64)))]) = _
  rw [wrap_pow _ (by omega)]
  rfl
/-- The two numbers of a key. -/
def keyA (kb : List UInt8) : Nat := leNat (kb.take 8)
def keyB (kb : List UInt8) : Nat := leNat ((kb.drop 8).take 8)
theorem cut16 (a : Addr) (w : World) : (Instr.sliceAt 36 (.pointer (some a)) none (some (.int .i64 16)) none).run Try.prog w = .ok (.slice (some a) 16 32) w := by kernel_rfl
theorem infoKey : (Try.prog.info? 36).map (·.size) = some 32 := by kernel_rfl
theorem rd16 {w : World} {b : Nat} {kb : List UInt8} {t : TypeId} (hB : Blk w b (kb.map u8c).toArray t) (hk : kb.length = 32) : Rd w (.slice (some ⟨b, 0, none⟩) 16 32) (kb.take 16) := by
  have h16 : (kb.take 16).length = 16 := by simp [hk]
  refine ⟨some ⟨b, 0, none⟩, 32, by rw [h16], by omega, by unfold maxLen; omega, .inr ⟨b, 0, rfl, fun i hi => ?_⟩⟩
  rw [Nat.zero_add, hB.cell]
  rw [h16] at hi
  simp [List.getElem?_eq_getElem (show i < kb.length by omega)]
theorem next1 (xs : List UInt8) (h : xs.length = 16) : mNext xs s0 (mPlace s0) 8 = (some (xs.take 8), ⟨8, 0, 0⟩) := by
  simp [mNext, s0, h]
theorem next2 (xs : List UInt8) (h : xs.length = 16) : mNext xs ⟨8, 0, 0⟩ (mPlace ⟨8, 0, 0⟩) 8 = (some ((xs.drop 8).take 8), ⟨16, 0, 0⟩) := by
  simp [mNext, h]
theorem keyA_lt (kb : List UInt8) : keyA kb < 18446744073709551616 := leNat_lt _ 8 (by simp; omega)
theorem keyB_lt (kb : List UInt8) : keyB kb < 18446744073709551616 := leNat_lt _ 8 (by simp; omega)
end Go.Proofs.Ytbemmhngadpjcaa
