/- OnesCount64 counts the bits; Ones, Shape, Fill and Alarm of a filter. -/
import Derived.Test.YtbemmhngadpjcaaFJ4
import Derived.Test.YtbemmhngadpjcaaBR2
namespace Go.Proofs.Ytbemmhngadpjcaa
set_option linter.unusedVariables false
set_option linter.unusedSimpArgs false
open Go.RowKit Go.Sort Ieee

def o1 (b : Int) : Int := IntKind.u64.wrap (bits .and .u64 (b / 2) 6148914691236517205 + bits .and .u64 b 6148914691236517205)
def o2 (b : Int) : Int := IntKind.u64.wrap (bits .and .u64 (b / 4) 3689348814741910323 + bits .and .u64 b 3689348814741910323)
def o3 (b : Int) : Int := bits .and .u64 (IntKind.u64.wrap (b / 16 + b)) 1085102592571150095
def o4 (b : Int) : Int := IntKind.u64.wrap (b + b / 256)
def o5 (b : Int) : Int := IntKind.u64.wrap (b + b / 65536)
def o6 (b : Int) : Int := IntKind.u64.wrap (b + b / 4294967296)
def o7 (b : Int) : Int := bits .and .i64 (wrap64 b) 127
def onesI (b : Int) : Int := o7 (o6 (o5 (o4 (o3 (o2 (o1 b))))))
set_option maxRecDepth 20000 in
set_option maxHeartbeats 1000000 in
theorem ones64_any (b : Nat) (hb : b < 18446744073709551616) (w : World) : Calls Try.prog 53 #[.int .u64 (b : Int)] w fun e w' => e = .returned (.int .i64 (onesI b)) ∧ w' = w := by
  go_enter Try.func53, Try.ntmps53
  go_wp2
  go_ret
  exact ⟨rfl, rfl⟩
theorem byB_le (f : Nat → Nat) (m : Nat) (hf : ∀ b < 256, f b ≤ m) : ∀ n x, byB f n x ≤ rep m n
  | 0, x => Nat.le_refl _
  | n + 1, x => by
    have h1 := hf (x % 256) (by omega)
    have h2 := byB_le f m hf n (x / 256)
    rw [byB, rep]
    omega
theorem f1_le : ∀ b < 256, f1 b ≤ 170 := by decide +kernel
theorem f12_le : ∀ b < 256, f2 (f1 b) ≤ 68 := by decide +kernel
theorem o4_eq (v r : Nat) (h : r = v + v / 256) (hb : r < 18446744073709551616) : o4 v = (r : Nat) := by
  unfold o4
  rw [show (v : Int) + (v : Int) / 256 = ((r : Nat) : Int) by omega, wrapu64_nat _ hb]
theorem o5_eq (v r : Nat) (h : r = v + v / 65536) (hb : r < 18446744073709551616) : o5 v = (r : Nat) := by
  unfold o5
  rw [show (v : Int) + (v : Int) / 65536 = ((r : Nat) : Int) by omega, wrapu64_nat _ hb]
theorem o6_eq (v r : Nat) (h : r = v + v / 4294967296) (hb : r < 18446744073709551616) : o6 v = (r : Nat) := by
  unfold o6
  rw [show (v : Int) + (v : Int) / 4294967296 = ((r : Nat) : Int) by omega, wrapu64_nat _ hb]
theorem o7_eq (v r : Nat) (h : v % 128 = r) : o7 v = (r : Nat) := by
  have : wrap64 (v : Int) % 128 = (v : Int) % 128 := by unfold wrap64; omega
  unfold o7
  rw [i64_and127, this]
  omega
theorem up4 {v v4 v5 v6 : Nat} (q4 : v4 = v + v / 256) (q5 : v5 = v4 + v4 / 65536) (q6 : v6 = v5 + v5 / 4294967296) (q7 : v6 < 18446744073709551616) : v4 < 18446744073709551616 ∧ v5 < 18446744073709551616 := by omega
set_option maxHeartbeats 1000000 in
theorem onesI_eq (b : Nat) (hb : b < 18446744073709551616) : onesI b = (popB 64 b : Nat) := by
  have r1 : rep 85 8 = 6148914691236517205 := by decide
  have r2 : rep 51 8 = 3689348814741910323 := by decide
  have r3 : rep 15 8 = 1085102592571150095 := by decide
  have l1 := byB_le f1 170 f1_le 8 b
  have l2 := byB_le (fun b => f2 (f1 b)) 68 f12_le 8 b
  rw [show rep 170 8 = 12297829382473034410 by decide] at l1
  rw [show rep 68 8 = 4919131752989213764 by decide] at l2
  have e1 : o1 b = (byB f1 8 b : Nat) := by
    unfold o1
    rw [show (b : Int) / 2 = ((b / 2 : Nat) : Int) by omega, show (6148914691236517205 : Int) = ((6148914691236517205 : Nat) : Int) from rfl, u64_and_nat _ _ (by omega) (by omega), u64_and_nat _ _ hb (by omega), ← r1, ← Int.natCast_add, step1, wrapu64_nat _ (by omega)]
  have e2 : o2 (byB f1 8 b : Nat) = (byB (fun b => f2 (f1 b)) 8 b : Nat) := by
    unfold o2
    obtain ⟨x, hx⟩ : ∃ x, x = byB f1 8 b := ⟨_, rfl⟩
    have h12 := by12 8 b
    rw [← hx] at l1 h12 ⊢
    rw [show (x : Int) / 4 = ((x / 4 : Nat) : Int) by omega, show (3689348814741910323 : Int) = ((3689348814741910323 : Nat) : Int) from rfl, u64_and_nat _ _ (by omega) (by omega), u64_and_nat _ _ (by omega) (by omega), ← r2, ← Int.natCast_add, step2, h12, wrapu64_nat _ (by omega)]
  have e3 : o3 (byB (fun b => f2 (f1 b)) 8 b : Nat) = (byB (popB 8) 8 b : Nat) := by
    unfold o3
    have h3 := step3 8 b
    obtain ⟨x, hx⟩ : ∃ x, x = byB (fun b => f2 (f1 b)) 8 b := ⟨_, rfl⟩
    rw [← hx] at l2 h3 ⊢
    rw [show (x : Int) / 16 + (x : Int) = ((x / 16 + x : Nat) : Int) by omega, wrapu64_nat _ (by omega), show (1085102592571150095 : Int) = ((1085102592571150095 : Nat) : Int) from rfl, u64_and_nat _ _ (by omega) (by omega), ← r3, h3]
  have hpb := pop_bytes b
  have hle := fun y => popB_le 8 y
  obtain ⟨v, hv⟩ : ∃ v, v = byB (popB 8) 8 b := ⟨_, rfl⟩
  have hv' := hv
  simp only [byB, Nat.div_div_eq_div_mul, Nat.reduceMul] at hv'
  obtain ⟨v4, v5, v6, q4, q5, q6, q7, q8⟩ := sums _ _ _ _ _ _ _ _ v hv' (hle _) (hle _) (hle _) (hle _) (hle _) (hle _) (hle _) (hle _)
  rw [← hpb] at q8
  clear hv' hpb hle
  unfold onesI
  rw [e1, e2, e3, ← hv]
  have u := up4 q4 q5 q6 q7
  rw [o4_eq v v4 q4 u.1, o5_eq v4 v5 q5 u.2, o6_eq v5 v6 q6 q7, o7_eq v6 _ q8]
end Go.Proofs.Ytbemmhngadpjcaa
