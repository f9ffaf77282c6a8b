/- The document's places of a key. -/
import Derived.Test.YtbemmhngadpjcaaFP6
namespace Go.Proofs.Ytbemmhngadpjcaa
set_option linter.unusedVariables false
set_option linter.unusedSimpArgs false
open Go.RowKit

theorem le_drop (xs : List UInt8) (k : Nat) (h : k < xs.length) : leNat (xs.drop k) = xs[k].toNat + 256 * leNat (xs.drop (k + 1)) := by
  rw [List.drop_eq_getElem_cons h]
  rfl
set_option maxRecDepth 20000 in
set_option maxHeartbeats 4000000 in
theorem rword_any (w : World) (b o c : Nat) (xs : List UInt8) (h8 : xs.length = 8) (hr : ∀ i (h : i < xs.length), w.cell? ⟨b, o + i, none⟩ = some (u8c xs[i])) : Calls Try.prog 69 #[.slice (some ⟨b, o, none⟩) 8 c] w (fun e w' => e = .returned (.int .u64 (leNat xs : Nat)) ∧ w' = w) := by
  have HR := hide hr
  have H8 := hide h8
  clear hr h8
  go_enter Try.func69, Try.ntmps69
  go_wp2
  go_loopw [3, 4] (fun s3 s4 wr => ∃ (i : Int) (v : Nat), s4 = .int .i64 i ∧ -1 ≤ i ∧ i ≤ 7 ∧ s3 = .int .u64 v ∧ v < 18446744073709551616 ∧ Hid (v = leNat (xs.drop (i + 1).toNat)) ∧ wr = w) (fun _ s4 _ => (intOf s4 + 1).toNat)
  case atStart => exact ⟨7, 0, rfl, by omega, by omega, rfl, by omega, hide (by rw [show ((7 : Int) + 1).toNat = 8 from rfl, List.drop_of_length_le (by rw [H8.out]; omega)]; rfl), rfl⟩
  case round =>
    obtain ⟨i, v, rfl, hi1, hi2, rfl, hvb, HV, hw⟩ := hrel
    subst hw
    by_cases h0 : 0 ≤ i
    · obtain ⟨k, rfl⟩ : ∃ k : Nat, i = (k : Int) := ⟨i.toNat, by omega⟩
      have hk8 : k < 8 := by omega
      have hki : (k : Int) < 8 := by omega
      have hku : k < xs.length := by rw [H8.out]; exact hk8
      obtain ⟨y, hy⟩ : ∃ y, y = xs[k].toNat := ⟨_, rfl⟩
      have hyb : y < 256 := by rw [hy]; exact xs[k].toNat_lt
      have cy : wr.cell? ⟨b, o + k, none⟩ = some (.int .u8 (y : Int)) := by rw [hy]; exact HR.out k hku
      have hnew : y + 256 * v = leNat (xs.drop k) := by rw [le_drop xs k hku, hy, HV.out]; rfl
      have hlt : leNat (xs.drop k) < 18446744073709551616 := leNat_lt _ 8 (by rw [List.length_drop, H8.out]; omega)
      have hb2 : y + 256 * v < 18446744073709551616 := by rw [hnew]; exact hlt
      have hw1 : IntKind.u64.wrap ((v : Int) * 256) = ((v * 256 : Nat) : Int) := by rw [show (v : Int) * 256 = ((v * 256 : Nat) : Int) by omega]; exact wrapu64_nat _ (by omega)
      obtain ⟨m, hm⟩ : ∃ m, m = v * 256 := ⟨_, rfl⟩
      rw [← hm] at hw1
      obtain ⟨n, hn⟩ : ∃ n, n = m + y := ⟨_, rfl⟩
      have hw2 : IntKind.u64.wrap ((m : Int) + (y : Int)) = (n : Int) := by rw [show (m : Int) + (y : Int) = ((m + y : Nat) : Int) by omega, ← hn]; exact wrapu64_nat _ (by omega)
      have HN : Hid (n = leNat (xs.drop k)) := hide (by rw [← hnew]; omega)
      have hnb : n < 18446744073709551616 := by rw [HN.out]; exact hlt
      clear hnew hlt hb2 hm hn hy
      go_wp2
      exact ⟨⟨(k : Int) - 1, n, rfl, by omega, by omega, rfl, hnb, hide (by rw [show ((k : Int) - 1 + 1).toNat = k by omega]; exact HN.out), trivial⟩, by simp [intOf]⟩
    · have hi : i = -1 := by omega
      have HV2 : Hid (v = leNat xs) := hide (by rw [HV.out, hi]; rfl)
      clear hi HV
      go_wp2
      go_ret
      exact ⟨by rw [HV2.out]; rfl, rfl⟩
/-- The places of a key, in their order. -/
def plsK (a b L h : Nat) : List Nat := (List.range h).map (plK a b L)
theorem plsK_len (a b L h : Nat) : (plsK a b L h).length = h := by simp [plsK]
theorem plsK_succ (a b L h : Nat) : plsK a b L (h + 1) = plsK a b L h ++ [plK a b L h] := by simp [plsK, List.range_succ]
theorem plsK_get (a b L h k : Nat) (hk : k < (plsK a b L h).length) : (plsK a b L h)[k] = plK a b L k := by simp [plsK]
def PlsC (w : World) (ps : List Nat) (e : Ending) (w' : World) : Prop := ∃ v, e = .returned v ∧ OwnsI w' w.heap.size v ps ∧ Below w.heap.size w w'
theorem cut08 (a : Addr) (w : World) : (Instr.sliceAt 36 (.pointer (some a)) (some (.int .i64 0)) (some (.int .i64 8)) none).run Try.prog w = .ok (.slice (some a) 8 32) w := by kernel_rfl
theorem cut816 (b : Nat) (w : World) : (Instr.sliceAt 36 (.pointer (some ⟨b, 0, none⟩)) (some (.int .i64 8)) (some (.int .i64 16)) none).run Try.prog w = .ok (.slice (some ⟨b, 8, none⟩) 8 24) w := by kernel_rfl
end Go.Proofs.Ytbemmhngadpjcaa
