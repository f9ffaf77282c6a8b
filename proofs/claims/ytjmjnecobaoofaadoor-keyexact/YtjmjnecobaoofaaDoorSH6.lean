/- Write of no bytes and of any; of a nil Hasher; Len. -/
import Derived.Test.YtjmjnecobaoofaaDoorSH5
namespace Go.Proofs.YtjmjnecobaoofaaDoor
set_option linter.unusedVariables false
set_option linter.unusedSimpArgs false
open Go.RowKit

theorem copy_no (W : World) (ty : TypeId) (d ao : Option Addr) (dl dc c : Nat) : (Builtin.copy_ #[22, 22] ty #[.slice d dl dc, .slice ao 0 c]).run Tryd.prog W = .ok (.int .i64 0) W :=
  run_copy_none (P := Tryd.prog) W 22 22 ty 5 d ao dl dc 0 c Tryd.underlying22 infoU8s (Nat.zero_min _)
set_option maxRecDepth 40000 in
set_option maxHeartbeats 4000000 in
theorem write_empty (w : World) (z : Nat) (t : TypeId) (pre post : List Value) (bs : List UInt8) (hH : HOf w z t pre post bs) (ao : Option Addr) (c : Nat) (hlen : bs.length ≤ 4611686018427387904) :
    Calls Tryd.prog 28 #[.pointer (some ⟨z, pre.length, none⟩), .slice ao 0 c] w (WriteC w z t pre post bs) := by
  obtain ⟨s, hB, hs⟩ := hH
  obtain ⟨n, hn⟩ : ∃ n, n = bs.length := ⟨_, rfl⟩
  obtain ⟨r, hr⟩ : ∃ r, r = n % 64 := ⟨_, rfl⟩
  rw [← hn] at hlen
  have c73 := hB.c73
  have f73 := hB.frozen (pre.length + 73)
  have hB1 := hB.setN bs.length
  rw [← hn] at c73 hB1
  have hO : HOf (w.setCell ⟨z, pre.length + 73, none⟩ (.int .u64 n)) z t pre post bs := ⟨s, by rw [← hn]; exact hB1, hs⟩
  have e1 : (n : Int) % 64 = r := by omega
  have e2 : IntKind.i64.wrap (r : Int) = r := wrapi64_nat r (by omega)
  have e4 : IntKind.u64.wrap (n : Int) = (n : Int) := wrap64_nat n (by omega)
  have hr64 : r < 64 := by omega
  have HO := hide hO
  have HG1 := hide (grownBy_set w z (pre.length + 73) (.int .u64 n))
  have hcp := fun W ty d dl dc => copy_no W ty d ao dl dc c
  have hsa := slice64_allo z (pre.length + 9)
  clear hB hB1 hO hs hn hr
  by_cases hr0 : r = 0
  · have hr1 : ¬ (0 : Int) < r := by omega
    clear hr0
    go_enter Tryd.func28, Tryd.ntmps28
    go_wp2
    refine wp_loop_rounds 1 ?_
    rw [rounds_succ]
    go_wp2
    go_returns
    exact ⟨rfl, HO.out, HG1.out⟩
  · have hr1 : (0 : Int) < r := by omega
    have hsl := slice64 z (pre.length + 9) r hr64 (r : Int) rfl
    have hlt : (r : Int) < 64 := by omega
    clear hr0
    go_enter Tryd.func28, Tryd.ntmps28
    go_wp2
    go_returns
    exact ⟨rfl, HO.out, HG1.out⟩
theorem write_any (w : World) (hT : Tabs w) (z : Nat) (hz : 4 ≤ z) (t : TypeId) (pre post : List Value) (bs xs : List UInt8) (hH : HOf w z t pre post bs) (v : Value) (hv : RdA w v xs) (hvz : ∀ b o l c, v = .slice (some ⟨b, o, none⟩) l c → 0 < xs.length → b ≠ z) (hlen : bs.length + xs.length ≤ 4611686018427387904) :
    Calls Tryd.prog 28 #[.pointer (some ⟨z, pre.length, none⟩), v] w (WriteC w z t pre post (bs ++ xs)) := by
  rcases Nat.eq_zero_or_pos xs.length with h0 | hpos
  · obtain rfl : xs = [] := List.eq_nil_of_length_eq_zero h0
    obtain ⟨ao, c, rfl, _⟩ := hv.slice
    rw [List.append_nil]
    exact write_empty w z t pre post bs hH ao c (by simpa using hlen)
  · rcases hv with hv | ⟨_, _, rfl⟩
    · obtain ⟨ao, c, rfl, h1, h2, ⟨_, rfl⟩ | ⟨b, o, rfl, hc⟩⟩ := hv
      · omega
      · exact write_some w hT z hz t pre post bs xs hH b o c (hvz b o _ c rfl hpos) hpos h1 h2 hlen hc
    · simp at hpos
theorem write_nil (w : World) (v : Value) : Calls Tryd.prog 28 #[.pointer none, v] w fun e w' => e = .returned (.tuple #[]) ∧ w' = w := by
  go_enter Tryd.func28, Tryd.ntmps28
  go_wp2
  go_returns
  exact ⟨rfl, rfl⟩
end Go.Proofs.YtjmjnecobaoofaaDoor
