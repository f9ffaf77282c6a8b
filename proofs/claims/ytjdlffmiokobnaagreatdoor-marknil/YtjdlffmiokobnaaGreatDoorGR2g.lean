/- A ring in memory: slot, end, has. -/
import Derived.Test.YtjdlffmiokobnaaGreatDoorGR1g
namespace Go.Proofs.YtjdlffmiokobnaaGreatDoor
set_option linter.unusedVariables false
set_option linter.unusedSimpArgs false
namespace RG
open Go.RowKit
set_option maxRecDepth 100000

def rgL (g n b c : Nat) : Array Value := #[.slice (some ⟨g, 0, none⟩) n n, .int .i64 (b : Int), .int .i64 (c : Int)]
/-- A ring at block z, its slots in block g, that holds the values V. -/
structure RgAt (w : World) (z g : Nat) (zT : TypeId) (M : Nat) (V : List EL) : Prop where
  ex : ∃ (S : List EL) (b : Nat), Blk w z (rgL g S.length b V.length) zT ∧ RowEl w g S ∧ Ring S b V ∧ S.length ≤ 2 * M + 1
  ne : z ≠ g
section
variable {z g : Nat} {zT : TypeId} {M : Nat} {V : List EL}
theorem RgAt.lt {w : World} (h : RgAt w z g zT M V) : z < w.heap.size ∧ g < w.heap.size := by
  obtain ⟨S, b, h1, h2, _⟩ := h.ex
  exact ⟨h1.lt, h2.lt⟩
theorem RgAt.same {w w' : World} (h : RgAt w z g zT M V) (h1 : w'.heap[z]? = w.heap[z]?) (h2 : w'.heap[g]? = w.heap[g]?) : RgAt w' z g zT M V := by
  obtain ⟨S, b, k1, k2, k3, k4⟩ := h.ex
  exact ⟨⟨S, b, h1.trans k1, h2.trans k2, k3, k4⟩, h.ne⟩
theorem RgAt.below {w w' : World} (h : RgAt w z g zT M V) (hb : Below w.heap.size w w') : RgAt w' z g zT M V := h.same (hb.block _ h.lt.1) (hb.block _ h.lt.2)
theorem RgAt.drewN {w : World} (h : RgAt w z g zT M V) (n : Nat) : RgAt (w.drewN n) z g zT M V := h.same rfl rfl
theorem RgAt.more {w : World} (h : RgAt w z g zT M V) {N : Nat} (hN : M ≤ N) : RgAt w z g zT N V := by
  obtain ⟨S, b, k1, k2, k3, k4⟩ := h.ex
  exact ⟨⟨S, b, k1, k2, k3, by omega⟩, h.ne⟩
end
section
variable {w : World} {z g n b c : Nat} {zT : TypeId}
theorem slot_any (hz : Blk w z (rgL g n b c) zT) (hb : b < n) (hn : n ≤ 281474976710656) (k : Nat) (hk : k ≤ n) : Calls Tryz.prog 143 #[.pointer (some ⟨z, 0, none⟩), .int .i64 (k : Int)] w fun e w' => e = .returned (.int .i64 (spot n b k : Nat)) ∧ ∃ q, w' = w.drewN q := by
  have c0 : w.cell? ⟨z, 0, none⟩ = some (.slice (some ⟨g, 0, none⟩) n n) := by rw [hz.cell]; rfl
  have c1 : w.cell? ⟨z, 1, none⟩ = some (.int .i64 (b : Int)) := by rw [hz.cell]; rfl
  have hzl := hz.lt
  clear hz
  by_cases h : n - b ≤ k
  · have hi : (n : Int) - (b : Int) ≤ (k : Int) := by omega
    have e : ((spot n b k : Nat) : Int) = (k : Int) - ((n : Int) - (b : Int)) := by unfold spot; rw [if_pos h]; omega
    rw [e]
    clear e h
    go_enter Tryz.func143, Tryz.ntmps143
    go_upto_region 1 with fail
    go_quiet (fail)
    go_wp2
    go_ret
    exact ⟨rfl, _, rfl⟩
  · have hi : ¬ (n : Int) - (b : Int) ≤ (k : Int) := by omega
    have e : ((spot n b k : Nat) : Int) = (b : Int) + (k : Int) := by unfold spot; rw [if_neg h]; omega
    rw [e]
    clear e h
    go_enter Tryz.func143, Tryz.ntmps143
    go_upto_region 1 with fail
    go_quiet (fail)
    go_wp2
    go_ret
    exact ⟨rfl, _, rfl⟩
theorem end_any (hz : Blk w z (rgL g n b c) zT) (hc : c ≤ 281474976710656) (bot : Bool) : Calls Tryz.prog 145 #[.pointer (some ⟨z, 0, none⟩), .bool bot] w fun e w' => e = .returned (.int .i64 (if bot then 0 else (c : Int) - 1)) ∧ w' = w := by
  have c2 : w.cell? ⟨z, 2, none⟩ = some (.int .i64 (c : Int)) := by rw [hz.cell]; rfl
  have hzl := hz.lt
  clear hz
  cases bot
  · go_enter Tryz.func145, Tryz.ntmps145
    go_wp2
    go_ret
    exact ⟨rfl, rfl⟩
  · go_enter Tryz.func145, Tryz.ntmps145
    go_wp2
    go_ret
    exact ⟨rfl, rfl⟩
theorem has_any (hz : Blk w z (rgL g n b c) zT) (i : Int) : Calls Tryz.prog 173 #[.pointer (some ⟨z, 0, none⟩), .int .i64 i] w fun e w' => e = .returned (.bool (decide (0 ≤ i ∧ i < c))) ∧ w' = w := by
  have c2 : w.cell? ⟨z, 2, none⟩ = some (.int .i64 (c : Int)) := by rw [hz.cell]; rfl
  have hzl := hz.lt
  clear hz
  by_cases h : 0 ≤ i
  · by_cases h2 : i < c
    · rw [decide_eq_true (show 0 ≤ i ∧ i < c from ⟨h, h2⟩)]
      go_enter Tryz.func173, Tryz.ntmps173
      go_wp2
      go_ret
      exact ⟨rfl, rfl⟩
    · rw [decide_eq_false (show ¬ (0 ≤ i ∧ i < c) from fun q => h2 q.2)]
      go_enter Tryz.func173, Tryz.ntmps173
      go_wp2
      go_ret
      exact ⟨rfl, rfl⟩
  · rw [decide_eq_false (show ¬ (0 ≤ i ∧ i < c) from fun q => h q.1)]
    go_enter Tryz.func173, Tryz.ntmps173
    go_wp2
    go_ret
    exact ⟨rfl, rfl⟩
end
end RG
end Go.Proofs.YtjdlffmiokobnaaGreatDoor
