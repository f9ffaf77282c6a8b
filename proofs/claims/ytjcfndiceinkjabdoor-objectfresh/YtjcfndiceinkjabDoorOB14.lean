/- The marks behind what was copied. -/
import Derived.Test.YtjcfndiceinkjabDoorOBo
import Derived.Lib.QuietBelow
namespace Go.Proofs.YtjcfndiceinkjabDoor
set_option linter.unusedVariables false
set_option linter.unusedSimpArgs false
open Go.RowKit

theorem zero_key (W : World) : (zeroValue 27).run Tryd.prog W = .ok (.agg keyZ) W := by kernel_rfl
set_option maxRecDepth 20000 in
set_option maxHeartbeats 1000000 in
theorem clean_any (w : World) (g : Nat) (xs : List UInt8) (hB : Blk w g ((spL xs).map u8c).toArray 5) (hlen : xs.length ≤ 140737488353000) : Calls Tryd.prog 20 #[.slice (some ⟨g, 0, none⟩) xs.length (xs.length + 70)] w fun e w' => e = .returned (.bool true) ∧ Below w.heap.size w w' := by
  have HB := hide hB
  obtain ⟨n, hn⟩ : ∃ n, n = xs.length := ⟨_, rfl⟩
  have HN := hide hn
  rw [← hn] at hlen ⊢
  clear hB hn
  obtain ⟨m, hm⟩ : ∃ m, m = n + 70 := ⟨_, rfl⟩
  rw [← hm]
  have hw0 : IntKind.i64.wrap ((n : Int) + 70) = (m : Int) := by rw [show (n : Int) + 70 = (m : Int) by omega]; exact wrapi64_nat m (by omega)
  have hmm : (m : Int) ≤ (m : Int) := Int.le_refl _
  have HM := hide hm
  have hmu : m ≤ 140737488353070 := by omega
  have hnm : n ≤ m := by omega
  clear hm
  go_enter Tryd.func20, Tryd.ntmps20
  go_wp2
  go_loopw [4] (fun t wr => ∃ k : Nat, t = .int .i64 k ∧ n ≤ k ∧ k ≤ m ∧ wr = w) (fun t _ => m - (intOf t).toNat)
  case atStart => exact ⟨n, rfl, Nat.le_refl _, hnm, rfl⟩
  case round =>
    obtain ⟨k, rfl, hnk, hk, hw⟩ := hrel
    subst hw
    by_cases hlt : k < m
    · have hki : (k : Int) < (m : Int) := by omega
      have c1 : wr.cell? ⟨g, k, none⟩ = some (.int .u8 165) := HB.out.atU k 165 (by rw [spL_at xs k (by rw [← HN.out, ← HM.out]; exact hlt)]; unfold spAt; rw [List.getElem?_eq_none (by rw [← HN.out]; exact hnk)]; rfl)
      go_wp2
      exact ⟨⟨k + 1, by go_num, by omega, by omega, by trivial⟩, by simp [intOf]; omega⟩
    · have hki : ¬ (k : Int) < (m : Int) := by omega
      go_wp2
      go_ret
      exact ⟨rfl, Below.refl _ _⟩
theorem CopyRow.marks {B : Nat} {w : World} {v : Value} {k : Nat} {L : List (List Value)} {c : List Value} (h : CopyRow B w v k L (c ++ c)) (hk : ∀ x ∈ L, x.length = k) (hc : c.length = k) : ∃ g cap, v = .slice (some ⟨g, 0, none⟩) L.length cap ∧ L.length + 2 ≤ cap ∧ cap ≤ 9223372036854775807 ∧ w.rangeAt g (L.length * k) c ∧ w.rangeAt g ((L.length + 1) * k) c := by
  obtain ⟨g, cap, h1, _, h2, h3, h4⟩ := h
  have h5 := rangeAt_right h4
  rw [flat_len k L hk, Nat.zero_add] at h5
  have h6 := rangeAt_right h5
  rw [hc] at h6
  exact ⟨g, cap, h1, h2, h3, rangeAt_left h5, by rw [Nat.succ_mul]; exact h6⟩
theorem loadAt_sl {w : World} {z o : Nat} {v : Value} (hc : w.cell? ⟨z, o, none⟩ = some v) : (Instr.loadAt 23 (.pointer (some ⟨z, o, none⟩))).run Tryd.prog w = .ok v w := by
  have := Tryd.underlying23
  simp [Instr.loadAt, Instr.sureAddr, go_sem, hc, this]
theorem wpList_load_partAt {ops : Array Oper} {rest : List Oper} {op : Oper} {a : Act} {w : World} {Q : Exit → Act → World → Prop} (x : Operand) (z o : Nat) (p : PartR) (hl : okP p) (hc : w.rangeAt z o (partC p)) (ho : op.op = .load 49 x) (hx : a.eval x = .pointer (some ⟨z, o, none⟩)) (hg : Region.wanted op (yielded ops a.tmps) = true)
    (h : wpList Tryd.prog ops Q rest (a.put op.dst (partV p)) w) : wpList Tryd.prog ops Q (op :: rest) a w := wpList_val _ hg (run_load ho hx (loadAt_part hl hc)) h
theorem wpList_load_itemAt {ops : Array Oper} {rest : List Oper} {op : Oper} {a : Act} {w : World} {Q : Exit → Act → World → Prop} (x : Operand) (z o : Nat) (p : ItemR) (hl : okI p) (hc : w.rangeAt z o (itemC p)) (ho : op.op = .load 52 x) (hx : a.eval x = .pointer (some ⟨z, o, none⟩)) (hg : Region.wanted op (yielded ops a.tmps) = true)
    (h : wpList Tryd.prog ops Q rest (a.put op.dst (itemV p)) w) : wpList Tryd.prog ops Q (op :: rest) a w := wpList_val _ hg (run_load ho hx (loadAt_item hl hc)) h
end Go.Proofs.YtjcfndiceinkjabDoor
