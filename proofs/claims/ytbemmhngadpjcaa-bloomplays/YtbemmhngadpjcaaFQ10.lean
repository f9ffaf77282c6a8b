/- BloomPlays: a step done, whatever it is; are the script's filters and steps few enough? -/
import Derived.Test.YtbemmhngadpjcaaFQ9
namespace Go.Proofs.Ytbemmhngadpjcaa
set_option linter.unusedVariables false
set_option linter.unusedSimpArgs false
open Go.RowKit

def DoneL (w0 w : World) (q : Nat) (e : Ending) (w' : World) : Prop :=
  e = .returned (.bool true) ∧ ∃ s' t', syO s' ∧ syO t' ∧ PQ w0 w' s' t' ∧ Blk w' q (cells2 0 s' t') 30 ∧ ∀ b cs, Blk w b cs 25 → Blk w' b cs 25
theorem done0 (w0 w : World) (q : Nat) (s t : Option Sl) (SC : Array Value) (K F B H : Int) (kb : List UInt8) (sa : StepAt SC K F B H kb) (hF : bits .and .i64 F 1 = 0) (p : PQ w0 w s t) (hs : syO s) (ht : syO t) (hq : Blk w q (cells2 0 s t) 30) (hlo : w0.heap.size ≤ q) : Calls Try.prog 11 #[.slice (some ⟨q, 0, none⟩) 2 2, .agg SC] w (DoneC w0 w q 0 t) := by
  by_cases hK : ∀ n : Int, 1 ≤ n → n ≤ 8 → K ≠ n
  · exact done_other0 w0 w q s t SC K F B H kb sa hF p hs ht hq hK
  · have hK' : K = 1 ∨ K = 2 ∨ K = 3 ∨ K = 4 ∨ K = 5 ∨ K = 6 ∨ K = 7 ∨ K = 8 := by
      rcases Classical.not_forall.1 hK with ⟨n, hn⟩
      rcases Classical.not_imp.1 hn with ⟨h1, hn⟩
      rcases Classical.not_imp.1 hn with ⟨h2, hn⟩
      have := Classical.not_not.1 hn
      omega
    rcases hK' with rfl | rfl | rfl | rfl | rfl | rfl | rfl | rfl
    · cases s with
      | none => exact done_addN0 w0 w q t SC F B H kb sa hF p hs ht hq
      | some s => exact done_addS0 w0 w q s t SC F B H kb sa hF p hs ht hq
    · cases s with
      | none => exact done_hasN0 w0 w q t SC F B H kb sa hF p hs ht hq
      | some s => exact done_hasS0 w0 w q s t SC F B H kb sa hF p hs ht hq
    · exact done_join0 w0 w q s t SC F B H kb sa hF p hs ht hq
    · exact done_meet0 w0 w q s t SC F B H kb sa hF p hs ht hq
    · exact done_told0 w0 w q s t SC F B H kb sa hF p hs ht hq
    · cases s with
      | none => exact done_bytesN0 w0 w q t SC F B H kb sa hF p hs ht hq
      | some s => exact done_bytesS0 w0 w q s t SC F B H kb sa hF p hs ht hq
    · cases s with
      | none => exact done_openN0 w0 w q t SC F B H kb sa hF p hs ht hq
      | some s => exact done_openS0 w0 w q s t SC F B H kb sa hF p hs ht hq hlo
    · exact done_new0 w0 w q s t SC F B H kb sa hF p hs ht hq hlo
theorem done1 (w0 w : World) (q : Nat) (s t : Option Sl) (SC : Array Value) (K F B H : Int) (kb : List UInt8) (sa : StepAt SC K F B H kb) (hF : bits .and .i64 F 1 = 1) (p : PQ w0 w s t) (hs : syO s) (ht : syO t) (hq : Blk w q (cells2 1 s t) 30) (hlo : w0.heap.size ≤ q) : Calls Try.prog 11 #[.slice (some ⟨q, 0, none⟩) 2 2, .agg SC] w (DoneC w0 w q 1 t) := by
  by_cases hK : ∀ n : Int, 1 ≤ n → n ≤ 8 → K ≠ n
  · exact done_other1 w0 w q s t SC K F B H kb sa hF p hs ht hq hK
  · have hK' : K = 1 ∨ K = 2 ∨ K = 3 ∨ K = 4 ∨ K = 5 ∨ K = 6 ∨ K = 7 ∨ K = 8 := by
      rcases Classical.not_forall.1 hK with ⟨n, hn⟩
      rcases Classical.not_imp.1 hn with ⟨h1, hn⟩
      rcases Classical.not_imp.1 hn with ⟨h2, hn⟩
      have := Classical.not_not.1 hn
      omega
    rcases hK' with rfl | rfl | rfl | rfl | rfl | rfl | rfl | rfl
    · cases s with
      | none => exact done_addN1 w0 w q t SC F B H kb sa hF p hs ht hq
      | some s => exact done_addS1 w0 w q s t SC F B H kb sa hF p hs ht hq
    · cases s with
      | none => exact done_hasN1 w0 w q t SC F B H kb sa hF p hs ht hq
      | some s => exact done_hasS1 w0 w q s t SC F B H kb sa hF p hs ht hq
    · exact done_join1 w0 w q s t SC F B H kb sa hF p hs ht hq
    · exact done_meet1 w0 w q s t SC F B H kb sa hF p hs ht hq
    · exact done_told1 w0 w q s t SC F B H kb sa hF p hs ht hq
    · cases s with
      | none => exact done_bytesN1 w0 w q t SC F B H kb sa hF p hs ht hq
      | some s => exact done_bytesS1 w0 w q s t SC F B H kb sa hF p hs ht hq
    · cases s with
      | none => exact done_openN1 w0 w q t SC F B H kb sa hF p hs ht hq
      | some s => exact done_openS1 w0 w q s t SC F B H kb sa hF p hs ht hq hlo
    · exact done_new1 w0 w q s t SC F B H kb sa hF p hs ht hq hlo
theorem done_any (w0 w : World) (q : Nat) (s t : Option Sl) (SC : Array Value) (K F B H : Int) (kb : List UInt8) (sa : StepAt SC K F B H kb) (p : PQ w0 w s t) (hs : syO s) (ht : syO t) (hq : Blk w q (cells2 0 s t) 30) (hlo : w0.heap.size ≤ q) : Calls Try.prog 11 #[.slice (some ⟨q, 0, none⟩) 2 2, .agg SC] w (DoneL w0 w q) := by
  rcases and_one F with hF | hF
  · exact (done0 w0 w q s t SC K F B H kb sa hF p hs ht hq hlo).mono fun e w' ⟨he, s', h1, h2, h3, h4⟩ => ⟨he, s', t, h1, ht, h2, h3, h4⟩
  · exact (done1 w0 w q t s SC K F B H kb sa hF p.symm ht hs hq hlo).mono fun e w' ⟨he, t', h1, h2, h3, h4⟩ => ⟨he, s, t', hs, h1, h2.symm, h3, h4⟩
/-- A row of steps. -/
structure StRow (w : World) (ao : Option Addr) (n : Nat) (sts : Nat → Array Value) : Prop where
  st : ∀ k, k < n → ∃ K F B H kb, StepAt (sts k) K F B H kb
  at' : 0 < n → ∃ b o, ao = some ⟨b, o, none⟩ ∧ ∀ k, k < n → w.rangeAt b (o + k * 36) (sts k).toList
theorem StRow.below {w w' : World} {ao : Option Addr} {n : Nat} {sts : Nat → Array Value} (h : StRow w ao n sts) (hb : Below w.heap.size w w') : StRow w' ao n sts :=
  ⟨h.st, fun h0 => by
    obtain ⟨b, o, e, hr⟩ := h.at' h0
    exact ⟨b, o, e, fun k hk j v hj => (hb.cell (World.block_lt_of_cell? w _ (hr k hk j v hj))).trans (hr k hk j v hj)⟩⟩
def SmC (w : World) (e : Ending) (w' : World) : Prop := ∃ r, e = .returned (.bool r) ∧ Below w.heap.size w w'
set_option maxRecDepth 20000 in
set_option maxHeartbeats 4000000 in
theorem small_any (w : World) (B0 B1 H0 H1 : Int) (ao : Option Addr) (n c : Nat) (sts : Nat → Array Value) (hr : StRow w ao n sts) (hn : n ≤ 9223372036854775807) : Calls Try.prog 9 #[.agg #[.int .i64 B0, .int .i64 B1, .int .i64 H0, .int .i64 H1, .slice ao n c]] w (SmC w) := by
  obtain ⟨W1, hW1⟩ : ∃ W1, W1 = w.alloc (.cells #[.int .i64 B0, .int .i64 B1, .int .i64 H0, .int .i64 H1, .slice ao n c] 25) := ⟨_, rfl⟩
  have hb1 : Below w.heap.size w W1 := by rw [hW1]; exact (Below.refl _ _).alloc (Nat.le_refl _) _
  have hk1 : Blk W1 w.heap.size #[.int .i64 B0, .int .i64 B1, .int .i64 H0, .int .i64 H1, .slice ao n c] 25 := by rw [hW1]; exact Blk.made w _ _
  have c0 : W1.cell? ⟨w.heap.size, 0, none⟩ = some (.int .i64 B0) := hk1.cell 0
  have c1 : W1.cell? ⟨w.heap.size, 1, none⟩ = some (.int .i64 B1) := hk1.cell 1
  have c4 : W1.cell? ⟨w.heap.size, 4, none⟩ = some (.slice ao n c) := hk1.cell 4
  have HR := hide (hr.below hb1)
  have HB := hide hb1
  clear hr hb1 hk1
  go_enter Try.func9, Try.ntmps9
  rw [hW1] at c0 c1 c4
  by_cases g1 : (16384 : Int) < n
  · go_wp2
    go_ret
    rw [← hW1]
    exact ⟨_, rfl, HB.out⟩
  by_cases g2 : (16384 : Int) < B0
  · go_wp2
    go_ret
    rw [← hW1]
    exact ⟨_, rfl, HB.out⟩
  by_cases g3 : (16384 : Int) < B1
  · go_wp2
    go_ret
    rw [← hW1]
    exact ⟨_, rfl, HB.out⟩
  go_wp2
  rw [← hW1] at c0 c1 c4
  go_loopw [3] (fun s3 wr => ∃ k : Nat, s3 = .int .i64 k ∧ k ≤ n ∧ W1 = wr) (fun s3 _ => n - (intOf s3).toNat)
  case atStart => exact ⟨0, rfl, by omega, hW1⟩
  case round =>
    clear hW1
    obtain ⟨k, rfl, hk, hw⟩ := hrel
    subst hw
    by_cases hlt : k < n
    · have hki : (k : Int) < n := by omega
      obtain ⟨b, o, hao, hrow⟩ := HR.out.at' (by omega)
      obtain ⟨K, F, B, H, kb, sa⟩ := HR.out.st k hlt
      have cB : W1.cell? ⟨b, o + k * 36 + 34, none⟩ = some (.int .i64 B) := hrow k hlt 34 _ (by rw [← sa.cB]; simp)
      subst hao
      clear hrow sa
      by_cases gB : (16384 : Int) < B
      · go_wp2
        go_ret
        exact ⟨_, rfl, HB.out⟩
      · go_wp2
        exact ⟨⟨k + 1, by go_num, by omega, trivial⟩, by simp [intOf]; omega⟩
    · have hki : ¬ (k : Int) < n := by omega
      go_wp2
      go_ret
      exact ⟨_, rfl, HB.out⟩
end Go.Proofs.Ytbemmhngadpjcaa
