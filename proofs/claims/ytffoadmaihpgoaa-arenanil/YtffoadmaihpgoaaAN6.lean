/- A call of a nil Arena or of a zero one, of any kind; ArenaNil, the walk. -/
import Derived.Test.YtffoadmaihpgoaaAN4a
import Derived.Test.YtffoadmaihpgoaaAN4b
import Derived.Test.YtffoadmaihpgoaaAN4c
namespace Go.Proofs.Ytffoadmaihpgoaa
set_option linter.unusedVariables false
set_option linter.unusedSimpArgs false
open Go.RowKit

theorem asked_none (w : World) (pa : Option Addr) (h : NoneAt w pa) (k s o n : Int) (v : Value) (xs : List UInt8) (l : Bool) (hv : RdA w v xs) (hlen : xs.length ≤ 140737488353000) :
    Calls Try.prog 9 #[.pointer pa, .agg (stepL k s o n v l)] w (AskC w k) := by
  by_cases hk : k < 1 ∨ 17 < k
  · exact asked_other w pa h k s o n v xs l hv hlen hk
  · rcases (show k = 1 ∨ k = 2 ∨ k = 3 ∨ k = 4 ∨ k = 5 ∨ k = 6 ∨ k = 7 ∨ k = 8 ∨ k = 9 ∨ k = 10 ∨ k = 11 ∨ k = 12 ∨ k = 13 ∨ k = 14 ∨ k = 15 ∨ k = 16 ∨ k = 17 by omega) with rfl | rfl | rfl | rfl | rfl | rfl | rfl | rfl | rfl | rfl | rfl | rfl | rfl | rfl | rfl | rfl | rfl
    · exact asked_1 w pa h s o n v xs l hv hlen
    · exact asked_2 w pa h s o n v xs l hv hlen
    · exact asked_3 w pa h s o n v xs l hv hlen
    · exact asked_4 w pa h s o n v xs l hv hlen
    · exact asked_5 w pa h s o n v xs l hv hlen
    · exact asked_6 w pa h s o n v xs l hv hlen
    · exact asked_7 w pa h s o n v xs l hv hlen
    · exact asked_8 w pa h s o n v xs l hv hlen
    · exact asked_9 w pa h s o n v xs l hv hlen
    · exact asked_10 w pa h s o n v xs l hv hlen
    · exact asked_11 w pa h s o n v xs l hv hlen
    · exact asked_12 w pa h s o n v xs l hv hlen
    · exact asked_13 w pa h s o n v xs l hv hlen
    · exact asked_14 w pa h s o n v xs l hv hlen
    · exact asked_15 w pa h s o n v xs l hv hlen
    · exact asked_16 w pa h s o n v xs l hv hlen
    · exact asked_17 w pa h s o n v xs l hv hlen
/-- The same, with its cells told. -/
theorem asked_cells (w : World) (pa : Option Addr) (h : NoneAt w pa) (k s o n : Int) (v : Value) (xs : List UInt8) (l : Bool) (E : Int) (hE : errK k = E) (hv : RdA w v xs) (hlen : xs.length ≤ 140737488353000) :
    Calls Try.prog 9 #[.pointer pa, .agg #[.int .i64 k, .int .i64 s, .int .i64 o, .int .i64 n, v, .bool l]] w fun e w' => e = .returned (.tuple #[.agg #[.int .i64 E, .int .i64 0, .int .i64 0, .string ⟨#[]⟩, .int .i64 0, .int .i64 0, .string ⟨#[]⟩], .bool true]) ∧ Below w.heap.size w w' := by
  subst hE
  exact asked_none w pa h k s o n v xs l hv hlen
theorem neq_1 (w : World) : (binOp BinOp.neq 39 (.agg #[.int .i64 1, .int .i64 0, .int .i64 0, .string ⟨#[]⟩, .int .i64 0, .int .i64 0, .string ⟨#[]⟩]) (.agg #[.int .i64 1, .int .i64 0, .int .i64 0, .string ⟨#[]⟩, .int .i64 0, .int .i64 0, .string ⟨#[]⟩])).run Try.prog w = .ok (.bool false) w := by kernel_rfl
theorem neq_0 (w : World) : (binOp BinOp.neq 39 (.agg #[.int .i64 0, .int .i64 0, .int .i64 0, .string ⟨#[]⟩, .int .i64 0, .int .i64 0, .string ⟨#[]⟩]) (.agg #[.int .i64 0, .int .i64 0, .int .i64 0, .string ⟨#[]⟩, .int .i64 0, .int .i64 0, .string ⟨#[]⟩])).run Try.prog w = .ok (.bool false) w := by kernel_rfl
/-- A step in memory. -/
def StepAt (w : World) (b o : Nat) : Prop := ∃ (k s f n : Int) (v : Value) (xs : List UInt8) (l : Bool), RdA w v xs ∧ xs.length ≤ 140737488353000 ∧ w.rangeAt b o (stepL k s f n v l).toList
def StepsAt (w : World) (aa : Option Addr) (n : Nat) : Prop := n ≤ maxLen ∧ ∀ i, i < n → ∃ b o, aa = some ⟨b, o, none⟩ ∧ b < w.heap.size ∧ StepAt w b (o + i * 6)
/-- Between two steps of a round: the step, and what is wanted. -/
structure NilSt (wr W : World) (zr : Nat) (st : Array Value) (E : Int) : Prop where
  step : Blk W zr st 44
  want : Blk W (zr + 1) #[.int .i64 E, .int .i64 0, .int .i64 0, .string ⟨#[]⟩, .int .i64 0, .int .i64 0, .string ⟨#[]⟩] 39
  ge : wr.heap.size ≤ zr
  bel : Below wr.heap.size wr W
theorem NilSt.start (wr : World) (st : Array Value) : NilSt wr ((wr.alloc (.cells st 44)).alloc (.cells #[.int .i64 1, .int .i64 0, .int .i64 0, .string ⟨#[]⟩, .int .i64 0, .int .i64 0, .string ⟨#[]⟩] 39)) wr.heap.size st 1 := by
  have h2 := Blk.made (wr.alloc (.cells st 44)) #[.int .i64 1, .int .i64 0, .int .i64 0, .string ⟨#[]⟩, .int .i64 0, .int .i64 0, .string ⟨#[]⟩] 39
  rw [World.size_alloc] at h2
  exact ⟨(Blk.made wr st _).alloc _, h2, Nat.le_refl _, (below_alloc wr _).alloc (by simp) _⟩
theorem NilSt.below {wr W W' : World} {zr : Nat} {st : Array Value} {E : Int} (h : NilSt wr W zr st E) (hb : Below W.heap.size W W') : NilSt wr W' zr st E :=
  ⟨h.step.below hb h.step.lt, h.want.below hb h.want.lt, h.ge, h.bel.trans (hb.mono h.bel.size)⟩
theorem NilSt.set {wr W : World} {zr : Nat} {st : Array Value} (h : NilSt wr W zr st 1) (v : Value) (hv : v = .int .i64 0 := by rfl) : NilSt wr (W.setCell ⟨zr + 1, 0, none⟩ v) zr st 0 := by
  subst hv
  exact ⟨h.step.setOther _ _ (by show _ ≠ _; simp only []; omega), h.want.set 0 _, h.ge, h.bel.setCell (by have := h.ge; simp; omega) _⟩
set_option maxRecDepth 20000 in
set_option maxHeartbeats 4000000 in
theorem arenaNil_any (w : World) (aa : Option Addr) (n c : Nat) (hS : StepsAt w aa n) :
    Calls Try.prog 6 #[.slice aa n c] w fun e w' => e = .returned (.bool true) ∧ Below w.heap.size w w' := by
  have HS := hide hS.2
  have hn : n ≤ 9223372036854775807 := hS.1
  clear hS
  have hq1 := neq_1
  have hq0 := neq_0
  by_cases hmany : 4096 < n
  · have hmany' : (4096 : Int) < (n : Int) := by omega
    go_enter Try.func6, Try.ntmps6
    go_wp2
    go_ret
    exact ⟨rfl, Below.refl _ _⟩
  have hmany' : ¬ (4096 : Int) < (n : Int) := by omega
  go_enter Try.func6, Try.ntmps6
  go_wp2
  go_loopw [5] (fun i wr => ∃ j : Nat, i = .int .i64 j ∧ j ≤ n ∧ Below w.heap.size w wr ∧ Blk wr w.heap.size zeroA 67) (fun i _ => n - (intOf i).toNat)
  case atStart => exact ⟨0, rfl, Nat.zero_le _, below_alloc _ _, Blk.made _ _ _⟩
  case round =>
    obtain ⟨j, rfl, hj, hbw, hza⟩ := hrel
    have HB := hide hbw
    have HZA := hide hza
    clear hbw hza
    by_cases hlt : j < n
    · obtain ⟨b, o, rfl, hbl, k, s, f, q, v, xs, l, hv, hlen, hr⟩ := HS.out j hlt
      obtain ⟨ao, cv, rfl, hl63⟩ := hv.slice
      have HR := hide hr
      have HV := hide (fun W hb => RdA.below (w' := W) hv hb)
      have HLEN := hide hlen
      have hbr : b < wr.heap.size := Nat.lt_of_lt_of_le hbl HB.out.size
      have g0 : wr.cell? ⟨b, o + j * 6, none⟩ = some (.int .i64 k) := (HB.out.cell (p := ⟨b, o + j * 6, none⟩) hbl).trans (hr 0 _ rfl)
      have g1 : wr.cell? ⟨b, o + j * 6 + 1, none⟩ = some (.int .i64 s) := (HB.out.cell (p := ⟨b, o + j * 6 + 1, none⟩) hbl).trans (hr 1 _ rfl)
      have g2 : wr.cell? ⟨b, o + j * 6 + 2, none⟩ = some (.int .i64 f) := (HB.out.cell (p := ⟨b, o + j * 6 + 2, none⟩) hbl).trans (hr 2 _ rfl)
      have g3 : wr.cell? ⟨b, o + j * 6 + 3, none⟩ = some (.int .i64 q) := (HB.out.cell (p := ⟨b, o + j * 6 + 3, none⟩) hbl).trans (hr 3 _ rfl)
      have g4 : wr.cell? ⟨b, o + j * 6 + 4, none⟩ = some (.slice ao xs.length cv) := (HB.out.cell (p := ⟨b, o + j * 6 + 4, none⟩) hbl).trans (hr 4 _ rfl)
      have g5 : wr.cell? ⟨b, o + j * 6 + 5, none⟩ = some (.bool l) := (HB.out.cell (p := ⟨b, o + j * 6 + 5, none⟩) hbl).trans (hr 5 _ rfl)
      clear hr hv hlen
      go_upto_region 10 with fail
      have HZL : Hid (w.heap.size < wr.heap.size) := hide HZA.out.lt
      refine name_world (fun W => ∃ zr, zr = wr.heap.size ∧ NilSt wr W zr (stepL k s f q (.slice ao xs.length cv) l) 1) ⟨_, rfl, NilSt.start _ _⟩ ?_
      rintro W1 ⟨zr, hzr, hN1⟩
      rw [← hzr]
      have HN := hide hN1
      have d0 : W1.cell? ⟨zr, 0, none⟩ = some (.int .i64 k) := (hN1.step.cell 0).trans rfl
      have dw : W1.cell? ⟨zr + 1, 0, none⟩ = some (.int .i64 1) := (hN1.want.cell 0).trans rfl
      have df := hN1.want.frozen 0
      have hzl := hN1.want.lt
      clear hN1 hzr g0 g1 g2 g3 g4 g5 HR
      by_cases hk : k = 1 ∨ k = 2 ∨ k = 3 ∨ k = 4 ∨ k = 5 ∨ k = 6 ∨ k = 7 ∨ k = 8 ∨ k = 11
      · have HE : Hid (errK k = 1) := hide (if_pos (by omega))
        rcases hk with rfl | rfl | rfl | rfl | rfl | rfl | rfl | rfl | rfl
        · go_upto_region 21 with fail
          refine name_world (fun W => NilSt wr W zr (stepL 1 s f q (.slice ao xs.length cv) l) 1) ?_ ?_
          · exact HN.out
          intro W2 hN2
          have HN := hide hN2
          have d0 : W2.cell? ⟨zr, 0, none⟩ = some (.int .i64 1) := (HN.out.step.cell 0).trans rfl
          have d1 : W2.cell? ⟨zr, 1, none⟩ = some (.int .i64 s) := (HN.out.step.cell 1).trans rfl
          have d2 : W2.cell? ⟨zr, 2, none⟩ = some (.int .i64 f) := (HN.out.step.cell 2).trans rfl
          have d3 : W2.cell? ⟨zr, 3, none⟩ = some (.int .i64 q) := (HN.out.step.cell 3).trans rfl
          have d4 : W2.cell? ⟨zr, 4, none⟩ = some (.slice ao xs.length cv) := (HN.out.step.cell 4).trans rfl
          have d5 : W2.cell? ⟨zr, 5, none⟩ = some (.bool l) := (HN.out.step.cell 5).trans rfl
          clear hN2
          go_upto_region 22 with (go_at_call 9; refine (asked_cells _ none (.inl rfl) _ _ _ _ _ xs _ 1 HE.out (HV.out W2 (HB.out.trans (HN.out.bel.mono HB.out.size))) HLEN.out).mono ?_; rintro e w3 ⟨rfl, hb3⟩; have HN3 := hide (HN.out.below hb3); clear hb3)
          clear d0 d1 d2 d3 d4 d5
          refine name_world (fun W => ∃ y, y = w3.heap.size ∧ NilSt wr W zr (stepL 1 s f q (.slice ao xs.length cv) l) 1 ∧ Blk W y #[.int .i64 1, .int .i64 0, .int .i64 0, .string ⟨#[]⟩, .int .i64 0, .int .i64 0, .string ⟨#[]⟩] 39) ⟨_, rfl, HN3.out.below (below_alloc _ _), Blk.made _ _ _⟩ ?_
          rintro W4 ⟨y, hy, hN4, hy4⟩
          rw [← hy]
          have HN4 := hide hN4
          have HY4 := hide hy4
          have d0 : W4.cell? ⟨zr, 0, none⟩ = some (.int .i64 1) := (hN4.step.cell 0).trans rfl
          have d1 : W4.cell? ⟨zr, 1, none⟩ = some (.int .i64 s) := (hN4.step.cell 1).trans rfl
          have d2 : W4.cell? ⟨zr, 2, none⟩ = some (.int .i64 f) := (hN4.step.cell 2).trans rfl
          have d3 : W4.cell? ⟨zr, 3, none⟩ = some (.int .i64 q) := (hN4.step.cell 3).trans rfl
          have d4 : W4.cell? ⟨zr, 4, none⟩ = some (.slice ao xs.length cv) := (hN4.step.cell 4).trans rfl
          have d5 : W4.cell? ⟨zr, 5, none⟩ = some (.bool l) := (hN4.step.cell 5).trans rfl
          clear hN4 hy4 hy HN3 HN
          go_upto_region 23 with (go_at_call 9; refine (asked_cells _ _ (.inr ⟨_, rfl, HZA.out.below HN4.out.bel HZL.out⟩) _ _ _ _ _ xs _ 1 HE.out (HV.out W4 (HB.out.trans (HN4.out.bel.mono HB.out.size))) HLEN.out).mono ?_; rintro e w5 ⟨rfl, hb5⟩; have HN5 := hide (HN4.out.below hb5); have HY5 := hide (HY4.out.below hb5 HY4.out.lt); clear hb5)
          clear d0 d1 d2 d3 d4 d5
          refine name_world (fun W => ∃ x, x = w5.heap.size ∧ NilSt wr W zr (stepL 1 s f q (.slice ao xs.length cv) l) 1 ∧ Blk W y #[.int .i64 1, .int .i64 0, .int .i64 0, .string ⟨#[]⟩, .int .i64 0, .int .i64 0, .string ⟨#[]⟩] 39 ∧ Blk W x #[.int .i64 1, .int .i64 0, .int .i64 0, .string ⟨#[]⟩, .int .i64 0, .int .i64 0, .string ⟨#[]⟩] 39) ⟨_, rfl, HN5.out.below (below_alloc _ _), HY5.out.alloc _, Blk.made _ _ _⟩ ?_
          rintro W6 ⟨x, hx, hN6, hy6, hx6⟩
          rw [← hx]
          have HN6 := hide hN6
          have a0 : W6.cell? ⟨zr + 1, 0, none⟩ = some (.int .i64 1) := (hN6.want.cell 0).trans rfl
          have a1 : W6.cell? ⟨zr + 1, 1, none⟩ = some (.int .i64 0) := (hN6.want.cell 1).trans rfl
          have a2 : W6.cell? ⟨zr + 1, 2, none⟩ = some (.int .i64 0) := (hN6.want.cell 2).trans rfl
          have a3 : W6.cell? ⟨zr + 1, 3, none⟩ = some (.string ⟨#[]⟩) := (hN6.want.cell 3).trans rfl
          have a4 : W6.cell? ⟨zr + 1, 4, none⟩ = some (.int .i64 0) := (hN6.want.cell 4).trans rfl
          have a5 : W6.cell? ⟨zr + 1, 5, none⟩ = some (.int .i64 0) := (hN6.want.cell 5).trans rfl
          have a6 : W6.cell? ⟨zr + 1, 6, none⟩ = some (.string ⟨#[]⟩) := (hN6.want.cell 6).trans rfl
          have b0 : W6.cell? ⟨y, 0, none⟩ = some (.int .i64 1) := (hy6.cell 0).trans rfl
          have b1 : W6.cell? ⟨y, 1, none⟩ = some (.int .i64 0) := (hy6.cell 1).trans rfl
          have b2 : W6.cell? ⟨y, 2, none⟩ = some (.int .i64 0) := (hy6.cell 2).trans rfl
          have b3 : W6.cell? ⟨y, 3, none⟩ = some (.string ⟨#[]⟩) := (hy6.cell 3).trans rfl
          have b4 : W6.cell? ⟨y, 4, none⟩ = some (.int .i64 0) := (hy6.cell 4).trans rfl
          have b5 : W6.cell? ⟨y, 5, none⟩ = some (.int .i64 0) := (hy6.cell 5).trans rfl
          have b6 : W6.cell? ⟨y, 6, none⟩ = some (.string ⟨#[]⟩) := (hy6.cell 6).trans rfl
          have c0 : W6.cell? ⟨x, 0, none⟩ = some (.int .i64 1) := (hx6.cell 0).trans rfl
          have c1 : W6.cell? ⟨x, 1, none⟩ = some (.int .i64 0) := (hx6.cell 1).trans rfl
          have c2 : W6.cell? ⟨x, 2, none⟩ = some (.int .i64 0) := (hx6.cell 2).trans rfl
          have c3 : W6.cell? ⟨x, 3, none⟩ = some (.string ⟨#[]⟩) := (hx6.cell 3).trans rfl
          have c4 : W6.cell? ⟨x, 4, none⟩ = some (.int .i64 0) := (hx6.cell 4).trans rfl
          have c5 : W6.cell? ⟨x, 5, none⟩ = some (.int .i64 0) := (hx6.cell 5).trans rfl
          have c6 : W6.cell? ⟨x, 6, none⟩ = some (.string ⟨#[]⟩) := (hx6.cell 6).trans rfl
          clear hN6 hy6 hx6 hx HN5 HY5 HN4 HY4
          go_wp2
          go_roundw
          case rel => exact ⟨j + 1, by go_num, by omega, HB.out.trans (HN6.out.bel.mono HB.out.size), HZA.out.below HN6.out.bel HZL.out⟩
          case measure => simp [intOf]; omega
        · go_upto_region 21 with fail
          refine name_world (fun W => NilSt wr W zr (stepL 2 s f q (.slice ao xs.length cv) l) 1) ?_ ?_
          · exact HN.out
          intro W2 hN2
          have HN := hide hN2
          have d0 : W2.cell? ⟨zr, 0, none⟩ = some (.int .i64 2) := (HN.out.step.cell 0).trans rfl
          have d1 : W2.cell? ⟨zr, 1, none⟩ = some (.int .i64 s) := (HN.out.step.cell 1).trans rfl
          have d2 : W2.cell? ⟨zr, 2, none⟩ = some (.int .i64 f) := (HN.out.step.cell 2).trans rfl
          have d3 : W2.cell? ⟨zr, 3, none⟩ = some (.int .i64 q) := (HN.out.step.cell 3).trans rfl
          have d4 : W2.cell? ⟨zr, 4, none⟩ = some (.slice ao xs.length cv) := (HN.out.step.cell 4).trans rfl
          have d5 : W2.cell? ⟨zr, 5, none⟩ = some (.bool l) := (HN.out.step.cell 5).trans rfl
          clear hN2
          go_upto_region 22 with (go_at_call 9; refine (asked_cells _ none (.inl rfl) _ _ _ _ _ xs _ 1 HE.out (HV.out W2 (HB.out.trans (HN.out.bel.mono HB.out.size))) HLEN.out).mono ?_; rintro e w3 ⟨rfl, hb3⟩; have HN3 := hide (HN.out.below hb3); clear hb3)
          clear d0 d1 d2 d3 d4 d5
          refine name_world (fun W => ∃ y, y = w3.heap.size ∧ NilSt wr W zr (stepL 2 s f q (.slice ao xs.length cv) l) 1 ∧ Blk W y #[.int .i64 1, .int .i64 0, .int .i64 0, .string ⟨#[]⟩, .int .i64 0, .int .i64 0, .string ⟨#[]⟩] 39) ⟨_, rfl, HN3.out.below (below_alloc _ _), Blk.made _ _ _⟩ ?_
          rintro W4 ⟨y, hy, hN4, hy4⟩
          rw [← hy]
          have HN4 := hide hN4
          have HY4 := hide hy4
          have d0 : W4.cell? ⟨zr, 0, none⟩ = some (.int .i64 2) := (hN4.step.cell 0).trans rfl
          have d1 : W4.cell? ⟨zr, 1, none⟩ = some (.int .i64 s) := (hN4.step.cell 1).trans rfl
          have d2 : W4.cell? ⟨zr, 2, none⟩ = some (.int .i64 f) := (hN4.step.cell 2).trans rfl
          have d3 : W4.cell? ⟨zr, 3, none⟩ = some (.int .i64 q) := (hN4.step.cell 3).trans rfl
          have d4 : W4.cell? ⟨zr, 4, none⟩ = some (.slice ao xs.length cv) := (hN4.step.cell 4).trans rfl
          have d5 : W4.cell? ⟨zr, 5, none⟩ = some (.bool l) := (hN4.step.cell 5).trans rfl
          clear hN4 hy4 hy HN3 HN
          go_upto_region 23 with (go_at_call 9; refine (asked_cells _ _ (.inr ⟨_, rfl, HZA.out.below HN4.out.bel HZL.out⟩) _ _ _ _ _ xs _ 1 HE.out (HV.out W4 (HB.out.trans (HN4.out.bel.mono HB.out.size))) HLEN.out).mono ?_; rintro e w5 ⟨rfl, hb5⟩; have HN5 := hide (HN4.out.below hb5); have HY5 := hide (HY4.out.below hb5 HY4.out.lt); clear hb5)
          clear d0 d1 d2 d3 d4 d5
          refine name_world (fun W => ∃ x, x = w5.heap.size ∧ NilSt wr W zr (stepL 2 s f q (.slice ao xs.length cv) l) 1 ∧ Blk W y #[.int .i64 1, .int .i64 0, .int .i64 0, .string ⟨#[]⟩, .int .i64 0, .int .i64 0, .string ⟨#[]⟩] 39 ∧ Blk W x #[.int .i64 1, .int .i64 0, .int .i64 0, .string ⟨#[]⟩, .int .i64 0, .int .i64 0, .string ⟨#[]⟩] 39) ⟨_, rfl, HN5.out.below (below_alloc _ _), HY5.out.alloc _, Blk.made _ _ _⟩ ?_
          rintro W6 ⟨x, hx, hN6, hy6, hx6⟩
          rw [← hx]
          have HN6 := hide hN6
          have a0 : W6.cell? ⟨zr + 1, 0, none⟩ = some (.int .i64 1) := (hN6.want.cell 0).trans rfl
          have a1 : W6.cell? ⟨zr + 1, 1, none⟩ = some (.int .i64 0) := (hN6.want.cell 1).trans rfl
          have a2 : W6.cell? ⟨zr + 1, 2, none⟩ = some (.int .i64 0) := (hN6.want.cell 2).trans rfl
          have a3 : W6.cell? ⟨zr + 1, 3, none⟩ = some (.string ⟨#[]⟩) := (hN6.want.cell 3).trans rfl
          have a4 : W6.cell? ⟨zr + 1, 4, none⟩ = some (.int .i64 0) := (hN6.want.cell 4).trans rfl
          have a5 : W6.cell? ⟨zr + 1, 5, none⟩ = some (.int .i64 0) := (hN6.want.cell 5).trans rfl
          have a6 : W6.cell? ⟨zr + 1, 6, none⟩ = some (.string ⟨#[]⟩) := (hN6.want.cell 6).trans rfl
          have b0 : W6.cell? ⟨y, 0, none⟩ = some (.int .i64 1) := (hy6.cell 0).trans rfl
          have b1 : W6.cell? ⟨y, 1, none⟩ = some (.int .i64 0) := (hy6.cell 1).trans rfl
          have b2 : W6.cell? ⟨y, 2, none⟩ = some (.int .i64 0) := (hy6.cell 2).trans rfl
          have b3 : W6.cell? ⟨y, 3, none⟩ = some (.string ⟨#[]⟩) := (hy6.cell 3).trans rfl
          have b4 : W6.cell? ⟨y, 4, none⟩ = some (.int .i64 0) := (hy6.cell 4).trans rfl
          have b5 : W6.cell? ⟨y, 5, none⟩ = some (.int .i64 0) := (hy6.cell 5).trans rfl
          have b6 : W6.cell? ⟨y, 6, none⟩ = some (.string ⟨#[]⟩) := (hy6.cell 6).trans rfl
          have c0 : W6.cell? ⟨x, 0, none⟩ = some (.int .i64 1) := (hx6.cell 0).trans rfl
          have c1 : W6.cell? ⟨x, 1, none⟩ = some (.int .i64 0) := (hx6.cell 1).trans rfl
          have c2 : W6.cell? ⟨x, 2, none⟩ = some (.int .i64 0) := (hx6.cell 2).trans rfl
          have c3 : W6.cell? ⟨x, 3, none⟩ = some (.string ⟨#[]⟩) := (hx6.cell 3).trans rfl
          have c4 : W6.cell? ⟨x, 4, none⟩ = some (.int .i64 0) := (hx6.cell 4).trans rfl
          have c5 : W6.cell? ⟨x, 5, none⟩ = some (.int .i64 0) := (hx6.cell 5).trans rfl
          have c6 : W6.cell? ⟨x, 6, none⟩ = some (.string ⟨#[]⟩) := (hx6.cell 6).trans rfl
          clear hN6 hy6 hx6 hx HN5 HY5 HN4 HY4
          go_wp2
          go_roundw
          case rel => exact ⟨j + 1, by go_num, by omega, HB.out.trans (HN6.out.bel.mono HB.out.size), HZA.out.below HN6.out.bel HZL.out⟩
          case measure => simp [intOf]; omega
        · go_upto_region 21 with fail
          refine name_world (fun W => NilSt wr W zr (stepL 3 s f q (.slice ao xs.length cv) l) 1) ?_ ?_
          · exact HN.out
          intro W2 hN2
          have HN := hide hN2
          have d0 : W2.cell? ⟨zr, 0, none⟩ = some (.int .i64 3) := (HN.out.step.cell 0).trans rfl
          have d1 : W2.cell? ⟨zr, 1, none⟩ = some (.int .i64 s) := (HN.out.step.cell 1).trans rfl
          have d2 : W2.cell? ⟨zr, 2, none⟩ = some (.int .i64 f) := (HN.out.step.cell 2).trans rfl
          have d3 : W2.cell? ⟨zr, 3, none⟩ = some (.int .i64 q) := (HN.out.step.cell 3).trans rfl
          have d4 : W2.cell? ⟨zr, 4, none⟩ = some (.slice ao xs.length cv) := (HN.out.step.cell 4).trans rfl
          have d5 : W2.cell? ⟨zr, 5, none⟩ = some (.bool l) := (HN.out.step.cell 5).trans rfl
          clear hN2
          go_upto_region 22 with (go_at_call 9; refine (asked_cells _ none (.inl rfl) _ _ _ _ _ xs _ 1 HE.out (HV.out W2 (HB.out.trans (HN.out.bel.mono HB.out.size))) HLEN.out).mono ?_; rintro e w3 ⟨rfl, hb3⟩; have HN3 := hide (HN.out.below hb3); clear hb3)
          clear d0 d1 d2 d3 d4 d5
          refine name_world (fun W => ∃ y, y = w3.heap.size ∧ NilSt wr W zr (stepL 3 s f q (.slice ao xs.length cv) l) 1 ∧ Blk W y #[.int .i64 1, .int .i64 0, .int .i64 0, .string ⟨#[]⟩, .int .i64 0, .int .i64 0, .string ⟨#[]⟩] 39) ⟨_, rfl, HN3.out.below (below_alloc _ _), Blk.made _ _ _⟩ ?_
          rintro W4 ⟨y, hy, hN4, hy4⟩
          rw [← hy]
          have HN4 := hide hN4
          have HY4 := hide hy4
          have d0 : W4.cell? ⟨zr, 0, none⟩ = some (.int .i64 3) := (hN4.step.cell 0).trans rfl
          have d1 : W4.cell? ⟨zr, 1, none⟩ = some (.int .i64 s) := (hN4.step.cell 1).trans rfl
          have d2 : W4.cell? ⟨zr, 2, none⟩ = some (.int .i64 f) := (hN4.step.cell 2).trans rfl
          have d3 : W4.cell? ⟨zr, 3, none⟩ = some (.int .i64 q) := (hN4.step.cell 3).trans rfl
          have d4 : W4.cell? ⟨zr, 4, none⟩ = some (.slice ao xs.length cv) := (hN4.step.cell 4).trans rfl
          have d5 : W4.cell? ⟨zr, 5, none⟩ = some (.bool l) := (hN4.step.cell 5).trans rfl
          clear hN4 hy4 hy HN3 HN
          go_upto_region 23 with (go_at_call 9; refine (asked_cells _ _ (.inr ⟨_, rfl, HZA.out.below HN4.out.bel HZL.out⟩) _ _ _ _ _ xs _ 1 HE.out (HV.out W4 (HB.out.trans (HN4.out.bel.mono HB.out.size))) HLEN.out).mono ?_; rintro e w5 ⟨rfl, hb5⟩; have HN5 := hide (HN4.out.below hb5); have HY5 := hide (HY4.out.below hb5 HY4.out.lt); clear hb5)
          clear d0 d1 d2 d3 d4 d5
          refine name_world (fun W => ∃ x, x = w5.heap.size ∧ NilSt wr W zr (stepL 3 s f q (.slice ao xs.length cv) l) 1 ∧ Blk W y #[.int .i64 1, .int .i64 0, .int .i64 0, .string ⟨#[]⟩, .int .i64 0, .int .i64 0, .string ⟨#[]⟩] 39 ∧ Blk W x #[.int .i64 1, .int .i64 0, .int .i64 0, .string ⟨#[]⟩, .int .i64 0, .int .i64 0, .string ⟨#[]⟩] 39) ⟨_, rfl, HN5.out.below (below_alloc _ _), HY5.out.alloc _, Blk.made _ _ _⟩ ?_
          rintro W6 ⟨x, hx, hN6, hy6, hx6⟩
          rw [← hx]
          have HN6 := hide hN6
          have a0 : W6.cell? ⟨zr + 1, 0, none⟩ = some (.int .i64 1) := (hN6.want.cell 0).trans rfl
          have a1 : W6.cell? ⟨zr + 1, 1, none⟩ = some (.int .i64 0) := (hN6.want.cell 1).trans rfl
          have a2 : W6.cell? ⟨zr + 1, 2, none⟩ = some (.int .i64 0) := (hN6.want.cell 2).trans rfl
          have a3 : W6.cell? ⟨zr + 1, 3, none⟩ = some (.string ⟨#[]⟩) := (hN6.want.cell 3).trans rfl
          have a4 : W6.cell? ⟨zr + 1, 4, none⟩ = some (.int .i64 0) := (hN6.want.cell 4).trans rfl
          have a5 : W6.cell? ⟨zr + 1, 5, none⟩ = some (.int .i64 0) := (hN6.want.cell 5).trans rfl
          have a6 : W6.cell? ⟨zr + 1, 6, none⟩ = some (.string ⟨#[]⟩) := (hN6.want.cell 6).trans rfl
          have b0 : W6.cell? ⟨y, 0, none⟩ = some (.int .i64 1) := (hy6.cell 0).trans rfl
          have b1 : W6.cell? ⟨y, 1, none⟩ = some (.int .i64 0) := (hy6.cell 1).trans rfl
          have b2 : W6.cell? ⟨y, 2, none⟩ = some (.int .i64 0) := (hy6.cell 2).trans rfl
          have b3 : W6.cell? ⟨y, 3, none⟩ = some (.string ⟨#[]⟩) := (hy6.cell 3).trans rfl
          have b4 : W6.cell? ⟨y, 4, none⟩ = some (.int .i64 0) := (hy6.cell 4).trans rfl
          have b5 : W6.cell? ⟨y, 5, none⟩ = some (.int .i64 0) := (hy6.cell 5).trans rfl
          have b6 : W6.cell? ⟨y, 6, none⟩ = some (.string ⟨#[]⟩) := (hy6.cell 6).trans rfl
          have c0 : W6.cell? ⟨x, 0, none⟩ = some (.int .i64 1) := (hx6.cell 0).trans rfl
          have c1 : W6.cell? ⟨x, 1, none⟩ = some (.int .i64 0) := (hx6.cell 1).trans rfl
          have c2 : W6.cell? ⟨x, 2, none⟩ = some (.int .i64 0) := (hx6.cell 2).trans rfl
          have c3 : W6.cell? ⟨x, 3, none⟩ = some (.string ⟨#[]⟩) := (hx6.cell 3).trans rfl
          have c4 : W6.cell? ⟨x, 4, none⟩ = some (.int .i64 0) := (hx6.cell 4).trans rfl
          have c5 : W6.cell? ⟨x, 5, none⟩ = some (.int .i64 0) := (hx6.cell 5).trans rfl
          have c6 : W6.cell? ⟨x, 6, none⟩ = some (.string ⟨#[]⟩) := (hx6.cell 6).trans rfl
          clear hN6 hy6 hx6 hx HN5 HY5 HN4 HY4
          go_wp2
          go_roundw
          case rel => exact ⟨j + 1, by go_num, by omega, HB.out.trans (HN6.out.bel.mono HB.out.size), HZA.out.below HN6.out.bel HZL.out⟩
          case measure => simp [intOf]; omega
        · go_upto_region 21 with fail
          refine name_world (fun W => NilSt wr W zr (stepL 4 s f q (.slice ao xs.length cv) l) 1) ?_ ?_
          · exact HN.out
          intro W2 hN2
          have HN := hide hN2
          have d0 : W2.cell? ⟨zr, 0, none⟩ = some (.int .i64 4) := (HN.out.step.cell 0).trans rfl
          have d1 : W2.cell? ⟨zr, 1, none⟩ = some (.int .i64 s) := (HN.out.step.cell 1).trans rfl
          have d2 : W2.cell? ⟨zr, 2, none⟩ = some (.int .i64 f) := (HN.out.step.cell 2).trans rfl
          have d3 : W2.cell? ⟨zr, 3, none⟩ = some (.int .i64 q) := (HN.out.step.cell 3).trans rfl
          have d4 : W2.cell? ⟨zr, 4, none⟩ = some (.slice ao xs.length cv) := (HN.out.step.cell 4).trans rfl
          have d5 : W2.cell? ⟨zr, 5, none⟩ = some (.bool l) := (HN.out.step.cell 5).trans rfl
          clear hN2
          go_upto_region 22 with (go_at_call 9; refine (asked_cells _ none (.inl rfl) _ _ _ _ _ xs _ 1 HE.out (HV.out W2 (HB.out.trans (HN.out.bel.mono HB.out.size))) HLEN.out).mono ?_; rintro e w3 ⟨rfl, hb3⟩; have HN3 := hide (HN.out.below hb3); clear hb3)
          clear d0 d1 d2 d3 d4 d5
          refine name_world (fun W => ∃ y, y = w3.heap.size ∧ NilSt wr W zr (stepL 4 s f q (.slice ao xs.length cv) l) 1 ∧ Blk W y #[.int .i64 1, .int .i64 0, .int .i64 0, .string ⟨#[]⟩, .int .i64 0, .int .i64 0, .string ⟨#[]⟩] 39) ⟨_, rfl, HN3.out.below (below_alloc _ _), Blk.made _ _ _⟩ ?_
          rintro W4 ⟨y, hy, hN4, hy4⟩
          rw [← hy]
          have HN4 := hide hN4
          have HY4 := hide hy4
          have d0 : W4.cell? ⟨zr, 0, none⟩ = some (.int .i64 4) := (hN4.step.cell 0).trans rfl
          have d1 : W4.cell? ⟨zr, 1, none⟩ = some (.int .i64 s) := (hN4.step.cell 1).trans rfl
          have d2 : W4.cell? ⟨zr, 2, none⟩ = some (.int .i64 f) := (hN4.step.cell 2).trans rfl
          have d3 : W4.cell? ⟨zr, 3, none⟩ = some (.int .i64 q) := (hN4.step.cell 3).trans rfl
          have d4 : W4.cell? ⟨zr, 4, none⟩ = some (.slice ao xs.length cv) := (hN4.step.cell 4).trans rfl
          have d5 : W4.cell? ⟨zr, 5, none⟩ = some (.bool l) := (hN4.step.cell 5).trans rfl
          clear hN4 hy4 hy HN3 HN
          go_upto_region 23 with (go_at_call 9; refine (asked_cells _ _ (.inr ⟨_, rfl, HZA.out.below HN4.out.bel HZL.out⟩) _ _ _ _ _ xs _ 1 HE.out (HV.out W4 (HB.out.trans (HN4.out.bel.mono HB.out.size))) HLEN.out).mono ?_; rintro e w5 ⟨rfl, hb5⟩; have HN5 := hide (HN4.out.below hb5); have HY5 := hide (HY4.out.below hb5 HY4.out.lt); clear hb5)
          clear d0 d1 d2 d3 d4 d5
          refine name_world (fun W => ∃ x, x = w5.heap.size ∧ NilSt wr W zr (stepL 4 s f q (.slice ao xs.length cv) l) 1 ∧ Blk W y #[.int .i64 1, .int .i64 0, .int .i64 0, .string ⟨#[]⟩, .int .i64 0, .int .i64 0, .string ⟨#[]⟩] 39 ∧ Blk W x #[.int .i64 1, .int .i64 0, .int .i64 0, .string ⟨#[]⟩, .int .i64 0, .int .i64 0, .string ⟨#[]⟩] 39) ⟨_, rfl, HN5.out.below (below_alloc _ _), HY5.out.alloc _, Blk.made _ _ _⟩ ?_
          rintro W6 ⟨x, hx, hN6, hy6, hx6⟩
          rw [← hx]
          have HN6 := hide hN6
          have a0 : W6.cell? ⟨zr + 1, 0, none⟩ = some (.int .i64 1) := (hN6.want.cell 0).trans rfl
          have a1 : W6.cell? ⟨zr + 1, 1, none⟩ = some (.int .i64 0) := (hN6.want.cell 1).trans rfl
          have a2 : W6.cell? ⟨zr + 1, 2, none⟩ = some (.int .i64 0) := (hN6.want.cell 2).trans rfl
          have a3 : W6.cell? ⟨zr + 1, 3, none⟩ = some (.string ⟨#[]⟩) := (hN6.want.cell 3).trans rfl
          have a4 : W6.cell? ⟨zr + 1, 4, none⟩ = some (.int .i64 0) := (hN6.want.cell 4).trans rfl
          have a5 : W6.cell? ⟨zr + 1, 5, none⟩ = some (.int .i64 0) := (hN6.want.cell 5).trans rfl
          have a6 : W6.cell? ⟨zr + 1, 6, none⟩ = some (.string ⟨#[]⟩) := (hN6.want.cell 6).trans rfl
          have b0 : W6.cell? ⟨y, 0, none⟩ = some (.int .i64 1) := (hy6.cell 0).trans rfl
          have b1 : W6.cell? ⟨y, 1, none⟩ = some (.int .i64 0) := (hy6.cell 1).trans rfl
          have b2 : W6.cell? ⟨y, 2, none⟩ = some (.int .i64 0) := (hy6.cell 2).trans rfl
          have b3 : W6.cell? ⟨y, 3, none⟩ = some (.string ⟨#[]⟩) := (hy6.cell 3).trans rfl
          have b4 : W6.cell? ⟨y, 4, none⟩ = some (.int .i64 0) := (hy6.cell 4).trans rfl
          have b5 : W6.cell? ⟨y, 5, none⟩ = some (.int .i64 0) := (hy6.cell 5).trans rfl
          have b6 : W6.cell? ⟨y, 6, none⟩ = some (.string ⟨#[]⟩) := (hy6.cell 6).trans rfl
          have c0 : W6.cell? ⟨x, 0, none⟩ = some (.int .i64 1) := (hx6.cell 0).trans rfl
          have c1 : W6.cell? ⟨x, 1, none⟩ = some (.int .i64 0) := (hx6.cell 1).trans rfl
          have c2 : W6.cell? ⟨x, 2, none⟩ = some (.int .i64 0) := (hx6.cell 2).trans rfl
          have c3 : W6.cell? ⟨x, 3, none⟩ = some (.string ⟨#[]⟩) := (hx6.cell 3).trans rfl
          have c4 : W6.cell? ⟨x, 4, none⟩ = some (.int .i64 0) := (hx6.cell 4).trans rfl
          have c5 : W6.cell? ⟨x, 5, none⟩ = some (.int .i64 0) := (hx6.cell 5).trans rfl
          have c6 : W6.cell? ⟨x, 6, none⟩ = some (.string ⟨#[]⟩) := (hx6.cell 6).trans rfl
          clear hN6 hy6 hx6 hx HN5 HY5 HN4 HY4
          go_wp2
          go_roundw
          case rel => exact ⟨j + 1, by go_num, by omega, HB.out.trans (HN6.out.bel.mono HB.out.size), HZA.out.below HN6.out.bel HZL.out⟩
          case measure => simp [intOf]; omega
        · go_upto_region 21 with fail
          refine name_world (fun W => NilSt wr W zr (stepL 5 s f q (.slice ao xs.length cv) l) 1) ?_ ?_
          · exact HN.out
          intro W2 hN2
          have HN := hide hN2
          have d0 : W2.cell? ⟨zr, 0, none⟩ = some (.int .i64 5) := (HN.out.step.cell 0).trans rfl
          have d1 : W2.cell? ⟨zr, 1, none⟩ = some (.int .i64 s) := (HN.out.step.cell 1).trans rfl
          have d2 : W2.cell? ⟨zr, 2, none⟩ = some (.int .i64 f) := (HN.out.step.cell 2).trans rfl
          have d3 : W2.cell? ⟨zr, 3, none⟩ = some (.int .i64 q) := (HN.out.step.cell 3).trans rfl
          have d4 : W2.cell? ⟨zr, 4, none⟩ = some (.slice ao xs.length cv) := (HN.out.step.cell 4).trans rfl
          have d5 : W2.cell? ⟨zr, 5, none⟩ = some (.bool l) := (HN.out.step.cell 5).trans rfl
          clear hN2
          go_upto_region 22 with (go_at_call 9; refine (asked_cells _ none (.inl rfl) _ _ _ _ _ xs _ 1 HE.out (HV.out W2 (HB.out.trans (HN.out.bel.mono HB.out.size))) HLEN.out).mono ?_; rintro e w3 ⟨rfl, hb3⟩; have HN3 := hide (HN.out.below hb3); clear hb3)
          clear d0 d1 d2 d3 d4 d5
          refine name_world (fun W => ∃ y, y = w3.heap.size ∧ NilSt wr W zr (stepL 5 s f q (.slice ao xs.length cv) l) 1 ∧ Blk W y #[.int .i64 1, .int .i64 0, .int .i64 0, .string ⟨#[]⟩, .int .i64 0, .int .i64 0, .string ⟨#[]⟩] 39) ⟨_, rfl, HN3.out.below (below_alloc _ _), Blk.made _ _ _⟩ ?_
          rintro W4 ⟨y, hy, hN4, hy4⟩
          rw [← hy]
          have HN4 := hide hN4
          have HY4 := hide hy4
          have d0 : W4.cell? ⟨zr, 0, none⟩ = some (.int .i64 5) := (hN4.step.cell 0).trans rfl
          have d1 : W4.cell? ⟨zr, 1, none⟩ = some (.int .i64 s) := (hN4.step.cell 1).trans rfl
          have d2 : W4.cell? ⟨zr, 2, none⟩ = some (.int .i64 f) := (hN4.step.cell 2).trans rfl
          have d3 : W4.cell? ⟨zr, 3, none⟩ = some (.int .i64 q) := (hN4.step.cell 3).trans rfl
          have d4 : W4.cell? ⟨zr, 4, none⟩ = some (.slice ao xs.length cv) := (hN4.step.cell 4).trans rfl
          have d5 : W4.cell? ⟨zr, 5, none⟩ = some (.bool l) := (hN4.step.cell 5).trans rfl
          clear hN4 hy4 hy HN3 HN
          go_upto_region 23 with (go_at_call 9; refine (asked_cells _ _ (.inr ⟨_, rfl, HZA.out.below HN4.out.bel HZL.out⟩) _ _ _ _ _ xs _ 1 HE.out (HV.out W4 (HB.out.trans (HN4.out.bel.mono HB.out.size))) HLEN.out).mono ?_; rintro e w5 ⟨rfl, hb5⟩; have HN5 := hide (HN4.out.below hb5); have HY5 := hide (HY4.out.below hb5 HY4.out.lt); clear hb5)
          clear d0 d1 d2 d3 d4 d5
          refine name_world (fun W => ∃ x, x = w5.heap.size ∧ NilSt wr W zr (stepL 5 s f q (.slice ao xs.length cv) l) 1 ∧ Blk W y #[.int .i64 1, .int .i64 0, .int .i64 0, .string ⟨#[]⟩, .int .i64 0, .int .i64 0, .string ⟨#[]⟩] 39 ∧ Blk W x #[.int .i64 1, .int .i64 0, .int .i64 0, .string ⟨#[]⟩, .int .i64 0, .int .i64 0, .string ⟨#[]⟩] 39) ⟨_, rfl, HN5.out.below (below_alloc _ _), HY5.out.alloc _, Blk.made _ _ _⟩ ?_
          rintro W6 ⟨x, hx, hN6, hy6, hx6⟩
          rw [← hx]
          have HN6 := hide hN6
          have a0 : W6.cell? ⟨zr + 1, 0, none⟩ = some (.int .i64 1) := (hN6.want.cell 0).trans rfl
          have a1 : W6.cell? ⟨zr + 1, 1, none⟩ = some (.int .i64 0) := (hN6.want.cell 1).trans rfl
          have a2 : W6.cell? ⟨zr + 1, 2, none⟩ = some (.int .i64 0) := (hN6.want.cell 2).trans rfl
          have a3 : W6.cell? ⟨zr + 1, 3, none⟩ = some (.string ⟨#[]⟩) := (hN6.want.cell 3).trans rfl
          have a4 : W6.cell? ⟨zr + 1, 4, none⟩ = some (.int .i64 0) := (hN6.want.cell 4).trans rfl
          have a5 : W6.cell? ⟨zr + 1, 5, none⟩ = some (.int .i64 0) := (hN6.want.cell 5).trans rfl
          have a6 : W6.cell? ⟨zr + 1, 6, none⟩ = some (.string ⟨#[]⟩) := (hN6.want.cell 6).trans rfl
          have b0 : W6.cell? ⟨y, 0, none⟩ = some (.int .i64 1) := (hy6.cell 0).trans rfl
          have b1 : W6.cell? ⟨y, 1, none⟩ = some (.int .i64 0) := (hy6.cell 1).trans rfl
          have b2 : W6.cell? ⟨y, 2, none⟩ = some (.int .i64 0) := (hy6.cell 2).trans rfl
          have b3 : W6.cell? ⟨y, 3, none⟩ = some (.string ⟨#[]⟩) := (hy6.cell 3).trans rfl
          have b4 : W6.cell? ⟨y, 4, none⟩ = some (.int .i64 0) := (hy6.cell 4).trans rfl
          have b5 : W6.cell? ⟨y, 5, none⟩ = some (.int .i64 0) := (hy6.cell 5).trans rfl
          have b6 : W6.cell? ⟨y, 6, none⟩ = some (.string ⟨#[]⟩) := (hy6.cell 6).trans rfl
          have c0 : W6.cell? ⟨x, 0, none⟩ = some (.int .i64 1) := (hx6.cell 0).trans rfl
          have c1 : W6.cell? ⟨x, 1, none⟩ = some (.int .i64 0) := (hx6.cell 1).trans rfl
          have c2 : W6.cell? ⟨x, 2, none⟩ = some (.int .i64 0) := (hx6.cell 2).trans rfl
          have c3 : W6.cell? ⟨x, 3, none⟩ = some (.string ⟨#[]⟩) := (hx6.cell 3).trans rfl
          have c4 : W6.cell? ⟨x, 4, none⟩ = some (.int .i64 0) := (hx6.cell 4).trans rfl
          have c5 : W6.cell? ⟨x, 5, none⟩ = some (.int .i64 0) := (hx6.cell 5).trans rfl
          have c6 : W6.cell? ⟨x, 6, none⟩ = some (.string ⟨#[]⟩) := (hx6.cell 6).trans rfl
          clear hN6 hy6 hx6 hx HN5 HY5 HN4 HY4
          go_wp2
          go_roundw
          case rel => exact ⟨j + 1, by go_num, by omega, HB.out.trans (HN6.out.bel.mono HB.out.size), HZA.out.below HN6.out.bel HZL.out⟩
          case measure => simp [intOf]; omega
        · go_upto_region 21 with fail
          refine name_world (fun W => NilSt wr W zr (stepL 6 s f q (.slice ao xs.length cv) l) 1) ?_ ?_
          · exact HN.out
          intro W2 hN2
          have HN := hide hN2
          have d0 : W2.cell? ⟨zr, 0, none⟩ = some (.int .i64 6) := (HN.out.step.cell 0).trans rfl
          have d1 : W2.cell? ⟨zr, 1, none⟩ = some (.int .i64 s) := (HN.out.step.cell 1).trans rfl
          have d2 : W2.cell? ⟨zr, 2, none⟩ = some (.int .i64 f) := (HN.out.step.cell 2).trans rfl
          have d3 : W2.cell? ⟨zr, 3, none⟩ = some (.int .i64 q) := (HN.out.step.cell 3).trans rfl
          have d4 : W2.cell? ⟨zr, 4, none⟩ = some (.slice ao xs.length cv) := (HN.out.step.cell 4).trans rfl
          have d5 : W2.cell? ⟨zr, 5, none⟩ = some (.bool l) := (HN.out.step.cell 5).trans rfl
          clear hN2
          go_upto_region 22 with (go_at_call 9; refine (asked_cells _ none (.inl rfl) _ _ _ _ _ xs _ 1 HE.out (HV.out W2 (HB.out.trans (HN.out.bel.mono HB.out.size))) HLEN.out).mono ?_; rintro e w3 ⟨rfl, hb3⟩; have HN3 := hide (HN.out.below hb3); clear hb3)
          clear d0 d1 d2 d3 d4 d5
          refine name_world (fun W => ∃ y, y = w3.heap.size ∧ NilSt wr W zr (stepL 6 s f q (.slice ao xs.length cv) l) 1 ∧ Blk W y #[.int .i64 1, .int .i64 0, .int .i64 0, .string ⟨#[]⟩, .int .i64 0, .int .i64 0, .string ⟨#[]⟩] 39) ⟨_, rfl, HN3.out.below (below_alloc _ _), Blk.made _ _ _⟩ ?_
          rintro W4 ⟨y, hy, hN4, hy4⟩
          rw [← hy]
          have HN4 := hide hN4
          have HY4 := hide hy4
          have d0 : W4.cell? ⟨zr, 0, none⟩ = some (.int .i64 6) := (hN4.step.cell 0).trans rfl
          have d1 : W4.cell? ⟨zr, 1, none⟩ = some (.int .i64 s) := (hN4.step.cell 1).trans rfl
          have d2 : W4.cell? ⟨zr, 2, none⟩ = some (.int .i64 f) := (hN4.step.cell 2).trans rfl
          have d3 : W4.cell? ⟨zr, 3, none⟩ = some (.int .i64 q) := (hN4.step.cell 3).trans rfl
          have d4 : W4.cell? ⟨zr, 4, none⟩ = some (.slice ao xs.length cv) := (hN4.step.cell 4).trans rfl
          have d5 : W4.cell? ⟨zr, 5, none⟩ = some (.bool l) := (hN4.step.cell 5).trans rfl
          clear hN4 hy4 hy HN3 HN
          go_upto_region 23 with (go_at_call 9; refine (asked_cells _ _ (.inr ⟨_, rfl, HZA.out.below HN4.out.bel HZL.out⟩) _ _ _ _ _ xs _ 1 HE.out (HV.out W4 (HB.out.trans (HN4.out.bel.mono HB.out.size))) HLEN.out).mono ?_; rintro e w5 ⟨rfl, hb5⟩; have HN5 := hide (HN4.out.below hb5); have HY5 := hide (HY4.out.below hb5 HY4.out.lt); clear hb5)
          clear d0 d1 d2 d3 d4 d5
          refine name_world (fun W => ∃ x, x = w5.heap.size ∧ NilSt wr W zr (stepL 6 s f q (.slice ao xs.length cv) l) 1 ∧ Blk W y #[.int .i64 1, .int .i64 0, .int .i64 0, .string ⟨#[]⟩, .int .i64 0, .int .i64 0, .string ⟨#[]⟩] 39 ∧ Blk W x #[.int .i64 1, .int .i64 0, .int .i64 0, .string ⟨#[]⟩, .int .i64 0, .int .i64 0, .string ⟨#[]⟩] 39) ⟨_, rfl, HN5.out.below (below_alloc _ _), HY5.out.alloc _, Blk.made _ _ _⟩ ?_
          rintro W6 ⟨x, hx, hN6, hy6, hx6⟩
          rw [← hx]
          have HN6 := hide hN6
          have a0 : W6.cell? ⟨zr + 1, 0, none⟩ = some (.int .i64 1) := (hN6.want.cell 0).trans rfl
          have a1 : W6.cell? ⟨zr + 1, 1, none⟩ = some (.int .i64 0) := (hN6.want.cell 1).trans rfl
          have a2 : W6.cell? ⟨zr + 1, 2, none⟩ = some (.int .i64 0) := (hN6.want.cell 2).trans rfl
          have a3 : W6.cell? ⟨zr + 1, 3, none⟩ = some (.string ⟨#[]⟩) := (hN6.want.cell 3).trans rfl
          have a4 : W6.cell? ⟨zr + 1, 4, none⟩ = some (.int .i64 0) := (hN6.want.cell 4).trans rfl
          have a5 : W6.cell? ⟨zr + 1, 5, none⟩ = some (.int .i64 0) := (hN6.want.cell 5).trans rfl
          have a6 : W6.cell? ⟨zr + 1, 6, none⟩ = some (.string ⟨#[]⟩) := (hN6.want.cell 6).trans rfl
          have b0 : W6.cell? ⟨y, 0, none⟩ = some (.int .i64 1) := (hy6.cell 0).trans rfl
          have b1 : W6.cell? ⟨y, 1, none⟩ = some (.int .i64 0) := (hy6.cell 1).trans rfl
          have b2 : W6.cell? ⟨y, 2, none⟩ = some (.int .i64 0) := (hy6.cell 2).trans rfl
          have b3 : W6.cell? ⟨y, 3, none⟩ = some (.string ⟨#[]⟩) := (hy6.cell 3).trans rfl
          have b4 : W6.cell? ⟨y, 4, none⟩ = some (.int .i64 0) := (hy6.cell 4).trans rfl
          have b5 : W6.cell? ⟨y, 5, none⟩ = some (.int .i64 0) := (hy6.cell 5).trans rfl
          have b6 : W6.cell? ⟨y, 6, none⟩ = some (.string ⟨#[]⟩) := (hy6.cell 6).trans rfl
          have c0 : W6.cell? ⟨x, 0, none⟩ = some (.int .i64 1) := (hx6.cell 0).trans rfl
          have c1 : W6.cell? ⟨x, 1, none⟩ = some (.int .i64 0) := (hx6.cell 1).trans rfl
          have c2 : W6.cell? ⟨x, 2, none⟩ = some (.int .i64 0) := (hx6.cell 2).trans rfl
          have c3 : W6.cell? ⟨x, 3, none⟩ = some (.string ⟨#[]⟩) := (hx6.cell 3).trans rfl
          have c4 : W6.cell? ⟨x, 4, none⟩ = some (.int .i64 0) := (hx6.cell 4).trans rfl
          have c5 : W6.cell? ⟨x, 5, none⟩ = some (.int .i64 0) := (hx6.cell 5).trans rfl
          have c6 : W6.cell? ⟨x, 6, none⟩ = some (.string ⟨#[]⟩) := (hx6.cell 6).trans rfl
          clear hN6 hy6 hx6 hx HN5 HY5 HN4 HY4
          go_wp2
          go_roundw
          case rel => exact ⟨j + 1, by go_num, by omega, HB.out.trans (HN6.out.bel.mono HB.out.size), HZA.out.below HN6.out.bel HZL.out⟩
          case measure => simp [intOf]; omega
        · go_upto_region 21 with fail
          refine name_world (fun W => NilSt wr W zr (stepL 7 s f q (.slice ao xs.length cv) l) 1) ?_ ?_
          · exact HN.out
          intro W2 hN2
          have HN := hide hN2
          have d0 : W2.cell? ⟨zr, 0, none⟩ = some (.int .i64 7) := (HN.out.step.cell 0).trans rfl
          have d1 : W2.cell? ⟨zr, 1, none⟩ = some (.int .i64 s) := (HN.out.step.cell 1).trans rfl
          have d2 : W2.cell? ⟨zr, 2, none⟩ = some (.int .i64 f) := (HN.out.step.cell 2).trans rfl
          have d3 : W2.cell? ⟨zr, 3, none⟩ = some (.int .i64 q) := (HN.out.step.cell 3).trans rfl
          have d4 : W2.cell? ⟨zr, 4, none⟩ = some (.slice ao xs.length cv) := (HN.out.step.cell 4).trans rfl
          have d5 : W2.cell? ⟨zr, 5, none⟩ = some (.bool l) := (HN.out.step.cell 5).trans rfl
          clear hN2
          go_upto_region 22 with (go_at_call 9; refine (asked_cells _ none (.inl rfl) _ _ _ _ _ xs _ 1 HE.out (HV.out W2 (HB.out.trans (HN.out.bel.mono HB.out.size))) HLEN.out).mono ?_; rintro e w3 ⟨rfl, hb3⟩; have HN3 := hide (HN.out.below hb3); clear hb3)
          clear d0 d1 d2 d3 d4 d5
          refine name_world (fun W => ∃ y, y = w3.heap.size ∧ NilSt wr W zr (stepL 7 s f q (.slice ao xs.length cv) l) 1 ∧ Blk W y #[.int .i64 1, .int .i64 0, .int .i64 0, .string ⟨#[]⟩, .int .i64 0, .int .i64 0, .string ⟨#[]⟩] 39) ⟨_, rfl, HN3.out.below (below_alloc _ _), Blk.made _ _ _⟩ ?_
          rintro W4 ⟨y, hy, hN4, hy4⟩
          rw [← hy]
          have HN4 := hide hN4
          have HY4 := hide hy4
          have d0 : W4.cell? ⟨zr, 0, none⟩ = some (.int .i64 7) := (hN4.step.cell 0).trans rfl
          have d1 : W4.cell? ⟨zr, 1, none⟩ = some (.int .i64 s) := (hN4.step.cell 1).trans rfl
          have d2 : W4.cell? ⟨zr, 2, none⟩ = some (.int .i64 f) := (hN4.step.cell 2).trans rfl
          have d3 : W4.cell? ⟨zr, 3, none⟩ = some (.int .i64 q) := (hN4.step.cell 3).trans rfl
          have d4 : W4.cell? ⟨zr, 4, none⟩ = some (.slice ao xs.length cv) := (hN4.step.cell 4).trans rfl
          have d5 : W4.cell? ⟨zr, 5, none⟩ = some (.bool l) := (hN4.step.cell 5).trans rfl
          clear hN4 hy4 hy HN3 HN
          go_upto_region 23 with (go_at_call 9; refine (asked_cells _ _ (.inr ⟨_, rfl, HZA.out.below HN4.out.bel HZL.out⟩) _ _ _ _ _ xs _ 1 HE.out (HV.out W4 (HB.out.trans (HN4.out.bel.mono HB.out.size))) HLEN.out).mono ?_; rintro e w5 ⟨rfl, hb5⟩; have HN5 := hide (HN4.out.below hb5); have HY5 := hide (HY4.out.below hb5 HY4.out.lt); clear hb5)
          clear d0 d1 d2 d3 d4 d5
          refine name_world (fun W => ∃ x, x = w5.heap.size ∧ NilSt wr W zr (stepL 7 s f q (.slice ao xs.length cv) l) 1 ∧ Blk W y #[.int .i64 1, .int .i64 0, .int .i64 0, .string ⟨#[]⟩, .int .i64 0, .int .i64 0, .string ⟨#[]⟩] 39 ∧ Blk W x #[.int .i64 1, .int .i64 0, .int .i64 0, .string ⟨#[]⟩, .int .i64 0, .int .i64 0, .string ⟨#[]⟩] 39) ⟨_, rfl, HN5.out.below (below_alloc _ _), HY5.out.alloc _, Blk.made _ _ _⟩ ?_
          rintro W6 ⟨x, hx, hN6, hy6, hx6⟩
          rw [← hx]
          have HN6 := hide hN6
          have a0 : W6.cell? ⟨zr + 1, 0, none⟩ = some (.int .i64 1) := (hN6.want.cell 0).trans rfl
          have a1 : W6.cell? ⟨zr + 1, 1, none⟩ = some (.int .i64 0) := (hN6.want.cell 1).trans rfl
          have a2 : W6.cell? ⟨zr + 1, 2, none⟩ = some (.int .i64 0) := (hN6.want.cell 2).trans rfl
          have a3 : W6.cell? ⟨zr + 1, 3, none⟩ = some (.string ⟨#[]⟩) := (hN6.want.cell 3).trans rfl
          have a4 : W6.cell? ⟨zr + 1, 4, none⟩ = some (.int .i64 0) := (hN6.want.cell 4).trans rfl
          have a5 : W6.cell? ⟨zr + 1, 5, none⟩ = some (.int .i64 0) := (hN6.want.cell 5).trans rfl
          have a6 : W6.cell? ⟨zr + 1, 6, none⟩ = some (.string ⟨#[]⟩) := (hN6.want.cell 6).trans rfl
          have b0 : W6.cell? ⟨y, 0, none⟩ = some (.int .i64 1) := (hy6.cell 0).trans rfl
          have b1 : W6.cell? ⟨y, 1, none⟩ = some (.int .i64 0) := (hy6.cell 1).trans rfl
          have b2 : W6.cell? ⟨y, 2, none⟩ = some (.int .i64 0) := (hy6.cell 2).trans rfl
          have b3 : W6.cell? ⟨y, 3, none⟩ = some (.string ⟨#[]⟩) := (hy6.cell 3).trans rfl
          have b4 : W6.cell? ⟨y, 4, none⟩ = some (.int .i64 0) := (hy6.cell 4).trans rfl
          have b5 : W6.cell? ⟨y, 5, none⟩ = some (.int .i64 0) := (hy6.cell 5).trans rfl
          have b6 : W6.cell? ⟨y, 6, none⟩ = some (.string ⟨#[]⟩) := (hy6.cell 6).trans rfl
          have c0 : W6.cell? ⟨x, 0, none⟩ = some (.int .i64 1) := (hx6.cell 0).trans rfl
          have c1 : W6.cell? ⟨x, 1, none⟩ = some (.int .i64 0) := (hx6.cell 1).trans rfl
          have c2 : W6.cell? ⟨x, 2, none⟩ = some (.int .i64 0) := (hx6.cell 2).trans rfl
          have c3 : W6.cell? ⟨x, 3, none⟩ = some (.string ⟨#[]⟩) := (hx6.cell 3).trans rfl
          have c4 : W6.cell? ⟨x, 4, none⟩ = some (.int .i64 0) := (hx6.cell 4).trans rfl
          have c5 : W6.cell? ⟨x, 5, none⟩ = some (.int .i64 0) := (hx6.cell 5).trans rfl
          have c6 : W6.cell? ⟨x, 6, none⟩ = some (.string ⟨#[]⟩) := (hx6.cell 6).trans rfl
          clear hN6 hy6 hx6 hx HN5 HY5 HN4 HY4
          go_wp2
          go_roundw
          case rel => exact ⟨j + 1, by go_num, by omega, HB.out.trans (HN6.out.bel.mono HB.out.size), HZA.out.below HN6.out.bel HZL.out⟩
          case measure => simp [intOf]; omega
        · go_upto_region 21 with fail
          refine name_world (fun W => NilSt wr W zr (stepL 8 s f q (.slice ao xs.length cv) l) 1) ?_ ?_
          · exact HN.out
          intro W2 hN2
          have HN := hide hN2
          have d0 : W2.cell? ⟨zr, 0, none⟩ = some (.int .i64 8) := (HN.out.step.cell 0).trans rfl
          have d1 : W2.cell? ⟨zr, 1, none⟩ = some (.int .i64 s) := (HN.out.step.cell 1).trans rfl
          have d2 : W2.cell? ⟨zr, 2, none⟩ = some (.int .i64 f) := (HN.out.step.cell 2).trans rfl
          have d3 : W2.cell? ⟨zr, 3, none⟩ = some (.int .i64 q) := (HN.out.step.cell 3).trans rfl
          have d4 : W2.cell? ⟨zr, 4, none⟩ = some (.slice ao xs.length cv) := (HN.out.step.cell 4).trans rfl
          have d5 : W2.cell? ⟨zr, 5, none⟩ = some (.bool l) := (HN.out.step.cell 5).trans rfl
          clear hN2
          go_upto_region 22 with (go_at_call 9; refine (asked_cells _ none (.inl rfl) _ _ _ _ _ xs _ 1 HE.out (HV.out W2 (HB.out.trans (HN.out.bel.mono HB.out.size))) HLEN.out).mono ?_; rintro e w3 ⟨rfl, hb3⟩; have HN3 := hide (HN.out.below hb3); clear hb3)
          clear d0 d1 d2 d3 d4 d5
          refine name_world (fun W => ∃ y, y = w3.heap.size ∧ NilSt wr W zr (stepL 8 s f q (.slice ao xs.length cv) l) 1 ∧ Blk W y #[.int .i64 1, .int .i64 0, .int .i64 0, .string ⟨#[]⟩, .int .i64 0, .int .i64 0, .string ⟨#[]⟩] 39) ⟨_, rfl, HN3.out.below (below_alloc _ _), Blk.made _ _ _⟩ ?_
          rintro W4 ⟨y, hy, hN4, hy4⟩
          rw [← hy]
          have HN4 := hide hN4
          have HY4 := hide hy4
          have d0 : W4.cell? ⟨zr, 0, none⟩ = some (.int .i64 8) := (hN4.step.cell 0).trans rfl
          have d1 : W4.cell? ⟨zr, 1, none⟩ = some (.int .i64 s) := (hN4.step.cell 1).trans rfl
          have d2 : W4.cell? ⟨zr, 2, none⟩ = some (.int .i64 f) := (hN4.step.cell 2).trans rfl
          have d3 : W4.cell? ⟨zr, 3, none⟩ = some (.int .i64 q) := (hN4.step.cell 3).trans rfl
          have d4 : W4.cell? ⟨zr, 4, none⟩ = some (.slice ao xs.length cv) := (hN4.step.cell 4).trans rfl
          have d5 : W4.cell? ⟨zr, 5, none⟩ = some (.bool l) := (hN4.step.cell 5).trans rfl
          clear hN4 hy4 hy HN3 HN
          go_upto_region 23 with (go_at_call 9; refine (asked_cells _ _ (.inr ⟨_, rfl, HZA.out.below HN4.out.bel HZL.out⟩) _ _ _ _ _ xs _ 1 HE.out (HV.out W4 (HB.out.trans (HN4.out.bel.mono HB.out.size))) HLEN.out).mono ?_; rintro e w5 ⟨rfl, hb5⟩; have HN5 := hide (HN4.out.below hb5); have HY5 := hide (HY4.out.below hb5 HY4.out.lt); clear hb5)
          clear d0 d1 d2 d3 d4 d5
          refine name_world (fun W => ∃ x, x = w5.heap.size ∧ NilSt wr W zr (stepL 8 s f q (.slice ao xs.length cv) l) 1 ∧ Blk W y #[.int .i64 1, .int .i64 0, .int .i64 0, .string ⟨#[]⟩, .int .i64 0, .int .i64 0, .string ⟨#[]⟩] 39 ∧ Blk W x #[.int .i64 1, .int .i64 0, .int .i64 0, .string ⟨#[]⟩, .int .i64 0, .int .i64 0, .string ⟨#[]⟩] 39) ⟨_, rfl, HN5.out.below (below_alloc _ _), HY5.out.alloc _, Blk.made _ _ _⟩ ?_
          rintro W6 ⟨x, hx, hN6, hy6, hx6⟩
          rw [← hx]
          have HN6 := hide hN6
          have a0 : W6.cell? ⟨zr + 1, 0, none⟩ = some (.int .i64 1) := (hN6.want.cell 0).trans rfl
          have a1 : W6.cell? ⟨zr + 1, 1, none⟩ = some (.int .i64 0) := (hN6.want.cell 1).trans rfl
          have a2 : W6.cell? ⟨zr + 1, 2, none⟩ = some (.int .i64 0) := (hN6.want.cell 2).trans rfl
          have a3 : W6.cell? ⟨zr + 1, 3, none⟩ = some (.string ⟨#[]⟩) := (hN6.want.cell 3).trans rfl
          have a4 : W6.cell? ⟨zr + 1, 4, none⟩ = some (.int .i64 0) := (hN6.want.cell 4).trans rfl
          have a5 : W6.cell? ⟨zr + 1, 5, none⟩ = some (.int .i64 0) := (hN6.want.cell 5).trans rfl
          have a6 : W6.cell? ⟨zr + 1, 6, none⟩ = some (.string ⟨#[]⟩) := (hN6.want.cell 6).trans rfl
          have b0 : W6.cell? ⟨y, 0, none⟩ = some (.int .i64 1) := (hy6.cell 0).trans rfl
          have b1 : W6.cell? ⟨y, 1, none⟩ = some (.int .i64 0) := (hy6.cell 1).trans rfl
          have b2 : W6.cell? ⟨y, 2, none⟩ = some (.int .i64 0) := (hy6.cell 2).trans rfl
          have b3 : W6.cell? ⟨y, 3, none⟩ = some (.string ⟨#[]⟩) := (hy6.cell 3).trans rfl
          have b4 : W6.cell? ⟨y, 4, none⟩ = some (.int .i64 0) := (hy6.cell 4).trans rfl
          have b5 : W6.cell? ⟨y, 5, none⟩ = some (.int .i64 0) := (hy6.cell 5).trans rfl
          have b6 : W6.cell? ⟨y, 6, none⟩ = some (.string ⟨#[]⟩) := (hy6.cell 6).trans rfl
          have c0 : W6.cell? ⟨x, 0, none⟩ = some (.int .i64 1) := (hx6.cell 0).trans rfl
          have c1 : W6.cell? ⟨x, 1, none⟩ = some (.int .i64 0) := (hx6.cell 1).trans rfl
          have c2 : W6.cell? ⟨x, 2, none⟩ = some (.int .i64 0) := (hx6.cell 2).trans rfl
          have c3 : W6.cell? ⟨x, 3, none⟩ = some (.string ⟨#[]⟩) := (hx6.cell 3).trans rfl
          have c4 : W6.cell? ⟨x, 4, none⟩ = some (.int .i64 0) := (hx6.cell 4).trans rfl
          have c5 : W6.cell? ⟨x, 5, none⟩ = some (.int .i64 0) := (hx6.cell 5).trans rfl
          have c6 : W6.cell? ⟨x, 6, none⟩ = some (.string ⟨#[]⟩) := (hx6.cell 6).trans rfl
          clear hN6 hy6 hx6 hx HN5 HY5 HN4 HY4
          go_wp2
          go_roundw
          case rel => exact ⟨j + 1, by go_num, by omega, HB.out.trans (HN6.out.bel.mono HB.out.size), HZA.out.below HN6.out.bel HZL.out⟩
          case measure => simp [intOf]; omega
        · go_upto_region 21 with fail
          refine name_world (fun W => NilSt wr W zr (stepL 11 s f q (.slice ao xs.length cv) l) 1) ?_ ?_
          · exact HN.out
          intro W2 hN2
          have HN := hide hN2
          have d0 : W2.cell? ⟨zr, 0, none⟩ = some (.int .i64 11) := (HN.out.step.cell 0).trans rfl
          have d1 : W2.cell? ⟨zr, 1, none⟩ = some (.int .i64 s) := (HN.out.step.cell 1).trans rfl
          have d2 : W2.cell? ⟨zr, 2, none⟩ = some (.int .i64 f) := (HN.out.step.cell 2).trans rfl
          have d3 : W2.cell? ⟨zr, 3, none⟩ = some (.int .i64 q) := (HN.out.step.cell 3).trans rfl
          have d4 : W2.cell? ⟨zr, 4, none⟩ = some (.slice ao xs.length cv) := (HN.out.step.cell 4).trans rfl
          have d5 : W2.cell? ⟨zr, 5, none⟩ = some (.bool l) := (HN.out.step.cell 5).trans rfl
          clear hN2
          go_upto_region 22 with (go_at_call 9; refine (asked_cells _ none (.inl rfl) _ _ _ _ _ xs _ 1 HE.out (HV.out W2 (HB.out.trans (HN.out.bel.mono HB.out.size))) HLEN.out).mono ?_; rintro e w3 ⟨rfl, hb3⟩; have HN3 := hide (HN.out.below hb3); clear hb3)
          clear d0 d1 d2 d3 d4 d5
          refine name_world (fun W => ∃ y, y = w3.heap.size ∧ NilSt wr W zr (stepL 11 s f q (.slice ao xs.length cv) l) 1 ∧ Blk W y #[.int .i64 1, .int .i64 0, .int .i64 0, .string ⟨#[]⟩, .int .i64 0, .int .i64 0, .string ⟨#[]⟩] 39) ⟨_, rfl, HN3.out.below (below_alloc _ _), Blk.made _ _ _⟩ ?_
          rintro W4 ⟨y, hy, hN4, hy4⟩
          rw [← hy]
          have HN4 := hide hN4
          have HY4 := hide hy4
          have d0 : W4.cell? ⟨zr, 0, none⟩ = some (.int .i64 11) := (hN4.step.cell 0).trans rfl
          have d1 : W4.cell? ⟨zr, 1, none⟩ = some (.int .i64 s) := (hN4.step.cell 1).trans rfl
          have d2 : W4.cell? ⟨zr, 2, none⟩ = some (.int .i64 f) := (hN4.step.cell 2).trans rfl
          have d3 : W4.cell? ⟨zr, 3, none⟩ = some (.int .i64 q) := (hN4.step.cell 3).trans rfl
          have d4 : W4.cell? ⟨zr, 4, none⟩ = some (.slice ao xs.length cv) := (hN4.step.cell 4).trans rfl
          have d5 : W4.cell? ⟨zr, 5, none⟩ = some (.bool l) := (hN4.step.cell 5).trans rfl
          clear hN4 hy4 hy HN3 HN
          go_upto_region 23 with (go_at_call 9; refine (asked_cells _ _ (.inr ⟨_, rfl, HZA.out.below HN4.out.bel HZL.out⟩) _ _ _ _ _ xs _ 1 HE.out (HV.out W4 (HB.out.trans (HN4.out.bel.mono HB.out.size))) HLEN.out).mono ?_; rintro e w5 ⟨rfl, hb5⟩; have HN5 := hide (HN4.out.below hb5); have HY5 := hide (HY4.out.below hb5 HY4.out.lt); clear hb5)
          clear d0 d1 d2 d3 d4 d5
          refine name_world (fun W => ∃ x, x = w5.heap.size ∧ NilSt wr W zr (stepL 11 s f q (.slice ao xs.length cv) l) 1 ∧ Blk W y #[.int .i64 1, .int .i64 0, .int .i64 0, .string ⟨#[]⟩, .int .i64 0, .int .i64 0, .string ⟨#[]⟩] 39 ∧ Blk W x #[.int .i64 1, .int .i64 0, .int .i64 0, .string ⟨#[]⟩, .int .i64 0, .int .i64 0, .string ⟨#[]⟩] 39) ⟨_, rfl, HN5.out.below (below_alloc _ _), HY5.out.alloc _, Blk.made _ _ _⟩ ?_
          rintro W6 ⟨x, hx, hN6, hy6, hx6⟩
          rw [← hx]
          have HN6 := hide hN6
          have a0 : W6.cell? ⟨zr + 1, 0, none⟩ = some (.int .i64 1) := (hN6.want.cell 0).trans rfl
          have a1 : W6.cell? ⟨zr + 1, 1, none⟩ = some (.int .i64 0) := (hN6.want.cell 1).trans rfl
          have a2 : W6.cell? ⟨zr + 1, 2, none⟩ = some (.int .i64 0) := (hN6.want.cell 2).trans rfl
          have a3 : W6.cell? ⟨zr + 1, 3, none⟩ = some (.string ⟨#[]⟩) := (hN6.want.cell 3).trans rfl
          have a4 : W6.cell? ⟨zr + 1, 4, none⟩ = some (.int .i64 0) := (hN6.want.cell 4).trans rfl
          have a5 : W6.cell? ⟨zr + 1, 5, none⟩ = some (.int .i64 0) := (hN6.want.cell 5).trans rfl
          have a6 : W6.cell? ⟨zr + 1, 6, none⟩ = some (.string ⟨#[]⟩) := (hN6.want.cell 6).trans rfl
          have b0 : W6.cell? ⟨y, 0, none⟩ = some (.int .i64 1) := (hy6.cell 0).trans rfl
          have b1 : W6.cell? ⟨y, 1, none⟩ = some (.int .i64 0) := (hy6.cell 1).trans rfl
          have b2 : W6.cell? ⟨y, 2, none⟩ = some (.int .i64 0) := (hy6.cell 2).trans rfl
          have b3 : W6.cell? ⟨y, 3, none⟩ = some (.string ⟨#[]⟩) := (hy6.cell 3).trans rfl
          have b4 : W6.cell? ⟨y, 4, none⟩ = some (.int .i64 0) := (hy6.cell 4).trans rfl
          have b5 : W6.cell? ⟨y, 5, none⟩ = some (.int .i64 0) := (hy6.cell 5).trans rfl
          have b6 : W6.cell? ⟨y, 6, none⟩ = some (.string ⟨#[]⟩) := (hy6.cell 6).trans rfl
          have c0 : W6.cell? ⟨x, 0, none⟩ = some (.int .i64 1) := (hx6.cell 0).trans rfl
          have c1 : W6.cell? ⟨x, 1, none⟩ = some (.int .i64 0) := (hx6.cell 1).trans rfl
          have c2 : W6.cell? ⟨x, 2, none⟩ = some (.int .i64 0) := (hx6.cell 2).trans rfl
          have c3 : W6.cell? ⟨x, 3, none⟩ = some (.string ⟨#[]⟩) := (hx6.cell 3).trans rfl
          have c4 : W6.cell? ⟨x, 4, none⟩ = some (.int .i64 0) := (hx6.cell 4).trans rfl
          have c5 : W6.cell? ⟨x, 5, none⟩ = some (.int .i64 0) := (hx6.cell 5).trans rfl
          have c6 : W6.cell? ⟨x, 6, none⟩ = some (.string ⟨#[]⟩) := (hx6.cell 6).trans rfl
          clear hN6 hy6 hx6 hx HN5 HY5 HN4 HY4
          go_wp2
          go_roundw
          case rel => exact ⟨j + 1, by go_num, by omega, HB.out.trans (HN6.out.bel.mono HB.out.size), HZA.out.below HN6.out.bel HZL.out⟩
          case measure => simp [intOf]; omega
      · have HE : Hid (errK k = 0) := hide (if_neg (by omega))
        have n1 : (k == 1) = false := beq_eq_false_iff_ne.2 (by omega)
        have n2 : (k == 2) = false := beq_eq_false_iff_ne.2 (by omega)
        have n3 : (k == 3) = false := beq_eq_false_iff_ne.2 (by omega)
        have n4 : (k == 4) = false := beq_eq_false_iff_ne.2 (by omega)
        have n5 : (k == 5) = false := beq_eq_false_iff_ne.2 (by omega)
        have n6 : (k == 6) = false := beq_eq_false_iff_ne.2 (by omega)
        have n7 : (k == 7) = false := beq_eq_false_iff_ne.2 (by omega)
        have n8 : (k == 8) = false := beq_eq_false_iff_ne.2 (by omega)
        have n11 : (k == 11) = false := beq_eq_false_iff_ne.2 (by omega)
        clear hk
        go_upto_region 21 with fail
        refine name_world (fun W => NilSt wr W zr (stepL k s f q (.slice ao xs.length cv) l) 0) ?_ ?_
        · exact HN.out.set (.int .i64 0)
        intro W2 hN2
        have HN := hide hN2
        have d0 : W2.cell? ⟨zr, 0, none⟩ = some (.int .i64 k) := (HN.out.step.cell 0).trans rfl
        have d1 : W2.cell? ⟨zr, 1, none⟩ = some (.int .i64 s) := (HN.out.step.cell 1).trans rfl
        have d2 : W2.cell? ⟨zr, 2, none⟩ = some (.int .i64 f) := (HN.out.step.cell 2).trans rfl
        have d3 : W2.cell? ⟨zr, 3, none⟩ = some (.int .i64 q) := (HN.out.step.cell 3).trans rfl
        have d4 : W2.cell? ⟨zr, 4, none⟩ = some (.slice ao xs.length cv) := (HN.out.step.cell 4).trans rfl
        have d5 : W2.cell? ⟨zr, 5, none⟩ = some (.bool l) := (HN.out.step.cell 5).trans rfl
        clear hN2
        go_upto_region 22 with (go_at_call 9; refine (asked_cells _ none (.inl rfl) _ _ _ _ _ xs _ 0 HE.out (HV.out W2 (HB.out.trans (HN.out.bel.mono HB.out.size))) HLEN.out).mono ?_; rintro e w3 ⟨rfl, hb3⟩; have HN3 := hide (HN.out.below hb3); clear hb3)
        clear d0 d1 d2 d3 d4 d5
        refine name_world (fun W => ∃ y, y = w3.heap.size ∧ NilSt wr W zr (stepL k s f q (.slice ao xs.length cv) l) 0 ∧ Blk W y #[.int .i64 0, .int .i64 0, .int .i64 0, .string ⟨#[]⟩, .int .i64 0, .int .i64 0, .string ⟨#[]⟩] 39) ⟨_, rfl, HN3.out.below (below_alloc _ _), Blk.made _ _ _⟩ ?_
        rintro W4 ⟨y, hy, hN4, hy4⟩
        rw [← hy]
        have HN4 := hide hN4
        have HY4 := hide hy4
        have d0 : W4.cell? ⟨zr, 0, none⟩ = some (.int .i64 k) := (hN4.step.cell 0).trans rfl
        have d1 : W4.cell? ⟨zr, 1, none⟩ = some (.int .i64 s) := (hN4.step.cell 1).trans rfl
        have d2 : W4.cell? ⟨zr, 2, none⟩ = some (.int .i64 f) := (hN4.step.cell 2).trans rfl
        have d3 : W4.cell? ⟨zr, 3, none⟩ = some (.int .i64 q) := (hN4.step.cell 3).trans rfl
        have d4 : W4.cell? ⟨zr, 4, none⟩ = some (.slice ao xs.length cv) := (hN4.step.cell 4).trans rfl
        have d5 : W4.cell? ⟨zr, 5, none⟩ = some (.bool l) := (hN4.step.cell 5).trans rfl
        clear hN4 hy4 hy HN3 HN
        go_upto_region 23 with (go_at_call 9; refine (asked_cells _ _ (.inr ⟨_, rfl, HZA.out.below HN4.out.bel HZL.out⟩) _ _ _ _ _ xs _ 0 HE.out (HV.out W4 (HB.out.trans (HN4.out.bel.mono HB.out.size))) HLEN.out).mono ?_; rintro e w5 ⟨rfl, hb5⟩; have HN5 := hide (HN4.out.below hb5); have HY5 := hide (HY4.out.below hb5 HY4.out.lt); clear hb5)
        clear d0 d1 d2 d3 d4 d5
        refine name_world (fun W => ∃ x, x = w5.heap.size ∧ NilSt wr W zr (stepL k s f q (.slice ao xs.length cv) l) 0 ∧ Blk W y #[.int .i64 0, .int .i64 0, .int .i64 0, .string ⟨#[]⟩, .int .i64 0, .int .i64 0, .string ⟨#[]⟩] 39 ∧ Blk W x #[.int .i64 0, .int .i64 0, .int .i64 0, .string ⟨#[]⟩, .int .i64 0, .int .i64 0, .string ⟨#[]⟩] 39) ⟨_, rfl, HN5.out.below (below_alloc _ _), HY5.out.alloc _, Blk.made _ _ _⟩ ?_
        rintro W6 ⟨x, hx, hN6, hy6, hx6⟩
        rw [← hx]
        have HN6 := hide hN6
        have a0 : W6.cell? ⟨zr + 1, 0, none⟩ = some (.int .i64 0) := (hN6.want.cell 0).trans rfl
        have a1 : W6.cell? ⟨zr + 1, 1, none⟩ = some (.int .i64 0) := (hN6.want.cell 1).trans rfl
        have a2 : W6.cell? ⟨zr + 1, 2, none⟩ = some (.int .i64 0) := (hN6.want.cell 2).trans rfl
        have a3 : W6.cell? ⟨zr + 1, 3, none⟩ = some (.string ⟨#[]⟩) := (hN6.want.cell 3).trans rfl
        have a4 : W6.cell? ⟨zr + 1, 4, none⟩ = some (.int .i64 0) := (hN6.want.cell 4).trans rfl
        have a5 : W6.cell? ⟨zr + 1, 5, none⟩ = some (.int .i64 0) := (hN6.want.cell 5).trans rfl
        have a6 : W6.cell? ⟨zr + 1, 6, none⟩ = some (.string ⟨#[]⟩) := (hN6.want.cell 6).trans rfl
        have b0 : W6.cell? ⟨y, 0, none⟩ = some (.int .i64 0) := (hy6.cell 0).trans rfl
        have b1 : W6.cell? ⟨y, 1, none⟩ = some (.int .i64 0) := (hy6.cell 1).trans rfl
        have b2 : W6.cell? ⟨y, 2, none⟩ = some (.int .i64 0) := (hy6.cell 2).trans rfl
        have b3 : W6.cell? ⟨y, 3, none⟩ = some (.string ⟨#[]⟩) := (hy6.cell 3).trans rfl
        have b4 : W6.cell? ⟨y, 4, none⟩ = some (.int .i64 0) := (hy6.cell 4).trans rfl
        have b5 : W6.cell? ⟨y, 5, none⟩ = some (.int .i64 0) := (hy6.cell 5).trans rfl
        have b6 : W6.cell? ⟨y, 6, none⟩ = some (.string ⟨#[]⟩) := (hy6.cell 6).trans rfl
        have c0 : W6.cell? ⟨x, 0, none⟩ = some (.int .i64 0) := (hx6.cell 0).trans rfl
        have c1 : W6.cell? ⟨x, 1, none⟩ = some (.int .i64 0) := (hx6.cell 1).trans rfl
        have c2 : W6.cell? ⟨x, 2, none⟩ = some (.int .i64 0) := (hx6.cell 2).trans rfl
        have c3 : W6.cell? ⟨x, 3, none⟩ = some (.string ⟨#[]⟩) := (hx6.cell 3).trans rfl
        have c4 : W6.cell? ⟨x, 4, none⟩ = some (.int .i64 0) := (hx6.cell 4).trans rfl
        have c5 : W6.cell? ⟨x, 5, none⟩ = some (.int .i64 0) := (hx6.cell 5).trans rfl
        have c6 : W6.cell? ⟨x, 6, none⟩ = some (.string ⟨#[]⟩) := (hx6.cell 6).trans rfl
        clear hN6 hy6 hx6 hx HN5 HY5 HN4 HY4
        go_wp2
        go_roundw
        case rel => exact ⟨j + 1, by go_num, by omega, HB.out.trans (HN6.out.bel.mono HB.out.size), HZA.out.below HN6.out.bel HZL.out⟩
        case measure => simp [intOf]; omega
    · go_wp2_with (go_at_call 12; refine (nReserve _ _ _ (.inl rfl)).mono ?_; rintro e w1 ⟨rfl, hb⟩; have HB1 := hide (HB.out.trans (hb.mono HB.out.size)); clear hb)
      go_ret
      exact ⟨rfl, HB1.out.alloc HB1.out.size _⟩
end Go.Proofs.Ytffoadmaihpgoaa
