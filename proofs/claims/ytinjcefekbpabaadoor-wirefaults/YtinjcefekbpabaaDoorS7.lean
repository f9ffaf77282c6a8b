/- WireFaults: the walk. -/
import Derived.Test.YtinjcefekbpabaaDoorS6
namespace Go.Proofs.YtinjcefekbpabaaDoor
set_option linter.unusedVariables false
set_option linter.unusedSimpArgs false
open Go.RowKit Go.Extern.Stop Go.Stop Go.Extern

theorem hide {p : Prop} (h : p) : Hid p := h
theorem Hid.out {p : Prop} (h : Hid p) : p := h
def FC (W : World) (b : Nat) (n c : Int) : Prop := W.cell? ⟨b, 0, none⟩ = some (.int .i64 n) ∧ W.cell? ⟨b, 1, none⟩ = some (.int .i64 c)
theorem FC.below {W W' : World} {b : Nat} {n c : Int} (h : FC W b n c) (hb : Below W.heap.size W W') : FC W' b n c :=
  ⟨(hb.cell (p := ⟨b, 0, none⟩) (lt_of_cell h.1)).trans h.1, (hb.cell (p := ⟨b, 1, none⟩) (lt_of_cell h.1)).trans h.2⟩
theorem cell_below {W W' : World} {b o : Nat} {v : Value} (h : W.cell? ⟨b, o, none⟩ = some v) (hb : Below W.heap.size W W') : W'.cell? ⟨b, o, none⟩ = some v := (hb.cell (p := ⟨b, o, none⟩) (lt_of_cell h)).trans h
theorem cell_apart {W W' : World} {b o g : Nat} {v : Value} (h : W.cell? ⟨b, o, none⟩ = some v) (hb : W.grownBy W' (some g)) (hne : b ≠ g) : W'.cell? ⟨b, o, none⟩ = some v := by
  rw [← h]
  unfold World.cell?
  simp only
  rw [hb.block b (lt_of_cell h) (fun e => hne (Option.some.inj e))]
theorem neqE (c : Int) (w : World) : (binOp .neq 28 (.iface 22 (.int .i64 c)) (.iface 22 (.int .i64 c))).run Tryd.prog w = .ok (.bool false) w := by
  have h : (binOp .neq 28 (.iface 22 (.int .i64 c)) (.iface 22 (.int .i64 c))).run Tryd.prog w = .ok (.bool (!(c == c))) w := by kernel_rfl
  rw [h]
  simp
theorem neq24 (n c : Int) (w : World) : (binOp .neq 24 (.agg #[.int .i64 n, .int .i64 c]) (.agg #[.int .i64 n, .int .i64 c])).run Tryd.prog w = .ok (.bool false) w := by
  simp [go_sem, Tryd.underlying24]
set_option maxRecDepth 20000 in
set_option maxHeartbeats 4000000 in
theorem faults_any (n c o : Int) (h0 : -9223372036854775808 ≤ n) (h1 : n ≤ 9223372036854775807) (k0 : -9223372036854775808 ≤ c) (k1 : c ≤ 9223372036854775807) (w : World) (hT : Tab w) (hg : w.cell? ⟨0, 0, none⟩ = some (.iface 53 (.agg #[.pointer (some ⟨4, 28, none⟩)]))) :
    Calls Tryd.prog 3 #[.int .i64 n, .int .i64 c, .int .i64 o] w fun e w' => e = .returned (.bool true) ∧ Below w.heap.size w w' := by
  have HF := hide (fun W hb => fault_st n c h0 h1 k0 k1 W (hT.below hb))
  have HD1 := hide (digits_st n h0 h1)
  have HD2 := hide (digits_st c k0 k1)
  have hl := itoa_len n h0 h1
  have hm := itoa_len c k0 k1
  generalize str (Lib.itoa n) = s at HF HD1 hl
  generalize str (Lib.itoa c) = t at HF HD2 hm
  simp only [sAt, sMid] at HF
  have z1 : ¬ 9223372036854775807 < 3 + s.size := by omega
  have z2 : ¬ 9223372036854775807 < 3 + s.size + 8 := by omega
  have z3 : ¬ 9223372036854775807 < 3 + s.size + 8 + t.size := by omega
  have e1 := neqE c
  have e2 := neq24 n c
  have HG := hide hg
  have HI1 := hide (is_wrap n c c)
  have HI2 := hide (is_wrap n c o)
  have HI3 := hide (is_fault n c o)
  have HAS := hide (as_wrap n c)
  rw [beq_self_eq_true] at HI1
  clear hl hm hT hg h0 h1 k0 k1
  go_enter Tryd.func3, Tryd.ntmps3
  go_wp2_with fail
  have HB0 : Hid (Below w.heap.size w (w.alloc (.cells #[.int .i64 n, .int .i64 c] 24))) := hide ((Below.refl _ _).alloc (Nat.le_refl _) _)
  refine (HF.out _ HB0.out).mono ?_
  rintro e w1 ⟨rfl, hb1⟩
  have HF0 : Hid (FC w1 w.heap.size n c) := hide ((show FC (w.alloc (.cells #[.int .i64 n, .int .i64 c] 24)) w.heap.size n c from ⟨by simp, by simp⟩).below hb1)
  have HB1 : Hid (Below w.heap.size w w1) := hide (HB0.out.trans (hb1.mono HB0.out.size))
  obtain ⟨b0, hb0⟩ : ∃ b0, w.heap.size = b0 := ⟨_, rfl⟩
  rw [hb0] at HF0 ⊢
  have HZ := hide hb0
  clear hb1 HF HB0 hb0
  go_wp2_with fail
  refine (HD1.out w1).mono ?_
  rintro e w2 ⟨rfl, hb2⟩
  have HF2 := hide (HF0.out.below hb2)
  have HB2 : Hid (Below w.heap.size w w2) := hide (HB1.out.trans (hb2.mono HB1.out.size))
  clear hb2 HD1 HF0 HB1
  go_wp2_with fail
  refine (HD2.out w2).mono ?_
  rintro e w3 ⟨rfl, hb3⟩
  have HF3 := hide (HF2.out.below hb3)
  have HB3 : Hid (Below w.heap.size w w3) := hide (HB2.out.trans (hb3.mono HB2.out.size))
  obtain ⟨d0, d1⟩ := HF3.out
  clear hb3 HD2 HF2 HB2
  go_wp2_with fail
  refine (unwrapF n c w3).mono ?_
  rintro e w4 ⟨rfl, hw4⟩
  have hb4 : Below w3.heap.size w3 w4 := by rw [hw4]; exact (Below.refl _ _).alloc (Nat.le_refl _) _
  have HF4 := hide (HF3.out.below hb4)
  have HB4 : Hid (Below w.heap.size w w4) := hide (HB3.out.trans (hb4.mono HB3.out.size))
  clear d0 d1 hb4 hw4 HF3 HB3
  obtain ⟨d0, d1⟩ := HF4.out
  go_wp2_with fail
  have hb5 : Below w4.heap.size w4 ((w4.alloc (.cells #[(.iface 31 (.agg #[.iface 24 (.agg #[.int .i64 n, .int .i64 c])]))] 31)).alloc (.cells #[.int .i64 0, .int .i64 0] 24)) := ((Below.refl _ _).alloc (Nat.le_refl _) _).alloc (by simp) _
  have hcw : ((w4.alloc (.cells #[(.iface 31 (.agg #[.iface 24 (.agg #[.int .i64 n, .int .i64 c])]))] 31)).alloc (.cells #[.int .i64 0, .int .i64 0] 24)).cell? ⟨w4.heap.size, 0, none⟩ = some (.iface 31 (.agg #[.iface 24 (.agg #[.int .i64 n, .int .i64 c])])) := by simp
  have hgw : ((w4.alloc (.cells #[(.iface 31 (.agg #[.iface 24 (.agg #[.int .i64 n, .int .i64 c])]))] 31)).alloc (.cells #[.int .i64 0, .int .i64 0] 24)).cell? ⟨0, 0, none⟩ = some (.iface 53 (.agg #[.pointer (some ⟨4, 28, none⟩)])) := cell_below (cell_below HG.out HB4.out) hb5
  have HA5 := hide (HAS.out (w4.heap.size + 1) (.int .i64 0) (.int .i64 0) ((w4.alloc (.cells #[(.iface 31 (.agg #[.iface 24 (.agg #[.int .i64 n, .int .i64 c])]))] 31)).alloc (.cells #[.int .i64 0, .int .i64 0] 24)) hgw (by simp) (by simp) (by simp) (by simp))
  have HF5 := hide (HF4.out.below hb5)
  have HB5 : Hid (Below w.heap.size w ((w4.alloc (.cells #[(.iface 31 (.agg #[.iface 24 (.agg #[.int .i64 n, .int .i64 c])]))] 31)).alloc (.cells #[.int .i64 0, .int .i64 0] 24))) := hide (HB4.out.trans (hb5.mono HB4.out.size))
  have HCW := hide hcw
  have hlt0 : b0 < w4.heap.size := lt_of_cell d0
  obtain ⟨b1, hb1⟩ : ∃ b1, w4.heap.size = b1 := ⟨_, rfl⟩
  rw [hb1] at HA5 HCW hlt0 ⊢
  generalize ((w4.alloc (.cells #[(.iface 31 (.agg #[.iface 24 (.agg #[.int .i64 n, .int .i64 c])]))] 31)).alloc (.cells #[.int .i64 0, .int .i64 0] 24)) = W5 at HA5 HF5 HB5 HCW ⊢
  clear d0 d1 hb5 hcw hgw HAS HF4 HB4 hb1
  refine (HA5.out).mono ?_
  rintro e w5 ⟨rfl, hg5, a0, a1⟩
  have d0 := cell_apart HF5.out.1 hg5 (by omega)
  have d1 := cell_apart HF5.out.2 hg5 (by omega)
  have dw := cell_apart HCW.out hg5 (by omega)
  have HB6 : Hid (Below w.heap.size w w5) := hide ⟨hg5.os.trans HB5.out.os, hg5.tape.trans HB5.out.tape, hg5.output.trans HB5.out.output, Nat.le_trans HB5.out.size hg5.size, fun i hi => (hg5.block i (Nat.lt_of_lt_of_le hi HB5.out.size) (fun e => by have := Option.some.inj e; have := HZ.out; omega)).trans (HB5.out.block i hi)⟩
  have HF6 : Hid (FC w5 b0 n c) := hide ⟨d0, d1⟩
  have HC6 := hide dw
  clear hg5 HA5 HF5 HB5 HCW
  go_wp2_with fail
  clear a0 a1 d0 d1 dw
  refine (HI1.out w5).mono ?_
  rintro e w6 ⟨rfl, hb6⟩
  have HF7 := hide (HF6.out.below hb6)
  have HC7 := hide (cell_below HC6.out hb6)
  have HB7 : Hid (Below w.heap.size w w6) := hide (HB6.out.trans (hb6.mono HB6.out.size))
  have dw := HC7.out
  clear hb6 HF6 HC6 HB6 HI1
  by_cases hco : c = o
  · subst hco
    rw [beq_self_eq_true] at HI2 HI3
    go_wp2_with fail
    clear dw
    refine (HI2.out w6).mono ?_
    rintro e w7 ⟨rfl, hb7⟩
    have HF8 := hide (HF7.out.below hb7)
    have HB8 : Hid (Below w.heap.size w w7) := hide (HB7.out.trans (hb7.mono HB7.out.size))
    obtain ⟨d0, d1⟩ := HF8.out
    clear hb7 HF7 HB7 HC7
    go_wp2_with fail
    refine (HI3.out w7).mono ?_
    rintro e w8 ⟨rfl, hb8⟩
    go_wp2
    go_ret
    exact ⟨rfl, HB8.out.trans (hb8.mono HB8.out.size)⟩
  · have c1 : (c == o) = false := beq_eq_false_iff_ne.2 hco
    have c2 : (o == c) = false := beq_eq_false_iff_ne.2 (Ne.symm hco)
    rw [c1] at HI2 HI3
    go_wp2_with fail
    clear dw
    refine (HI2.out w6).mono ?_
    rintro e w7 ⟨rfl, hb7⟩
    have HF8 := hide (HF7.out.below hb7)
    have HB8 : Hid (Below w.heap.size w w7) := hide (HB7.out.trans (hb7.mono HB7.out.size))
    obtain ⟨d0, d1⟩ := HF8.out
    clear hb7 HF7 HB7 HC7
    go_wp2_with fail
    refine (HI3.out w7).mono ?_
    rintro e w8 ⟨rfl, hb8⟩
    go_wp2
    go_ret
    exact ⟨rfl, HB8.out.trans (hb8.mono HB8.out.size)⟩
end Go.Proofs.YtinjcefekbpabaaDoor
