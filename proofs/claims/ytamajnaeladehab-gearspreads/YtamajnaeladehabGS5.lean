/- GearSpreads, walked: the law. -/
import Derived.Test.YtamajnaeladehabGS4
namespace Go.Proofs.Ytamajnaeladehab
set_option linter.unusedVariables false
set_option linter.unusedSimpArgs false
open Go.RowKit Ieee

theorem guardSp : Try.prog.eqGuardType Try.prog.depth 25 = false := by kernel_rfl
theorem underSp : Try.prog.underlying 25 = some (.struct (Try.prog.fieldsOf 25)) := by kernel_rfl
theorem stoodSp : Try.prog.stoodInHeld 25 = false := by kernel_rfl
theorem partI (xs : Array Value) (o : Nat) (n : Int) (h : xs[o]? = some (.int .i64 n)) (w : World) : (part 3 xs o).run Try.prog w = .ok (.int .i64 n) w := by
  have := Try.underlying3
  simp [part, go_sem, this, h]
theorem partF (xs : Array Value) (o : Nat) (n : Nat) (h : xs[o]? = some (.float .f64 n)) (w : World) : (part 23 xs o).run Try.prog w = .ok (.float .f64 n) w := by
  have := Try.underlying23
  simp [part, go_sem, this, h]
theorem spEq (c l g : Int) (m d : Nat) (hm : double.order m m = some .eq) (hd : double.order d d = some .eq) (w : World) : (binOp .eql 25 (.agg (spL c l g m d)) (.agg (spL c l g m d))).run Try.prog w = .ok (.bool true) w := by
  rw [run_eql_struct, run_equalIn_struct w 9999 _ _ _ underSp stoodSp]
  simp only [Program.fieldsOf, Try.underlying25]
  have e0 := fun W => partI (spL c l g m d) 0 c rfl W
  have e1 := fun W => partI (spL c l g m d) 1 l rfl W
  have e2 := fun W => partI (spL c l g m d) 2 g rfl W
  have e3 := fun W => partF (spL c l g m d) 3 m rfl W
  have e4 := fun W => partF (spL c l g m d) 4 d rfl W
  have q0 := fun W (n : Int) => run_equalIn_int (P := Try.prog) W 9998 3 .i64 .i64 n n Try.underlying3
  have q3 := fun W => equal_f (P := Try.prog) W 9998 23 m m Try.underlying23
  have q4 := fun W => equal_f (P := Try.prog) W 9998 23 d d Try.underlying23
  simp [Op.eqFields, Sem.run_bind, e0, e1, e2, e3, e4, q0, q3, q4, hm, hd, Result.andThen]
theorem sp_form (L : List Int) (hL : I64s L) (hlen : L.length ≤ 9223372036854775807) : ∃ c l g m d, spR L = #[.int .i64 c, .int .i64 l, .int .i64 g, .float .f64 m, .float .f64 d] ∧ double.order m m = some .eq ∧ double.order d d = some .eq := by
  rcases Nat.eq_zero_or_pos L.length with h0 | h0
  · exact ⟨0, 0, 0, 0, 0, by unfold spR; rw [if_pos h0]; rfl, by decide, by decide⟩
  · obtain ⟨q, -, -, hn⟩ := dev_ok L hL hlen h0
    exact ⟨_, _, _, _, _, by unfold spR; rw [if_neg (by omega)]; rfl, order_mean L hL hlen L.length (Nat.le_refl _), order_non hn⟩
theorem sp_live : spR [3, 5] = #[.int .i64 2, .int .i64 3, .int .i64 5, .float .f64 4616189618054758400, .float .f64 4607182418800017408] := by
  have h1 := live_run
  have h2 := live_dev
  have e : spR [3, 5] = spL 2 (lowK [3, 5] 2) (topK [3, 5] 2) (runW [3, 5] 2).1 (devW [3, 5]) := rfl
  rw [e, h1, h2]
  rfl
set_option maxRecDepth 20000 in
set_option maxHeartbeats 2000000 in
theorem spreads_law (w : World) (v : Value) (L : List Int) (hv : RdJ w v L) (hL : I64s L) (hlen : L.length ≤ 17592186044416) : Calls Try.prog 3 #[v] w fun e w' => e = .returned (.bool true) ∧ Below w.heap.size w w' := by
  have HV := hide hv
  have HL := hide hL
  obtain ⟨ao, c, rfl, hl63, -⟩ := hv
  obtain ⟨sc, sl, sg, sm, sd, hsp, om, od⟩ := sp_form L hL hl63
  have HSp := hide hsp
  have he1 := fun w => spEq sc sl sg sm sd om od w
  have he2 := fun w => spEq 2 3 5 4616189618054758400 4607182418800017408 (by decide) (by decide) w
  unfold spL at he1 he2
  have hg1 := fun (x y : Operand) (a b : Array Value) (w : World) => run_eqGuard_agg (P := Try.prog) w .eql 25 x y a b guardSp
  clear hL hsp om od
  go_enter Try.func3, Try.ntmps3
  go_wp2_with (at_builtin; refine wpList_append_copy rfl _ _ rfl _ L rfl rfl HV.out ?a1 ?_)
  case a1 => omega
  intro v1 w1 HO1 hb1
  have HB1 := hb1
  have HR1 := hide (OwnsI.rdJ HO1.out)
  have HV1 := hide (HV.out.below hb1.out)
  clear hb1 HO1
  go_wp2_with fail
  refine (rspread_any w1 _ L HV1.out HL.out).mono ?_
  rintro e w2 ⟨rfl, hb2⟩
  rw [HSp.out]
  have HB2 := hide (HB1.out.trans (hb2.mono HB1.out.size))
  have HR2 := hide (HR1.out.below hb2)
  have HV2 := hide (HV1.out.below hb2)
  clear hb2 HR1 HV1 HB1
  go_wp2_with fail
  have hb2 := (Below.refl w2.heap.size w2).alloc (Nat.le_refl _) (.cells #[Value.int IntKind.i64 sc, Value.int IntKind.i64 sl, Value.int IntKind.i64 sg, Value.float FloatKind.f64 sm, Value.float FloatKind.f64 sd] 25)
  refine (spread_any _ v1 L (HR2.out.below hb2) HL.out).mono ?_
  rintro e w3 ⟨rfl, hb3⟩
  rw [HSp.out]
  have HB3 := hide (HB2.out.trans ((hb2.trans (hb3.mono (by simp))).mono HB2.out.size))
  have HR3 := hide ((HR2.out.below hb2).below hb3)
  have HV3 := hide ((HV2.out.below hb2).below hb3)
  have HK3 := hide ((Blk.made w2 #[Value.int IntKind.i64 sc, Value.int IntKind.i64 sl, Value.int IntKind.i64 sg, Value.float FloatKind.f64 sm, Value.float FloatKind.f64 sd] 25).below hb3 (by simp))
  have hz3 : w2.heap.size < w3.heap.size := by have := hb3.size; simp at this; omega
  clear hb2 hb3 HR2 HV2 HB2
  go_wp2_with fail
  have hb4 := ((Below.refl w3.heap.size w3).alloc (Nat.le_refl _) (.cells #[Value.int IntKind.i64 sc, Value.int IntKind.i64 sl, Value.int IntKind.i64 sg, Value.float FloatKind.f64 sm, Value.float FloatKind.f64 sd] 25)).alloc (by simp) (.cells #[Value.int IntKind.i64 3, Value.int IntKind.i64 5] 3)
  have HLv : Hid (RdJ ((w3.alloc (.cells #[Value.int IntKind.i64 sc, Value.int IntKind.i64 sl, Value.int IntKind.i64 sg, Value.float FloatKind.f64 sm, Value.float FloatKind.f64 sd] 25)).alloc (.cells #[Value.int IntKind.i64 3, Value.int IntKind.i64 5] 3)) (.slice (some ⟨w3.heap.size + 1, 0, none⟩) 2 2) [3, 5]) := hide (by
    refine ⟨some ⟨w3.heap.size + 1, 0, none⟩, 2, rfl, by simp, fun _ => ⟨w3.heap.size + 1, 0, rfl, fun k hk => ?_⟩⟩
    have hB := Blk.made (w3.alloc (.cells #[Value.int IntKind.i64 sc, Value.int IntKind.i64 sl, Value.int IntKind.i64 sg, Value.float FloatKind.f64 sm, Value.float FloatKind.f64 sd] 25)) #[Value.int IntKind.i64 3, Value.int IntKind.i64 5] 3
    rw [World.size_alloc] at hB
    rw [Nat.zero_add, hB.cell]
    have : k = 0 ∨ k = 1 := by simp at hk; omega
    rcases this with rfl | rfl <;> rfl)
  have HK4a := hide (HK3.out.below hb4 (by simpa using hz3))
  have HK4b := hide ((Blk.made w3 #[Value.int IntKind.i64 sc, Value.int IntKind.i64 sl, Value.int IntKind.i64 sg, Value.float FloatKind.f64 sm, Value.float FloatKind.f64 sd] 25).alloc (.cells #[Value.int IntKind.i64 3, Value.int IntKind.i64 5] 3))
  refine (spread_any _ _ [3, 5] HLv.out (by intro x hx; simp at hx; omega)).mono ?_
  rintro e w5 ⟨rfl, hb5⟩
  rw [sp_live]
  have HB5 := hide (HB3.out.trans ((hb4.trans (hb5.mono (by simp; omega))).mono HB3.out.size))
  have HR5 := hide ((HR3.out.below hb4).below hb5)
  have HV5 := hide ((HV3.out.below hb4).below hb5)
  have HKa := hide (HK4a.out.below hb5 (by have := HK4a.out.lt; exact this))
  have HKb := hide (HK4b.out.below hb5 (by have := HK4b.out.lt; exact this))
  clear hb4 hb5 HR3 HV3 HB3 HK4a HK4b HK3 HLv
  have a0 : w5.cell? ⟨w2.heap.size, 0, none⟩ = some (.int .i64 sc) := HKa.out.cell 0
  have b0 : w5.cell? ⟨w3.heap.size, 0, none⟩ = some (.int .i64 sc) := HKb.out.cell 0
  have a1 : w5.cell? ⟨w2.heap.size, 1, none⟩ = some (.int .i64 sl) := HKa.out.cell 1
  have b1 : w5.cell? ⟨w3.heap.size, 1, none⟩ = some (.int .i64 sl) := HKb.out.cell 1
  have a2 : w5.cell? ⟨w2.heap.size, 2, none⟩ = some (.int .i64 sg) := HKa.out.cell 2
  have b2 : w5.cell? ⟨w3.heap.size, 2, none⟩ = some (.int .i64 sg) := HKb.out.cell 2
  have a3 : w5.cell? ⟨w2.heap.size, 3, none⟩ = some (.float .f64 sm) := HKa.out.cell 3
  have b3 : w5.cell? ⟨w3.heap.size, 3, none⟩ = some (.float .f64 sm) := HKb.out.cell 3
  have a4 : w5.cell? ⟨w2.heap.size, 4, none⟩ = some (.float .f64 sd) := HKa.out.cell 4
  have b4 : w5.cell? ⟨w3.heap.size, 4, none⟩ = some (.float .f64 sd) := HKb.out.cell 4
  have hb6 := (Below.refl w5.heap.size w5).alloc (Nat.le_refl _) (.cells #[Value.int IntKind.i64 2, Value.int IntKind.i64 3, Value.int IntKind.i64 5, Value.float FloatKind.f64 4616189618054758400, Value.float FloatKind.f64 4607182418800017408] 25)
  have HSm := hide (sameInts_any _ v1 _ L (HR5.out.below hb6) (HV5.out.below hb6))
  have HB6 := hide (HB5.out.trans (hb6.mono HB5.out.size))
  have HK6 := hide (Blk.made w5 #[Value.int IntKind.i64 2, Value.int IntKind.i64 3, Value.int IntKind.i64 5, Value.float FloatKind.f64 4616189618054758400, Value.float FloatKind.f64 4607182418800017408] 25)
  have hl2 : w2.heap.size < w5.heap.size := HKa.out.lt
  have hl3 : w3.heap.size < w5.heap.size := HKb.out.lt
  clear hb6 HR5 HV5
  go_wp2_with (first | simp only [hg1, he1])
  refine HSm.out.mono ?_
  rintro e w7 ⟨rfl, hb7⟩
  have HB7 := hide (HB6.out.trans (hb7.mono HB6.out.size))
  have HK7 := hide (HK6.out.below hb7 HK6.out.lt)
  have d0 : w7.cell? ⟨w5.heap.size, 0, none⟩ = some (.int .i64 2) := HK7.out.cell 0
  have d1 : w7.cell? ⟨w5.heap.size, 1, none⟩ = some (.int .i64 3) := HK7.out.cell 1
  have d2 : w7.cell? ⟨w5.heap.size, 2, none⟩ = some (.int .i64 5) := HK7.out.cell 2
  have d3 : w7.cell? ⟨w5.heap.size, 3, none⟩ = some (.float .f64 4616189618054758400) := HK7.out.cell 3
  have d4 : w7.cell? ⟨w5.heap.size, 4, none⟩ = some (.float .f64 4607182418800017408) := HK7.out.cell 4
  clear hb7 HSm HKa HKb HK6
  go_wp2_with (first | simp only [hg1, he2])
  go_ret
  exact ⟨rfl, HB7.out⟩
end Go.Proofs.Ytamajnaeladehab
