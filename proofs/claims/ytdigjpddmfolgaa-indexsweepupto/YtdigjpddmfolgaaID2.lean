/- The law's below, among: walked. -/
import Derived.Test.YtdigjpddmfolgaaID1
namespace Go.Proofs.Ytdigjpddmfolgaa
set_option linter.unusedVariables false
set_option linter.unusedSimpArgs false
namespace TX
open Go.RowKit Go.Sort
set_option maxRecDepth 100000
set_option maxHeartbeats 4000000

theorem twoBox (w : World) (a b : KY) : Below w.heap.size w ((w.alloc (.cells (kA a) KT)).alloc (.cells (kA b) KT)) ∧ KB ((w.alloc (.cells (kA a) KT)).alloc (.cells (kA b) KT)) w.heap.size a ∧ KB ((w.alloc (.cells (kA a) KT)).alloc (.cells (kA b) KT)) (w.heap.size + 1) b :=
  ⟨((Below.refl _ _).alloc (Nat.le_refl _) _).alloc (by simp) _, (Blk.made w _ _).alloc _, blk_mk1 w _ _ _⟩
theorem lbelow_any (w : World) (a b : KY) : Calls Try.prog 15 #[kV a, kV b] w fun e w' => e = .returned (.bool (decide (cmp a b < 0))) ∧ Below w.heap.size w w' := by
  obtain ⟨za, hza⟩ : ∃ za, za = w.heap.size := ⟨_, rfl⟩
  have HZ := hide hza
  go_enter Try.func15, Try.ntmps15
  go_upto_region 1 with fail
  refine name_world (fun W => Below w.heap.size w W ∧ KB W za a ∧ KB W (za + 1) b) (by rw [hza]; exact twoBox w a b) ?_
  rintro W ⟨hB, hA, hC⟩
  rw [← hza]
  have HB := hide hB
  have HA := hide hA
  have HC := hide hC
  clear hB hA hC hza
  go_upto_region 2 with fail
  go_loopw [5] (fun t wr => ∃ i : Nat, t = .int .i64 i ∧ i ≤ 32 ∧ (∀ j, j < i → bt a j = bt b j) ∧ Below za w wr ∧ KB wr za a ∧ KB wr (za + 1) b) (fun t _ => 32 - (intOf t).toNat)
  case atStart => exact ⟨0, rfl, by omega, fun j hj => by omega, by rw [HZ.out]; exact HB.out, HA.out, HC.out⟩
  case round =>
    obtain ⟨i, rfl, hi, hE, hB, hA, hC⟩ := hrel
    have HE := hide hE
    have HB1 := hide hB
    have HA1 := hide hA
    have HC1 := hide hC
    clear hE hB hA hC HB HA HC
    by_cases hlt : i < 32
    · have hji : (i : Int) < 32 := by omega
      have ca := fun d os => cell_regrown (HA1.out.at i hlt) d os
      have cb := fun d os => cell_regrown (HC1.out.at i hlt) d os
      go_upto_region 4 with fail
      refine wp_region_quiet_below (by kernel_rfl) (by kernel_rfl) ?_
      iterate 7 quiet_step (fail)
      refine wpQuiet_nil ?_
      intro w1 hw1
      have hb1 : Below wr.heap.size wr w1 := below_of hw1
      have hzw : za ≤ wr.heap.size := by have := Blk.lt HA1.out; omega
      have HB2 := hide (HB1.out.trans (hb1.mono hzw))
      have HA2 := hide (HA1.out.below hb1)
      have HC2 := hide (HC1.out.below hb1)
      clear hw1 hb1 ca cb hzw HB1 HA1 HC1
      by_cases hn : bt a i = bt b i
      · have hne : (((bt a i : Nat) : Int) != ((bt b i : Nat) : Int)) = false := by rw [hn]; simp
        rw [hne]
        have HN := hide hn
        clear hne hn
        go_wp2
        go_roundw
        case rel => exact ⟨i + 1, by go_num, by omega, fun j hj => by
          by_cases hji : j = i
          · rw [hji]; exact HN.out
          · exact HE.out j (by omega), HB2.out, HA2.out, HC2.out⟩
        case measure => simp [intOf]; omega
      · have hne : (((bt a i : Nat) : Int) != ((bt b i : Nat) : Int)) = true := by simp; omega
        rw [hne]
        have hd := cmp_at a b i hlt HE.out hn
        have HD := hide hd
        clear hne hn hd
        have ca := fun d os => cell_regrown (HA2.out.at i hlt) d os
        have cb := fun d os => cell_regrown (HC2.out.at i hlt) d os
        go_upto_region 5 with fail
        refine wp_region_quiet_below (by kernel_rfl) (by kernel_rfl) ?_
        iterate 8 quiet_step (fail)
        refine wpQuiet_nil ?_
        intro w2 hw2
        have hb2 : Below w1.heap.size w1 w2 := below_of hw2
        have hzw : za ≤ w1.heap.size := by have := Blk.lt HA2.out; omega
        have HB3 := hide (HB2.out.trans (hb2.mono hzw))
        clear hw2 hb2 ca cb hzw
        go_wp2
        go_ret
        refine ⟨?_, by rw [← HZ.out]; exact HB3.out⟩
        rw [HD.out]
        simp
    · obtain rfl : i = 32 := by omega
      have HAB := hide (cmp_eq_all a b HE.out)
      have hji : ¬ ((32 : Nat) : Int) < 32 := by decide
      go_wp2
      go_ret
      refine ⟨?_, by rw [← HZ.out]; exact HB1.out⟩
      have e : cmp a b = 0 := by rw [HAB.out, cmp_self]
      rw [e]
      rfl
theorem among_any (w : World) (k : KY) (v : Value) (L : List KY) (h : KsR w v L) (hL : L.length ≤ 4398046511104) : Calls Try.prog 17 #[kV k, v] w fun e w' => e = .returned (.bool (L.any fun x => eqK x k)) ∧ Below w.heap.size w w' := by
  obtain ⟨ao, c, rfl, hr⟩ := h
  obtain ⟨n, hn⟩ : ∃ n, n = L.length := ⟨_, rfl⟩
  have HR : Hid (∀ W', Below w.heap.size w W' → KsR W' (.slice ao L.length c) L) := hide (fun W' hb => KsR.below ⟨ao, c, rfl, hr⟩ hb)
  rw [← hn] at HR hL ⊢
  have HNL := hide hn
  obtain ⟨za, hza⟩ : ∃ za, za = w.heap.size := ⟨_, rfl⟩
  have HZ := hide hza
  clear hr hn
  go_enter Try.func17, Try.ntmps17
  go_upto_region 1 with fail
  refine name_world (fun W => Below w.heap.size w W ∧ KB W za k) (by rw [hza]; exact ⟨below_alloc w _, KB.made w k⟩) ?_
  rintro W ⟨hB, hA⟩
  rw [← hza]
  have HB := hide hB
  have HA := hide hA
  clear hB hA hza
  go_upto_region 2 with fail
  go_loopw [5] (fun t wr => ∃ i : Nat, t = .int .i64 i ∧ i ≤ n ∧ (∀ j x, j < i → L[j]? = some x → eqK x k = false) ∧ Below za w wr ∧ KB wr za k) (fun t _ => n - (intOf t).toNat)
  case atStart => exact ⟨0, rfl, by omega, fun j x hj => by omega, by rw [HZ.out]; exact HB.out, HA.out⟩
  case round =>
    obtain ⟨i, rfl, hi, hE, hB, hA⟩ := hrel
    have HE := hide hE
    have HB1 := hide hB
    have HA1 := hide hA
    clear hE hB hA HB HA
    by_cases hlt : i < n
    · have hji : (i : Int) < (n : Int) := by omega
      obtain ⟨x, hx⟩ : ∃ x, L[i]? = some x := ⟨_, List.getElem?_eq_getElem (by rw [← HNL.out]; exact hlt)⟩
      obtain ⟨ao2, c2, he, hrr⟩ := HR.out wr (by rw [← HZ.out]; exact HB1.out)
      cases he
      obtain ⟨g, so, rfl, hg⟩ := hrr (by rw [← HNL.out]; omega)
      have HX := hide hx
      have HRX : Hid (∀ d os, (grow (redrawn wr d) os).rangeAt g (so + i * 32) (kC x)) := hide (range_regrown (hg i x hx))
      have HRK : Hid (∀ d os, (grow (redrawn wr d) os).rangeAt za 0 (kC k)) := hide (range_regrown HA1.out.rng)
      clear hrr hg hx
      go_upto_region 4 with fail
      refine wp_region_quiet_below (by kernel_rfl) (by kernel_rfl) ?_
      iterate 3 quiet_step (fail)
      refine wpQuiet_val (kV x) rfl (fun w0 hw => ?_) ?_
      · obtain ⟨p0, rfl⟩ := hw
        exact run_loadO rfl rfl (run_ldK (HRX.out _ _))
      refine wpQuiet_val (kV k) rfl (fun w0 hw => ?_) ?_
      · obtain ⟨p0, rfl⟩ := hw
        exact run_loadO rfl rfl (run_ldK (HRK.out _ _))
      refine wpQuiet_val (.bool (eqK x k)) rfl (fun w0 _ => run_eqlK rfl rfl rfl w0) ?_
      refine wpQuiet_nil ?_
      intro w1 hw1
      have hb1 : Below wr.heap.size wr w1 := below_of hw1
      have hzw : za ≤ wr.heap.size := by have := Blk.lt HA1.out; omega
      have HB2 := hide (HB1.out.trans (hb1.mono hzw))
      have HA2 := hide (HA1.out.below hb1)
      clear hw1 hb1 hzw HRX HRK HB1 HA1
      by_cases hq : eqK x k = true
      · have HA0 : Hid ((L.any fun x => eqK x k) = true) := hide (List.any_eq_true.2 ⟨x, List.mem_of_getElem? HX.out, hq⟩)
        rw [hq]
        clear hq
        go_wp2
        go_ret
        refine ⟨?_, by rw [← HZ.out]; exact HB2.out⟩
        rw [HA0.out]
        rfl
      · have hq0 : eqK x k = false := by simpa using hq
        have HQ := hide hq0
        rw [hq0]
        clear hq hq0
        go_wp2
        go_roundw
        case rel => exact ⟨i + 1, by go_num, by omega, fun j y hj hy => by
          by_cases hji : j = i
          · rw [hji, HX.out] at hy
            cases hy
            exact HQ.out
          · exact HE.out j y (by omega) hy, HB2.out, HA2.out⟩
        case measure => simp [intOf]; omega
    · have hji : ¬ (i : Int) < (n : Int) := by omega
      have HN0 : Hid ((L.any fun x => eqK x k) = false) := hide (by
        refine List.any_eq_false.2 (fun x hx => ?_)
        obtain ⟨j, hj, e⟩ := List.getElem_of_mem hx
        have := HE.out j x (by have := HNL.out; omega) (by rw [List.getElem?_eq_getElem hj, e])
        simp [this])
      go_wp2
      go_ret
      refine ⟨?_, by rw [← HZ.out]; exact HB1.out⟩
      rw [HN0.out]
      rfl
end TX
end Go.Proofs.Ytdigjpddmfolgaa
