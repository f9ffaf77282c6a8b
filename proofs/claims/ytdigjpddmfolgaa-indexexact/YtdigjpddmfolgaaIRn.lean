/- The document's index: Put. -/
import Derived.Test.YtdigjpddmfolgaaIRm
import Derived.Test.YtdigjpddmfolgaaICm
namespace Go.Proofs.Ytdigjpddmfolgaa
set_option linter.unusedVariables false
set_option linter.unusedSimpArgs false
namespace TX
open Go.RowKit Go.Sort
set_option maxRecDepth 100000
set_option maxHeartbeats 16000000

def rputF (f : KY → Option EN) (k : KY) (e : EN) : KY → Option EN := if (f k).isSome then f else upd f k (some e)
theorem keBox (w : World) (k : KY) (e : EN) : Below w.heap.size w ((w.alloc (.cells (kA k) KT)).alloc (.cells (eA e) ET)) ∧ KB ((w.alloc (.cells (kA k) KT)).alloc (.cells (eA e) ET)) w.heap.size k ∧ EB ((w.alloc (.cells (kA k) KT)).alloc (.cells (eA e) ET)) (w.heap.size + 1) e := by
  refine ⟨((Below.refl _ _).alloc (Nat.le_refl _) _).alloc (by simp) _, (Blk.made w _ _).alloc _, ?_⟩
  have := Blk.made (w.alloc (.cells (kA k) KT)) (eA e) ET
  rw [World.size_alloc] at this
  exact this
theorem OwnD.slice' {w : World} {B : Nat} {v : Value} {V : List KE} (h : OwnD w B v V) : ∃ ao n c, v = .slice ao n c := by
  obtain ⟨ao, c, e, _⟩ := h.form
  exact ⟨ao, _, c, e⟩
/-- One more is appended. -/
theorem RwS.step {w W W4 : World} {v v' : Value} {A : List KE} {z : KE} (h : RwS w W v A) (ho : OwnD W4 w.heap.size v' (A ++ [z])) (hg : (W.alloc (.cells (kdA z) KDT)).grownBy W4 v.ownBlock) : RwS w W4 v' (A ++ [z]) ∧ ∀ {b : Nat} {cs : Array Value} {t : TypeId}, Blk W b cs t → t ≠ KDT → Blk W4 b cs t := by
  have hb : Below W.heap.size W (W.alloc (.cells (kdA z) KDT)) := below_alloc W _
  have h1 := h.below hb
  exact ⟨h1.app ho hg, fun hc ht => h1.keep hg (hc.below hb hc.lt) ht⟩
theorem RwS.own1 {w W : World} {v : Value} {A : List KE} (h : RwS w W v A) (z : KE) : OwnD (W.alloc (.cells (kdA z) KDT)) w.heap.size v A ∧ Blk (W.alloc (.cells (kdA z) KDT)) W.heap.size (kdA z) KDT ∧ w.heap.size ≤ (W.alloc (.cells (kdA z) KDT)).heap.size := by
  have hb : Below W.heap.size W (W.alloc (.cells (kdA z) KDT)) := below_alloc W _
  exact ⟨h.ow.below hb, Blk.made W _ _, Nat.le_trans h.bel.size hb.size⟩
theorem rput_any (w : World) {q n0 : Nat} {f : KY → Option EN} (h : RxA w q f n0) (hn : n0 ≤ 1099511627776) (k : KY) (e : EN) : Calls Try.prog 28 #[.pointer (some ⟨q, 0, none⟩), kV k, eV e] w fun en w' => en = .returned (.bool (!(f k).isSome)) ∧ RxN w w' q (rputF f k e) (n0 + 1) := by
  have HRX := hide h
  obtain ⟨V, hL0, hM, hR, hV⟩ := h
  have HH := hide hL0
  have HM := hide hM
  have HRS := hide hR
  have HVL := hide hV
  have HN0 := hide hn
  clear hL0 hM hR hV hn
  go_enter Try.func28, Try.ntmps28
  go_upto_region 1 with fail
  refine name_world (fun W => Below w.heap.size w W ∧ KB W w.heap.size k ∧ EB W (w.heap.size + 1) e) (keBox w k e) ?_
  rintro W ⟨hB, hK, hE⟩
  obtain ⟨kb, hkb⟩ : ∃ kb, kb = w.heap.size := ⟨_, rfl⟩
  rw [← hkb] at hK hE ⊢
  have HKB := hide hkb
  have HB := hide hB
  have HK := hide hK
  have HE := hide hE
  have HL := hide (HH.out.below hB)
  clear hB hK hE hkb
  cases hf : f k with
  | some u =>
    obtain ⟨i, hi, hr⟩ := fnd_yes HM.out hf
    have HF := hide hf
    have HFn := hide (rfind_any W HL.out (by have := HVL.out; have := HN0.out; omega) k i hr)
    have hi0 : (0 : Int) ≤ (i : Int) := by omega
    clear hf hr hi
    go_upto_region 2 with (first | ((with_reducible refine wpList_ldK ?_ (.tmp 4) ?_ kb 0 ?_ k HK.out.rng ?_); rfl; rfl; rfl) | (go_at_call 43; (with_reducible refine HFn.out.mono ?_); rintro e w2 ⟨rfl, hb⟩; have HB2 := hide (HB.out.trans (hb.mono HB.out.size)); clear hb))
    go_wp2
    go_ret
    refine ⟨by rw [HF.out]; rfl, ?_⟩
    unfold rputF
    rw [HF.out]
    exact (HRX.out.more (Nat.le_succ _)).nBelow HB2.out
  | none =>
    have HF := hide hf
    have HFn := hide (rfind_any W HL.out (by have := HVL.out; have := HN0.out; omega) k (-1) (fnd_no HM.out hf))
    clear hf
    go_upto_region 2 with (first | ((with_reducible refine wpList_ldK ?_ (.tmp 4) ?_ kb 0 ?_ k HK.out.rng ?_); rfl; rfl; rfl) | (go_at_call 43; (with_reducible refine HFn.out.mono ?_); rintro e w2 ⟨rfl, hb⟩; have HB2 := hide (HB.out.trans (hb.mono HB.out.size)); have HK2 := hide (HK.out.below hb); have HE2 := hide (HE.out.below hb); clear hb))
    have HS0 : Hid (RwS w w2 (.slice none 0 0) []) := hide (RwS.nil HB2.out)
    clear HFn HL HB HK HE HB2
    obtain ⟨x, hx⟩ : ∃ x : KE, x = (k, e) := ⟨_, rfl⟩
    have HX := hide hx
    go_upto_region 6 with fail
    go_loopw [7, 8, 9] (fun t7 t8 t9 wr => ∃ (i : Nat) (d : Bool) (v : Value) (A : List KE), t9 = .int .i64 i ∧ t8 = .bool d ∧ v = t7 ∧ i ≤ V.length ∧ Hid (d = insD x V i) ∧ Hid (A = insA x V i) ∧ RwS w wr v A ∧ KB wr kb k ∧ EB wr (kb + 1) e) (fun _ _ t9 _ => V.length - (intOf t9).toNat)
    case atStart => exact ⟨0, false, _, [], rfl, rfl, rfl, by omega, hide rfl, hide rfl, HS0.out, HK2.out, HE2.out⟩
    case round =>
      obtain ⟨i, d, v, A, rfl, rfl, rfl, hi, hd, hA, hS, hK, hE⟩ := hrel
      have HSx := hide hS
      have HKx := hide hK
      have HEx := hide hE
      have hL := HH.out.below hS.bel
      obtain ⟨ao, n, c, hq, hnV, _, hrow⟩ := hL.open
      have HRow := hide hrow
      have HLx := hide hL
      have cq : wr.cell? ⟨q, 0, none⟩ = some (.slice ao n c) := by rw [hq.cell]; rfl
      have lq := hq.lt
      have hin : i ≤ n := by rw [hnV.out]; exact hi
      have hn2 : n ≤ 1099511627776 := by rw [hnV.out]; have := HVL.out; have := HN0.out; omega
      have HI : Hid (i ≤ V.length) := hide hi
      have HAl : Hid (A.length ≤ i + 1) := hide (by rw [hA.out]; exact (ins_len x V i hi).1)
      have HNL : Hid (V.length ≤ 1099511627776) := hide (by have := HVL.out; have := HN0.out; omega)
      clear hS hK hE hL hrow hq hi HS0 HK2 HE2
      by_cases hlt : i < n
      · have hji : (i : Int) < (n : Int) := by omega
        obtain ⟨z, hz⟩ : ∃ z, V[i]? = some z := ⟨_, List.getElem?_eq_getElem (by rw [← hnV.out]; exact hlt)⟩
        obtain ⟨g, rfl, hrg⟩ := HRow.out i z hz
        have HZ := hide hz
        have HRZ := hide hrg
        have hi2 : Hid (i + 1 ≤ V.length) := hide (by have := hnV.out; omega)
        clear hz hrg HRow
        cases d with
        | true =>
          obtain ⟨q1, q2⟩ := insD_yes HZ.out hd.out.symm
          have HD2 : Hid (true = insD x V (i + 1)) := hide q1.symm
          have HA2 : Hid (A ++ [z] = insA x V (i + 1)) := hide (by rw [q2, hA.out])
          clear q1 q2
          go_upto_region 8 with fail
          refine wp_region_quiet_below (by kernel_rfl) (by kernel_rfl) ?_
          quiet_step (fail)
          quiet_step (fail)
          refine wpQuiet_move_nos 25 2 true 11 rfl (fun _ _ => rfl) rfl rfl ((by decide : (25 : Nat) < 66)) ?_ ?_
          · intro y hy
            simp only [List.take_succ_cons, List.take_zero, List.mem_cons, List.not_mem_nil, or_false] at hy
            rcases hy with rfl | rfl | rfl | rfl | rfl | rfl | rfl | rfl | rfl | rfl | rfl <;> exact ⟨rfl, _, rfl, by decide⟩
          simp only [List.take_succ_cons, List.take_zero, List.drop_succ_cons, List.drop_zero, List.foldl_cons, List.foldl_nil, Act.put, List.setIfInBounds_toArray, List.set_cons_zero, List.set_cons_succ]
          quiet_step (fail)
          refine wpQuiet_nil ?_
          intro w1 hw1
          have hb1 : Below wr.heap.size wr w1 := below_of hw1
          have HS1 := hide (HSx.out.below hb1)
          have HK1 := hide (HKx.out.below hb1)
          have HE1 := hide (HEx.out.below hb1)
          have HRZ1 : Hid (w1.rangeAt g (i * 36) (kdC z)) := hide (fun j u hu => (hb1.cell (World.block_lt_of_cell? wr _ (HRZ.out j u hu))).trans (HRZ.out j u hu))
          have cq1 : w1.cell? ⟨q, 0, none⟩ = some (.slice (some ⟨g, 0, none⟩) n c) := by rw [hb1.cell lq]; exact cq
          have lq1 : q < w1.heap.size := Nat.lt_of_lt_of_le lq hb1.size
          clear hw1 hb1 HSx HKx HEx HRZ cq lq HLx
          have PO := hide (HS1.out.own1 z).1
          have PZ := hide (HS1.out.own1 z).2.1
          have PB := hide (HS1.out.own1 z).2.2
          have PL : Hid ((A).length + 1 ≤ 2199023255552) := hide (by have h1 := HAl.out; have h2 := HNL.out; have h3 := HI.out; (try simp only [List.length_append, List.length_singleton]); omega)
          go_wp2_with (first | ((with_reducible refine wpList_ldKD ?_ (.tmp 50) ?_ g (i * 36) ?_ z HRZ1.out ?_); rfl; rfl; rfl) | ((with_reducible refine wpList_bsD ?_ (.tmp 51) z ?_ ?_ ?_); rfl; rfl; rfl) | ((with_reducible refine wpList_appD ?_ (.tmp 44) (.tmp 52) ?_ w.heap.size v (A) ?_ PO.out w1.heap.size ?_ z PZ.out PL.out PB.out ?_); rfl; rfl; rfl; rfl; intro v4 w4 HO4 HG4 HV4))
          obtain ⟨hs4, hk4⟩ := HS1.out.step HO4.out HG4.out
          have HS4 := hide hs4
          have HK4 := hide (hk4 HK1.out (by decide))
          have HE4 := hide (hk4 HE1.out (by decide))
          clear hs4 hk4
          go_roundw
          case rel => exact ⟨i + 1, true, v4, A ++ [z], by go_num, rfl, rfl, hi2.out, HD2, HA2, HS4.out, HK4.out, HE4.out⟩
          case measure => have := hi2.out; simp [intOf]; omega
        | false =>
          have HC3 : Hid (∀ d os, Calls Try.prog 44 #[kV k, kV z.1] (grow (redrawn wr d) os) fun e w'' => e = .returned (.int .i64 (cmp k z.1)) ∧ ∃ p : Regrown, w'' = grow (redrawn wr p.d) p.os) := hide (fun d os => Calls.regrown_of (rcompare_any _ k z.1))
          have HRG := hide (range_regrown (kd_keyAt HRZ.out))
          have HKR := hide (range_regrown HKx.out.rng)
          have cqr := fun d os => cell_regrown cq d os
          have hpi : (i : Int) < (n : Int) := hji
          go_upto_region 8 with fail
          refine wp_region_quiet_below (by kernel_rfl) (by kernel_rfl) ?_
          iterate 3 quiet_step (fail)
          refine wpQuiet_val (kV k) rfl (fun w0 hw => ?_) ?_
          · obtain ⟨p0, rfl⟩ := hw
            exact run_loadO rfl rfl (run_ldK (HKR.out _ _))
          iterate 7 quiet_step (fail)
          refine wpQuiet_val (kV z.1) rfl (fun w0 hw => ?_) ?_
          · obtain ⟨p0, rfl⟩ := hw
            exact run_loadO rfl rfl (run_ldK (HRG.out _ _))
          quiet_step (exact HC3.out _ _)
          quiet_step (fail)
          quiet_step (fail)
          refine wpQuiet_nil ?_
          intro w1 hw1
          have hb1 : Below wr.heap.size wr w1 := below_of hw1
          have HS1 := hide (HSx.out.below hb1)
          have HK1 := hide (HKx.out.below hb1)
          have HE1 := hide (HEx.out.below hb1)
          have HRZ1 : Hid (w1.rangeAt g (i * 36) (kdC z)) := hide (fun j u hu => (hb1.cell (World.block_lt_of_cell? wr _ (HRZ.out j u hu))).trans (HRZ.out j u hu))
          have HQ1 : Hid (w1.cell? ⟨q, 0, none⟩ = some (.slice (some ⟨g, 0, none⟩) n c) ∧ q < w1.heap.size) := hide ⟨by rw [hb1.cell lq]; exact cq, Nat.lt_of_lt_of_le lq hb1.size⟩
          clear hw1 hb1 HSx HKx HEx HRZ cq lq cqr HLx HC3 HRG HKR
          by_cases hc : cmp k z.1 < 0
          · obtain ⟨q1, q2⟩ := insD_now (x := (k, e)) HZ.out (by rw [← HX.out]; exact hd.out.symm) hc
            rw [show decide (cmp k z.1 < 0) = true from decide_eq_true hc]
            have HD2 : Hid (true = insD x V (i + 1)) := hide (by rw [HX.out]; exact q1.symm)
            have HA2 : Hid (A ++ [(k, e)] ++ [z] = insA x V (i + 1)) := hide (by rw [HX.out, q2, hA.out, HX.out])
            clear q1 q2 hc
            have PO := hide (HS1.out.own1 (k, e)).1
            have PZ := hide (HS1.out.own1 (k, e)).2.1
            have PB := hide (HS1.out.own1 (k, e)).2.2
            have PL : Hid ((A).length + 1 ≤ 2199023255552) := hide (by have h1 := HAl.out; have h2 := HNL.out; have h3 := HI.out; (try simp only [List.length_append, List.length_singleton]); omega)
            go_upto_region 11 with (first | ((with_reducible refine wpList_ldK ?_ (.tmp 4) ?_ kb 0 ?_ k HK1.out.rng ?_); rfl; rfl; rfl) | ((with_reducible refine wpList_ldE ?_ (.tmp 5) ?_ (kb + 1) 0 ?_ e HE1.out.rng ?_); rfl; rfl; rfl) | ((with_reducible refine wpList_bdKD ?_ (.tmp 39) (.tmp 40) ?_ k e ?_ ?_ ?_); rfl; rfl; rfl; rfl) | ((with_reducible refine wpList_bsD ?_ (.tmp 41) (k, e) ?_ ?_ ?_); rfl; rfl; rfl) | ((with_reducible refine wpList_appD ?_ (.tmp 38) (.tmp 42) ?_ w.heap.size v (A) ?_ PO.out w1.heap.size ?_ (k, e) PZ.out PL.out PB.out ?_); rfl; rfl; rfl; rfl; intro v4 w4 HO4 HG4 HV4))
            obtain ⟨hs4, hk4⟩ := HS1.out.step HO4.out HG4.out
            have HS4 := hide hs4
            have HK4 := hide (hk4 HK1.out (by decide))
            have HE4 := hide (hk4 HE1.out (by decide))
            have hl4 := HH.out.below hs4.bel
            obtain ⟨ao5, n5, c5, hq5, hnV5, _, hrow5⟩ := hl4.open
            obtain ⟨g5, rfl, hrg5⟩ := hrow5 i z HZ.out
            have HRZ4 := hide hrg5
            have hin5 : (i : Int) < (n5 : Int) := by have := hnV5.out; have := hnV.out; omega
            have cq4 : w4.cell? ⟨q, 0, none⟩ = some (.slice (some ⟨g5, 0, none⟩) n5 c5) := by rw [hq5.cell]; rfl
            have lq4 := hq5.lt
            clear hs4 hk4 hl4 hq5 hrow5 hrg5 PO PZ PB PL
            have PO := hide (HS4.out.own1 z).1
            have PZ := hide (HS4.out.own1 z).2.1
            have PB := hide (HS4.out.own1 z).2.2
            have PL : Hid ((A ++ [(k, e)]).length + 1 ≤ 2199023255552) := hide (by have h1 := HAl.out; have h2 := HNL.out; have h3 := HI.out; (try simp only [List.length_append, List.length_singleton]); omega)
            go_wp2_with (first | ((with_reducible refine wpList_ldKD ?_ (.tmp 50) ?_ g5 (i * 36) ?_ z HRZ4.out ?_); rfl; rfl; rfl) | ((with_reducible refine wpList_bsD ?_ (.tmp 51) z ?_ ?_ ?_); rfl; rfl; rfl) | ((with_reducible refine wpList_appD ?_ (.tmp 44) (.tmp 52) ?_ w.heap.size v4 (A ++ [(k, e)]) ?_ PO.out w4.heap.size ?_ z PZ.out PL.out PB.out ?_); rfl; rfl; rfl; rfl; intro v6 w6 HO6 HG6 HV6))
            obtain ⟨hs6, hk6⟩ := HS4.out.step HO6.out HG6.out
            have HS6 := hide hs6
            have HK6 := hide (hk6 HK4.out (by decide))
            have HE6 := hide (hk6 HE4.out (by decide))
            clear hs6 hk6
            go_roundw
            case rel => exact ⟨i + 1, true, v6, A ++ [(k, e)] ++ [z], by go_num, rfl, rfl, hi2.out, HD2, HA2, HS6.out, HK6.out, HE6.out⟩
            case measure => have := hi2.out; simp [intOf]; omega
          · obtain ⟨q1, q2⟩ := insD_no (x := (k, e)) HZ.out (by rw [← HX.out]; exact hd.out.symm) hc
            rw [show decide (cmp k z.1 < 0) = false from decide_eq_false hc]
            have HD2 : Hid (false = insD x V (i + 1)) := hide (by rw [HX.out]; exact q1.symm)
            have HA2 : Hid (A ++ [z] = insA x V (i + 1)) := hide (by rw [HX.out, q2, hA.out, HX.out])
            have cq1 := HQ1.out.1
            have lq1 := HQ1.out.2
            clear q1 q2 hc
            have PO := hide (HS1.out.own1 z).1
            have PZ := hide (HS1.out.own1 z).2.1
            have PB := hide (HS1.out.own1 z).2.2
            have PL : Hid ((A).length + 1 ≤ 2199023255552) := hide (by have h1 := HAl.out; have h2 := HNL.out; have h3 := HI.out; (try simp only [List.length_append, List.length_singleton]); omega)
            go_wp2_with (first | ((with_reducible refine wpList_ldKD ?_ (.tmp 50) ?_ g (i * 36) ?_ z HRZ1.out ?_); rfl; rfl; rfl) | ((with_reducible refine wpList_bsD ?_ (.tmp 51) z ?_ ?_ ?_); rfl; rfl; rfl) | ((with_reducible refine wpList_appD ?_ (.tmp 44) (.tmp 52) ?_ w.heap.size v (A) ?_ PO.out w1.heap.size ?_ z PZ.out PL.out PB.out ?_); rfl; rfl; rfl; rfl; intro v4 w4 HO4 HG4 HV4))
            obtain ⟨hs4, hk4⟩ := HS1.out.step HO4.out HG4.out
            have HS4 := hide hs4
            have HK4 := hide (hk4 HK1.out (by decide))
            have HE4 := hide (hk4 HE1.out (by decide))
            clear hs4 hk4
            go_roundw
            case rel => exact ⟨i + 1, false, v4, A ++ [z], by go_num, rfl, rfl, hi2.out, HD2, HA2, HS4.out, HK4.out, HE4.out⟩
            case measure => have := hi2.out; simp [intOf]; omega
      · have hji : ¬ (i : Int) < (n : Int) := by omega
        have hiV : i = V.length := by have := hnV.out; omega
        have HXM := hide (ins_maps (x := (k, e)) HM.out HRS.out HF.out)
        have hdv : d = insD (k, e) V V.length := by rw [hd.out, HX.out, hiV]
        have hav : A = insA (k, e) V V.length := by rw [hA.out, HX.out, hiV]
        have HDV := hide hdv
        have HAV := hide hav
        clear HRow hiV hdv hav hd hA
        cases d with
        | true =>
          have HIN : Hid (A = insV (k, e) V) := hide (by rw [HAV.out]; unfold insV; rw [← HDV.out]; rfl)
          obtain ⟨ao1, n1, c1, rfl⟩ := HSx.out.ow.slice'
          obtain ⟨hf1, hf2⟩ := HSx.out.fin HH.out
          have HF1 := hide hf1
          have HF2 := hide hf2
          have fz : wr.frozen? ⟨q, 0, none⟩ = false := by obtain ⟨u, h1, _⟩ := HLx.out.ex; exact h1.frozen 0
          clear hf1 hf2
          go_wp2
          go_ret
          refine ⟨by rw [HF.out]; rfl, ⟨_, HF1.out, ?_, ?_, ?_⟩, HF2.out⟩
          · unfold rputF; rw [HF.out, HIN.out]; exact HXM.out.1
          · rw [HIN.out]; exact HXM.out.2.1
          · rw [HIN.out, HXM.out.2.2]; have := HVL.out; omega
        | false =>
          have HIN : Hid (A ++ [(k, e)] = insV (k, e) V) := hide (by rw [HAV.out]; unfold insV; rw [← HDV.out]; rfl)
          have PO := hide (HSx.out.own1 (k, e)).1
          have PZ := hide (HSx.out.own1 (k, e)).2.1
          have PB := hide (HSx.out.own1 (k, e)).2.2
          have PL : Hid ((A).length + 1 ≤ 2199023255552) := hide (by have h1 := HAl.out; have h2 := HNL.out; have h3 := HI.out; (try simp only [List.length_append, List.length_singleton]); omega)
          go_upto_region 14 with (first | ((with_reducible refine wpList_ldK ?_ (.tmp 4) ?_ kb 0 ?_ k HKx.out.rng ?_); rfl; rfl; rfl) | ((with_reducible refine wpList_ldE ?_ (.tmp 5) ?_ (kb + 1) 0 ?_ e HEx.out.rng ?_); rfl; rfl; rfl) | ((with_reducible refine wpList_bdKD ?_ (.tmp 57) (.tmp 58) ?_ k e ?_ ?_ ?_); rfl; rfl; rfl; rfl) | ((with_reducible refine wpList_bsD ?_ (.tmp 59) (k, e) ?_ ?_ ?_); rfl; rfl; rfl) | ((with_reducible refine wpList_appD ?_ (.tmp 56) (.tmp 60) ?_ w.heap.size v (A) ?_ PO.out wr.heap.size ?_ (k, e) PZ.out PL.out PB.out ?_); rfl; rfl; rfl; rfl; intro v4 w4 HO4 HG4 HV4))
          obtain ⟨hs4, hk4⟩ := HSx.out.step HO4.out HG4.out
          have HS4 := hide hs4
          have hl4 := HH.out.below hs4.bel
          have HL4 := hide hl4
          clear cq lq
          have cq : ∃ u, w4.cell? ⟨q, 0, none⟩ = some u := by obtain ⟨u, h1, _⟩ := hl4.ex; exact ⟨u, by rw [h1.cell]; rfl⟩
          obtain ⟨u4, cq⟩ := cq
          have lq := hl4.lt
          have fz : w4.frozen? ⟨q, 0, none⟩ = false := by obtain ⟨u, h1, _⟩ := hl4.ex; exact h1.frozen 0
          clear hs4 hk4 hl4
          obtain ⟨ao1, n1, c1, rfl⟩ := HS4.out.ow.slice'
          obtain ⟨hf1, hf2⟩ := HS4.out.fin HH.out
          have HF1 := hide hf1
          have HF2 := hide hf2
          clear hf1 hf2
          go_wp2
          go_ret
          refine ⟨by rw [HF.out]; rfl, ⟨_, HF1.out, ?_, ?_, ?_⟩, HF2.out⟩
          · unfold rputF; rw [HF.out, HIN.out]; exact HXM.out.1
          · rw [HIN.out]; exact HXM.out.2.1
          · rw [HIN.out, HXM.out.2.2]; have := HVL.out; omega
end TX
end Go.Proofs.Ytdigjpddmfolgaa

/- The document's index: Del. -/
namespace Go.Proofs.Ytdigjpddmfolgaa
set_option linter.unusedVariables false
set_option linter.unusedSimpArgs false
namespace TX
open Go.RowKit Go.Sort
set_option maxRecDepth 100000
set_option maxHeartbeats 16000000

theorem upd_noop {f : KY → Option EN} {k : KY} (h : f k = none) : upd f k none = f := by
  funext q
  by_cases hq : q = k
  · rw [hq, upd_same, h]
  · rw [upd_other f none hq]
theorem rdel_any (w : World) {q n0 : Nat} {f : KY → Option EN} (h : RxA w q f n0) (hn : n0 ≤ 1099511627776) (k : KY) : Calls Try.prog 33 #[.pointer (some ⟨q, 0, none⟩), kV k] w fun en w' => en = .returned (optV (f k)) ∧ RxN w w' q (upd f k none) n0 := by
  have HRX := hide h
  obtain ⟨V, hL0, hM, hR, hV⟩ := h
  have HH := hide hL0
  have HM := hide hM
  have HRS := hide hR
  have HVL := hide hV
  have HN0 := hide hn
  have hz0 := zero_E
  clear hL0 hM hR hV hn
  go_enter Try.func33, Try.ntmps33
  go_upto_region 1 with fail
  refine name_world (fun W => Below w.heap.size w W ∧ KB W w.heap.size k ∧ EB W (w.heap.size + 1) eZ) (kePair w k) ?_
  rintro W ⟨hB, hK, hE⟩
  obtain ⟨kb, hkb⟩ : ∃ kb, kb = w.heap.size := ⟨_, rfl⟩
  rw [← hkb] at hK hE ⊢
  have HKB := hide hkb
  have HB := hide hB
  have HK := hide hK
  have HE := hide hE
  have HL := hide (HH.out.below hB)
  clear hB hK hE hkb
  cases hf : f k with
  | none =>
    have HF := hide hf
    have HFn := hide (rfind_any W HL.out (by have := HVL.out; have := HN0.out; omega) k (-1) (fnd_no HM.out hf))
    clear hf hz0
    go_upto_region 2 with (first | ((with_reducible refine wpList_ldK ?_ (.tmp 3) ?_ kb 0 ?_ k HK.out.rng ?_); rfl; rfl; rfl) | (go_at_call 43; (with_reducible refine HFn.out.mono ?_); rintro e w2 ⟨rfl, hb⟩; have HB2 := hide (HB.out.trans (hb.mono HB.out.size)); have HE2 := hide (HE.out.below hb); clear hb))
    go_wp2_with (first | (refine wpList_val (eV eZ) (by rfl) (run_bdE0 (by rfl) _) ?_) | ((with_reducible refine wpList_stEB ?_ (.tmp 4) (.tmp 15) ?_ (kb + 1) ?_ eZ eZ ?_ HE2.out ?_); rfl; rfl; rfl; rfl; intro w4 h4 hg4))
    refine ⟨rfl, _, results_cell_tmp (p := 4) (q := 5) (ty := ET) rfl _ _ ⟨kb + 1, 0, none⟩ rfl (eV eZ) (.bool false) rfl (loadE h4.out.rng), by rw [HF.out]; rfl, ?_⟩
    rw [upd_noop HF.out]
    exact HRX.out.nBelow (HB2.out.grown hg4.out HB2.out.size (fun j hj => by cases hj; have := HKB.out; omega))
  | some u =>
    obtain ⟨at_, hi, hr⟩ := fnd_yes HM.out hf
    have HF := hide hf
    have HAt := hide hi
    have HFn := hide (rfind_any W HL.out (by have := HVL.out; have := HN0.out; omega) k at_ hr)
    have hi0 : ¬ ((at_ : Int) < 0) := by omega
    clear hf hr hi
    go_upto_region 2 with (first | ((with_reducible refine wpList_ldK ?_ (.tmp 3) ?_ kb 0 ?_ k HK.out.rng ?_); rfl; rfl; rfl) | (go_at_call 43; (with_reducible refine HFn.out.mono ?_); rintro e w2 ⟨rfl, hb⟩; have HB2 := hide (HB.out.trans (hb.mono HB.out.size)); have HE2 := hide (HE.out.below hb); have HL2 := hide (HL.out.below hb); clear hb))
    obtain ⟨ao, n, c, hq, hnV, _, hrow⟩ := HL2.out.open
    obtain ⟨g, rfl, hrg⟩ := hrow at_ (k, u) HAt.out
    have HRG := hide (kd_entAt hrg)
    have cq : w2.cell? ⟨q, 0, none⟩ = some (.slice (some ⟨g, 0, none⟩) n c) := by rw [hq.cell]; rfl
    have lq := hq.lt
    have hin : (at_ : Int) < (n : Int) := by have h1 := (List.getElem?_eq_some_iff.1 HAt.out).1; have h2 := hnV.out; omega
    have HE0 : Hid (EB (w2.alloc (.cells (eA eZ) ET)) w2.heap.size eZ) := hide (EB.made w2 eZ)
    clear hq hrow hrg HL HK HE HFn
    go_upto_region 5 with (first | ((with_reducible refine wpList_ldE ?_ (.tmp 22) ?_ g (at_ * 36 + 32) ?_ u HRG.out ?_); rfl; rfl; rfl) | ((with_reducible refine wpList_stEB ?_ (.tmp 7) (.tmp 23) ?_ w2.heap.size ?_ eZ u ?_ HE0.out ?_); rfl; rfl; rfl; rfl; intro w3 h3 hg3))
    have hb3 : Below w2.heap.size w2 w3 := below_grownBy (grownBy_trans (World.grownBy_alloc w2 _ _) hg3.out) (Nat.le_refl _) (Nat.le_refl _)
    have HB3 := hide (HB2.out.trans (hb3.mono HB2.out.size))
    have HE3 := hide (HE2.out.below hb3)
    obtain ⟨eb, heb⟩ : ∃ b, b = w2.heap.size := ⟨_, rfl⟩
    have HEB : Hid (w.heap.size ≤ eb) := hide (by rw [heb]; exact HB2.out.size)
    rw [← heb] at h3 ⊢
    have HU3 := hide h3.out
    have HS0 : Hid (RwS w w3 (.slice none 0 0) []) := hide (RwS.nil HB3.out)
    clear hb3 h3 hg3 heb HE0 HRG cq lq hin HB2 HE2 HL2 HB3 hz0 hnV
    go_upto_region 7 with fail
    go_loopw [8, 9] (fun t8 t9 wr => ∃ (i : Nat) (v : Value) (A : List KE), t9 = .int .i64 i ∧ v = t8 ∧ i ≤ V.length ∧ Hid (A = (V.take i).eraseIdx at_) ∧ RwS w wr v A ∧ EB wr (kb + 1) eZ ∧ EB wr eb u) (fun _ t9 _ => V.length - (intOf t9).toNat)
    case atStart => exact ⟨0, _, [], rfl, rfl, by omega, hide (by simp), HS0.out, HE3.out, HU3.out⟩
    case round =>
      obtain ⟨i, v, A, rfl, rfl, hi, hA, hS, hE, hU⟩ := hrel
      have HSx := hide hS
      have HEx := hide hE
      have HUx := hide hU
      have hL := HH.out.below hS.bel
      obtain ⟨ao, n, c, hq, hnV, _, hrow⟩ := hL.open
      have HRow := hide hrow
      have HLx := hide hL
      have cq : wr.cell? ⟨q, 0, none⟩ = some (.slice ao n c) := by rw [hq.cell]; rfl
      have lq := hq.lt
      have hin : i ≤ n := by rw [hnV.out]; exact hi
      have hn2 : n ≤ 1099511627776 := by rw [hnV.out]; have := HVL.out; have := HN0.out; omega
      have HI : Hid (i ≤ V.length) := hide hi
      have HAl : Hid (A.length ≤ i) := hide (by
        rw [hA.out]
        have h1 := (List.eraseIdx_sublist (V.take i) at_).length_le
        have h2 := List.length_take_le i V
        omega)
      have HNL : Hid (V.length ≤ 1099511627776) := hide (by have := HVL.out; have := HN0.out; omega)
      clear hS hE hU hL hrow hq hi HS0 HE3 HU3
      by_cases hlt : i < n
      · have hji : (i : Int) < (n : Int) := by omega
        obtain ⟨z, hz⟩ : ∃ z, V[i]? = some z := ⟨_, List.getElem?_eq_getElem (by rw [← hnV.out]; exact hlt)⟩
        obtain ⟨g, rfl, hrg⟩ := HRow.out i z hz
        have HZ := hide hz
        have HRZ := hide hrg
        have hi2 : Hid (i + 1 ≤ V.length) := hide (by have := hnV.out; omega)
        clear hz hrg HRow
        by_cases hat : i = at_
        · have hne : ((i : Int) != (at_ : Int)) = false := by simp [hat]
          have HA2 : Hid (A = (V.take (i + 1)).eraseIdx at_) := hide (by rw [hA.out, ← hat, erase_skip HZ.out])
          clear hat
          go_wp2
          go_roundw
          case rel => exact ⟨i + 1, v, A, by go_num, rfl, hi2.out, HA2, HSx.out, HEx.out, HUx.out⟩
          case measure => have := hi2.out; simp [intOf]; omega
        · have hne : ((i : Int) != (at_ : Int)) = true := by simp; omega
          have HA2 : Hid (A ++ [z] = (V.take (i + 1)).eraseIdx at_) := hide (by rw [hA.out, erase_next HZ.out hat])
          have PO := hide (HSx.out.own1 z).1
          have PZ := hide (HSx.out.own1 z).2.1
          have PB := hide (HSx.out.own1 z).2.2
          have PL : Hid (A.length + 1 ≤ 2199023255552) := hide (by have := HAl.out; have := HNL.out; have := HI.out; omega)
          clear hat
          go_wp2_with (first | ((with_reducible refine wpList_ldKD ?_ (.tmp 42) ?_ g (i * 36) ?_ z HRZ.out ?_); rfl; rfl; rfl) | ((with_reducible refine wpList_bsD ?_ (.tmp 43) z ?_ ?_ ?_); rfl; rfl; rfl) | ((with_reducible refine wpList_appD ?_ (.tmp 36) (.tmp 44) ?_ w.heap.size v A ?_ PO.out wr.heap.size ?_ z PZ.out PL.out PB.out ?_); rfl; rfl; rfl; rfl; intro v4 w4 HO4 HG4 HV4))
          obtain ⟨hs4, hk4⟩ := HSx.out.step HO4.out HG4.out
          have HS4 := hide hs4
          have HE4 := hide (hk4 HEx.out (by decide))
          have HU4 := hide (hk4 HUx.out (by decide))
          clear hs4 hk4
          go_roundw
          case rel => exact ⟨i + 1, v4, A ++ [z], by go_num, rfl, hi2.out, HA2, HS4.out, HE4.out, HU4.out⟩
          case measure => have := hi2.out; simp [intOf]; omega
      · have hji : ¬ (i : Int) < (n : Int) := by omega
        have hiV : i = V.length := by have := hnV.out; omega
        have HXM := hide (del_maps HM.out HRS.out HAt.out)
        have HIN : Hid (A = V.eraseIdx at_) := hide (by rw [hA.out, hiV, List.take_length])
        obtain ⟨ao1, n1, c1, rfl⟩ := HSx.out.ow.slice'
        obtain ⟨hf1, hf2⟩ := HSx.out.fin HH.out
        have HF1 := hide hf1
        have HF2 := hide hf2
        have fz : wr.frozen? ⟨q, 0, none⟩ = false := by obtain ⟨u, h1, _⟩ := HLx.out.ex; exact h1.frozen 0
        have hqk : kb + 1 ≠ q := fun e => by
          obtain ⟨u2, h1, _⟩ := HLx.out.ex
          rw [← e] at h1
          exact blk_ne HEx.out h1 (by decide) rfl
        have hqe : eb ≠ q := fun e => by
          obtain ⟨u2, h1, _⟩ := HLx.out.ex
          rw [← e] at h1
          exact blk_ne HUx.out h1 (by decide) rfl
        have hgs := grownBy_set wr q 0 (.slice ao1 n1 c1)
        have HE5 : Hid (EB (wr.setCell ⟨q, 0, none⟩ (.slice ao1 n1 c1)) (kb + 1) eZ) := hide (Blk.grown HEx.out hgs (fun e => hqk (Option.some.inj e)))
        have HU5 : Hid (EB (wr.setCell ⟨q, 0, none⟩ (.slice ao1 n1 c1)) eb u) := hide (Blk.grown HUx.out hgs (fun e => hqe (Option.some.inj e)))
        clear hf1 hf2 HRow hiV hA hqk hqe hgs
        go_upto_region 12 with fail
        refine name_world (fun W5 => RlAt W5 q A ∧ w.grownBy W5 (some q) ∧ EB W5 (kb + 1) eZ ∧ EB W5 eb u) ⟨HF1.out, HF2.out, HE5.out, HU5.out⟩ ?_
        rintro W5 ⟨hr5, hg5, he5, hu5⟩
        have HR5 := hide hr5
        have HG5 := hide hg5
        have HE6 := hide he5
        have HU6 := hide hu5
        clear hr5 hg5 he5 hu5 HE5 HU5 HF1 HF2 cq lq fz
        go_wp2_with (first | ((with_reducible refine wpList_ldE ?_ (.tmp 7) ?_ eb 0 ?_ u HU6.out.rng ?_); rfl; rfl; rfl) | ((with_reducible refine wpList_stEB ?_ (.tmp 4) (.tmp 50) ?_ (kb + 1) ?_ eZ u ?_ HE6.out ?_); rfl; rfl; rfl; rfl; intro w6 h6 hg6))
        refine ⟨rfl, _, results_cell_tmp (p := 4) (q := 5) (ty := ET) rfl _ _ ⟨kb + 1, 0, none⟩ rfl (eV u) (.bool true) rfl (loadE h6.out.rng), by rw [HF.out]; rfl, ⟨A, ?_, ?_, ?_, ?_⟩, ?_⟩
        · refine HR5.out.grown hg6.out (fun e => ?_) (fun g cs hg e => ?_)
          · obtain ⟨u2, h1, _⟩ := HR5.out.ex
            rw [Option.some.inj e] at h1
            exact blk_ne HE6.out h1 (by decide) rfl
          · rw [Option.some.inj e] at hg
            exact blk_ne HE6.out hg (by decide) rfl
        · rw [HIN.out]; exact HXM.out.1
        · rw [HIN.out]; exact HXM.out.2.1
        · rw [HIN.out]; have := HXM.out.2.2; have := HVL.out; omega
        · refine ⟨hg6.out.os.trans HG5.out.os, hg6.out.tape.trans HG5.out.tape, hg6.out.output.trans HG5.out.output, Nat.le_trans HG5.out.size hg6.out.size, fun b hb hne => ?_⟩
          have := HG5.out.size
          exact (hg6.out.block b (by omega) (fun e => by have := Option.some.inj e; have := HKB.out; omega)).trans (HG5.out.block b hb hne)
end TX
end Go.Proofs.Ytdigjpddmfolgaa

/- The document's index: the drawn region of with. -/
namespace Go.Proofs.Ytdigjpddmfolgaa
set_option linter.unusedVariables false
set_option linter.unusedSimpArgs false
namespace TX
set_option maxRecDepth 100000
set_option maxHeartbeats 8000000
open Go.RowKit Go.Sort

theorem fKD0 (z o : Nat) (w : World) : (Instr.fieldAt KDT (.pointer (some ⟨z, o, none⟩)) 0).run Try.prog w = .ok (.pointer (some ⟨z, o + 0, none⟩)) w := by kernel_rfl
theorem load_kl {w : World} {b o : Nat} {v : Value} (h : w.cell? ⟨b, o, none⟩ = some v) : (Instr.loadAt KLT (.pointer (some ⟨b, o, none⟩))).run Try.prog w = .ok v w := by
  have hu := Try.underlying43
  simp [go_sem, h, hu]
theorem run_idxD {op : Oper} {ev : Operand → Value} {x y : Operand} {g n c j : Nat} (ho : op.op = .indexAddr KLT x y) (hx : ev x = .slice (some ⟨g, 0, none⟩) n c) (hy : ev y = .int .i64 (j : Int)) (h : (j : Int) < (n : Int)) (w : World) : (execOp ev op).run Try.prog w = .ok (.value (.pointer (some ⟨g, j * 36, none⟩))) w := by
  have hu := Try.underlying43
  have hs : (sizeOf KDT).run Try.prog w = .ok 36 w := by kernel_rfl
  simp only [execOp, ho, hx, hy]
  simp [go_sem, hu, hs, h]
theorem run_appD {op : Oper} {ev : Operand → Value} {x y : Operand} {u v r : Value} {w w' : World} (ho : op.op = .call { callee := .builtin .append, args := #[x, y], argTypes := #[KLT, KLT] }) (hx : ev x = u) (hy : ev y = v) (hty : op.type = KLT) (h : (Builtin.append_ #[KLT, KLT] KLT #[u, v]).run Try.prog w = .ok r w') : (execOp ev op).run Try.prog w = .ok (.value r) w' := by
  unfold execOp
  simp only [ho, resolve, invoke, builtin, Sem.run_bind, Sem.run_pure, Result.andThen_ok, List.map_toArray, List.map_cons, List.map_nil, hx, hy, hty, h]
def wt_0 (s : String) : Oper := { dst := some 20, op := Op.move (Operand.tmp 6), type := 43, pos := s, after := #[], guard := none }
def wt_1 (s : String) : Oper := { dst := some 21, op := Op.move (Operand.tmp 0), type := 27, pos := s, after := #[], guard := none }
def wt_2 (s : String) : Oper := { dst := some 22, op := Op.nilCheck (Operand.tmp 21), type := 0, pos := s, after := #[{ on := 1, ground := Ground.data }], guard := none }
def wt_3 (s : String) : Oper := { dst := some 23, op := Op.fieldAddr 45 (Operand.tmp 22) 0, type := 0, pos := s, after := #[{ on := 2, ground := Ground.data }], guard := none }
def wt_4 (s : String) : Oper := { dst := some 24, op := Op.load 43 (Operand.tmp 23), type := 43, pos := s, after := #[{ on := 3, ground := Ground.data }], guard := none }
def wt_5 (s : String) : Oper := { dst := some 25, op := Op.move (Operand.tmp 7), type := 3, pos := s, after := #[], guard := none }
def wt_6 (s : String) : Oper := { dst := some 26, op := Op.indexAddr 43 (Operand.tmp 24) (Operand.tmp 25), type := 0, pos := s, after := #[{ on := 4, ground := Ground.data }, { on := 5, ground := Ground.data }], guard := none }
def wt_7 (s : String) : Oper := { dst := some 27, op := Op.fieldAddr 57 (Operand.tmp 26) 0, type := 0, pos := s, after := #[{ on := 6, ground := Ground.data }], guard := none }
def wt_8 (s : String) : Oper := { dst := some 28, op := Op.load 32 (Operand.tmp 27), type := 32, pos := s, after := #[{ on := 7, ground := Ground.data }], guard := none }
def wt_9 (s : String) : Oper := { dst := some 29, op := Op.load 37 (Operand.tmp 5), type := 37, pos := s, after := #[], guard := none }
def wt_10 (s : String) : Oper := { dst := some 30, op := Op.build 57 #[(0, Operand.tmp 28), (1, Operand.tmp 29)], type := 57, pos := s, after := #[{ on := 8, ground := Ground.data }, { on := 9, ground := Ground.data }], guard := none }
def wt_11 (s : String) : Oper := { dst := some 31, op := Op.buildSlice 43 1 #[(0, Operand.tmp 30)], type := 43, pos := s, after := #[{ on := 10, ground := Ground.data }], guard := none }
def wt_12 (s : String) : Oper := { dst := some 32, op := Op.call { callee := Callee.builtin Builtin.append, args := #[Operand.tmp 20, Operand.tmp 31], argTypes := #[43, 43] }, type := 43, pos := s, after := #[{ on := 0, ground := Ground.data }, { on := 11, ground := Ground.data }], guard := none }
def wt_13 (s : String) : Oper := { dst := some 6, op := Op.assign (Operand.tmp 32), type := 43, pos := s, after := #[{ on := 12, ground := Ground.data }, { on := 12, ground := Ground.chain }, { on := 0, ground := Ground.phase }, { on := 1, ground := Ground.phase }, { on := 2, ground := Ground.phase }, { on := 3, ground := Ground.phase }, { on := 4, ground := Ground.phase }, { on := 5, ground := Ground.phase }, { on := 6, ground := Ground.phase }, { on := 7, ground := Ground.phase }, { on := 8, ground := Ground.phase }, { on := 9, ground := Ground.phase }, { on := 10, ground := Ground.phase }, { on := 11, ground := Ground.phase }, { on := 12, ground := Ground.phase }], guard := none }
def wt_ops (s : String) : Array Oper := #[wt_0 s, wt_1 s, wt_2 s, wt_3 s, wt_4 s, wt_5 s, wt_6 s, wt_7 s, wt_8 s, wt_9 s, wt_10 s, wt_11 s, wt_12 s, wt_13 s]
theorem wt_walk (s : String) {Q : Exit → Act → World → Prop} (hQ : ∀ c (a : Act) t v w, Q (.panic c) (a.put (some t) v) w → Q (.panic c) a w) (W : World) (q g kb n c i : Nat) (k : KY) (e : EN) (v : Value) (M : Value → World → Prop) (hin : (i : Int) < (n : Int)) (hS0 : W.drew.cell? ⟨q, 0, none⟩ = some (.slice (some ⟨g, 0, none⟩) n c) ∧ W.drew.rangeAt g (i * 36) (kC k) ∧ W.drew.rangeAt kb 0 (eC e)) (hk1 : (W.drew.alloc (.cells (kdA (k, e)) KDT)).cell? ⟨q, 0, none⟩ = some (.slice (some ⟨g, 0, none⟩) n c) ∧ (W.drew.alloc (.cells (kdA (k, e)) KDT)).rangeAt g (i * 36) (kC k) ∧ (W.drew.alloc (.cells (kdA (k, e)) KDT)).rangeAt kb 0 (eC e)) (happ : ∃ v5 w5, (Builtin.append_ #[KLT, KLT] KLT #[v, .slice (some ⟨W.drew.heap.size, 0, none⟩) 1 1]).run Try.prog (W.drew.alloc (.cells (kdA (k, e)) KDT)) = .ok v5 w5 ∧ M v5 w5 ∧ w5.cell? ⟨q, 0, none⟩ = some (.slice (some ⟨g, 0, none⟩) n c) ∧ w5.rangeAt g (i * 36) (kC k) ∧ w5.rangeAt kb 0 (eC e))
    (a : Act) (hs : 32 < a.tmps.size) (e0 : a.eval (.tmp 0) = .pointer (some ⟨q, 0, none⟩)) (e5 : a.eval (.tmp 5) = .pointer (some ⟨kb, 0, none⟩)) (e6 : a.eval (.tmp 6) = v) (e7 : a.eval (.tmp 7) = .int .i64 (i : Int))
    (h0 : ∀ v5 w5, M v5 w5 → Q .normal ((((((((((((((a.put (some 20) (v)).put (some 21) (.pointer (some ⟨q, 0, none⟩))).put (some 22) (.pointer (some ⟨q, 0, none⟩))).put (some 23) (.pointer (some ⟨q, 0, none⟩))).put (some 24) (.slice (some ⟨g, 0, none⟩) n c)).put (some 25) (.int .i64 (i : Int))).put (some 26) (.pointer (some ⟨g, i * 36, none⟩))).put (some 27) (.pointer (some ⟨g, i * 36 + 0, none⟩))).put (some 28) (kV k)).put (some 29) (eV e)).put (some 30) (kdV (k, e))).put (some 31) (.slice (some ⟨W.drew.heap.size, 0, none⟩) 1 1)).put (some 32) (v5)).put (some 6) (v5)) w5) :
    Code.wp Try.prog (.region 6 (wt_ops s) true) Q a W := by
  refine wp_region_held_drew (S := fun w => w.cell? ⟨q, 0, none⟩ = some (.slice (some ⟨g, 0, none⟩) n c) ∧ w.rangeAt g (i * 36) (kC k) ∧ w.rangeAt kb 0 (eC e)) (by kernel_rfl) hS0 (fun hS => ?_)
  change wpAnyH _ _ _ _ _ _ _ _ (World.drew _)
  refine wpAnyH_take (i := 0) (oi := wt_0 s) (v := v) (by kernel_rfl) (by kernel_rfl) (by kernel_rfl) (by kernel_rfl) (fun c a w h => hQ c _ _ _ w h) (Or.inl ⟨wanted_none rfl, fun w hw => by simp only [execOp, wt_0, e6]; rfl⟩) hS ?_
  change wpAnyH _ _ _ _ _ _ _ (a.put (some 20) (v)) _
  obtain ⟨a0_1, ha1⟩ : ∃ rr : Act, rr = a.put (some 20) (v) := ⟨_, rfl⟩
  have qz1 : 32 < a0_1.tmps.size := by rw [ha1, sz_put]; exact hs
  have f1_0 : a0_1.eval (.tmp 0) = .pointer (some ⟨q, 0, none⟩) := by rw [ha1, ev_other _ _ _ _ (by decide)]; exact e0
  have f1_5 : a0_1.eval (.tmp 5) = .pointer (some ⟨kb, 0, none⟩) := by rw [ha1, ev_other _ _ _ _ (by decide)]; exact e5
  have f1_7 : a0_1.eval (.tmp 7) = .int .i64 (i : Int) := by rw [ha1, ev_other _ _ _ _ (by decide)]; exact e7
  have f1_20 : a0_1.eval (.tmp 20) = v := by rw [ha1]; exact ev_same _ _ _ (Nat.lt_of_le_of_lt (by decide) hs)
  rw [← ha1] at h0 ⊢
  clear ha1
  refine wpAnyH_take (i := 1) (oi := wt_1 s) (v := .pointer (some ⟨q, 0, none⟩)) (by kernel_rfl) (by kernel_rfl) (by kernel_rfl) (by kernel_rfl) (fun c a w h => hQ c _ _ _ w h) (Or.inl ⟨wanted_none rfl, fun w hw => by simp only [execOp, wt_1, f1_0]; rfl⟩) hS ?_
  change wpAnyH _ _ _ _ _ _ _ (a0_1.put (some 21) (.pointer (some ⟨q, 0, none⟩))) _
  obtain ⟨a0_2, ha2⟩ : ∃ rr : Act, rr = a0_1.put (some 21) (.pointer (some ⟨q, 0, none⟩)) := ⟨_, rfl⟩
  have qz2 : 32 < a0_2.tmps.size := by rw [ha2, sz_put]; exact qz1
  have f2_5 : a0_2.eval (.tmp 5) = .pointer (some ⟨kb, 0, none⟩) := by rw [ha2, ev_other _ _ _ _ (by decide)]; exact f1_5
  have f2_7 : a0_2.eval (.tmp 7) = .int .i64 (i : Int) := by rw [ha2, ev_other _ _ _ _ (by decide)]; exact f1_7
  have f2_20 : a0_2.eval (.tmp 20) = v := by rw [ha2, ev_other _ _ _ _ (by decide)]; exact f1_20
  have f2_21 : a0_2.eval (.tmp 21) = .pointer (some ⟨q, 0, none⟩) := by rw [ha2]; exact ev_same _ _ _ (Nat.lt_of_le_of_lt (by decide) qz1)
  rw [← ha2] at h0 ⊢
  clear ha2
  refine wpAnyH_take (i := 2) (oi := wt_2 s) (v := .pointer (some ⟨q, 0, none⟩)) (by kernel_rfl) (by kernel_rfl) (by kernel_rfl) (by kernel_rfl) (fun c a w h => hQ c _ _ _ w h) (Or.inl ⟨wanted_none rfl, fun w hw => by simp only [execOp, wt_2, f2_21]; rfl⟩) hS ?_
  change wpAnyH _ _ _ _ _ _ _ (a0_2.put (some 22) (.pointer (some ⟨q, 0, none⟩))) _
  obtain ⟨a0_3, ha3⟩ : ∃ rr : Act, rr = a0_2.put (some 22) (.pointer (some ⟨q, 0, none⟩)) := ⟨_, rfl⟩
  have qz3 : 32 < a0_3.tmps.size := by rw [ha3, sz_put]; exact qz2
  have f3_5 : a0_3.eval (.tmp 5) = .pointer (some ⟨kb, 0, none⟩) := by rw [ha3, ev_other _ _ _ _ (by decide)]; exact f2_5
  have f3_7 : a0_3.eval (.tmp 7) = .int .i64 (i : Int) := by rw [ha3, ev_other _ _ _ _ (by decide)]; exact f2_7
  have f3_20 : a0_3.eval (.tmp 20) = v := by rw [ha3, ev_other _ _ _ _ (by decide)]; exact f2_20
  have f3_22 : a0_3.eval (.tmp 22) = .pointer (some ⟨q, 0, none⟩) := by rw [ha3]; exact ev_same _ _ _ (Nat.lt_of_le_of_lt (by decide) qz2)
  rw [← ha3] at h0 ⊢
  clear ha3
  refine wpAnyH_take (i := 3) (oi := wt_3 s) (v := .pointer (some ⟨q, 0, none⟩)) (by kernel_rfl) (by kernel_rfl) (by kernel_rfl) (by kernel_rfl) (fun c a w h => hQ c _ _ _ w h) (Or.inl ⟨wanted_none rfl, fun w hw => by simp only [execOp, wt_3, f3_22]; rfl⟩) hS ?_
  change wpAnyH _ _ _ _ _ _ _ (a0_3.put (some 23) (.pointer (some ⟨q, 0, none⟩))) _
  obtain ⟨a0_4, ha4⟩ : ∃ rr : Act, rr = a0_3.put (some 23) (.pointer (some ⟨q, 0, none⟩)) := ⟨_, rfl⟩
  have qz4 : 32 < a0_4.tmps.size := by rw [ha4, sz_put]; exact qz3
  have f4_5 : a0_4.eval (.tmp 5) = .pointer (some ⟨kb, 0, none⟩) := by rw [ha4, ev_other _ _ _ _ (by decide)]; exact f3_5
  have f4_7 : a0_4.eval (.tmp 7) = .int .i64 (i : Int) := by rw [ha4, ev_other _ _ _ _ (by decide)]; exact f3_7
  have f4_20 : a0_4.eval (.tmp 20) = v := by rw [ha4, ev_other _ _ _ _ (by decide)]; exact f3_20
  have f4_23 : a0_4.eval (.tmp 23) = .pointer (some ⟨q, 0, none⟩) := by rw [ha4]; exact ev_same _ _ _ (Nat.lt_of_le_of_lt (by decide) qz3)
  rw [← ha4] at h0 ⊢
  clear ha4
  refine wpAnyH_take (i := 4) (oi := wt_4 s) (v := .slice (some ⟨g, 0, none⟩) n c) (by kernel_rfl) (by kernel_rfl) (by kernel_rfl) (by kernel_rfl) (fun c a w h => hQ c _ _ _ w h) (Or.inl ⟨wanted_none rfl, fun w hw => run_loadO rfl f4_23 (load_kl hw.1)⟩) hS ?_
  change wpAnyH _ _ _ _ _ _ _ (a0_4.put (some 24) (.slice (some ⟨g, 0, none⟩) n c)) _
  obtain ⟨a0_5, ha5⟩ : ∃ rr : Act, rr = a0_4.put (some 24) (.slice (some ⟨g, 0, none⟩) n c) := ⟨_, rfl⟩
  have qz5 : 32 < a0_5.tmps.size := by rw [ha5, sz_put]; exact qz4
  have f5_5 : a0_5.eval (.tmp 5) = .pointer (some ⟨kb, 0, none⟩) := by rw [ha5, ev_other _ _ _ _ (by decide)]; exact f4_5
  have f5_7 : a0_5.eval (.tmp 7) = .int .i64 (i : Int) := by rw [ha5, ev_other _ _ _ _ (by decide)]; exact f4_7
  have f5_20 : a0_5.eval (.tmp 20) = v := by rw [ha5, ev_other _ _ _ _ (by decide)]; exact f4_20
  have f5_24 : a0_5.eval (.tmp 24) = .slice (some ⟨g, 0, none⟩) n c := by rw [ha5]; exact ev_same _ _ _ (Nat.lt_of_le_of_lt (by decide) qz4)
  rw [← ha5] at h0 ⊢
  clear ha5
  refine wpAnyH_take (i := 5) (oi := wt_5 s) (v := .int .i64 (i : Int)) (by kernel_rfl) (by kernel_rfl) (by kernel_rfl) (by kernel_rfl) (fun c a w h => hQ c _ _ _ w h) (Or.inl ⟨wanted_none rfl, fun w hw => by simp only [execOp, wt_5, f5_7]; rfl⟩) hS ?_
  change wpAnyH _ _ _ _ _ _ _ (a0_5.put (some 25) (.int .i64 (i : Int))) _
  obtain ⟨a0_6, ha6⟩ : ∃ rr : Act, rr = a0_5.put (some 25) (.int .i64 (i : Int)) := ⟨_, rfl⟩
  have qz6 : 32 < a0_6.tmps.size := by rw [ha6, sz_put]; exact qz5
  have f6_5 : a0_6.eval (.tmp 5) = .pointer (some ⟨kb, 0, none⟩) := by rw [ha6, ev_other _ _ _ _ (by decide)]; exact f5_5
  have f6_20 : a0_6.eval (.tmp 20) = v := by rw [ha6, ev_other _ _ _ _ (by decide)]; exact f5_20
  have f6_24 : a0_6.eval (.tmp 24) = .slice (some ⟨g, 0, none⟩) n c := by rw [ha6, ev_other _ _ _ _ (by decide)]; exact f5_24
  have f6_25 : a0_6.eval (.tmp 25) = .int .i64 (i : Int) := by rw [ha6]; exact ev_same _ _ _ (Nat.lt_of_le_of_lt (by decide) qz5)
  rw [← ha6] at h0 ⊢
  clear ha6
  refine wpAnyH_take (i := 6) (oi := wt_6 s) (v := .pointer (some ⟨g, i * 36, none⟩)) (by kernel_rfl) (by kernel_rfl) (by kernel_rfl) (by kernel_rfl) (fun c a w h => hQ c _ _ _ w h) (Or.inl ⟨wanted_none rfl, fun w hw => run_idxD rfl f6_24 f6_25 hin w⟩) hS ?_
  change wpAnyH _ _ _ _ _ _ _ (a0_6.put (some 26) (.pointer (some ⟨g, i * 36, none⟩))) _
  obtain ⟨a0_7, ha7⟩ : ∃ rr : Act, rr = a0_6.put (some 26) (.pointer (some ⟨g, i * 36, none⟩)) := ⟨_, rfl⟩
  have qz7 : 32 < a0_7.tmps.size := by rw [ha7, sz_put]; exact qz6
  have f7_5 : a0_7.eval (.tmp 5) = .pointer (some ⟨kb, 0, none⟩) := by rw [ha7, ev_other _ _ _ _ (by decide)]; exact f6_5
  have f7_20 : a0_7.eval (.tmp 20) = v := by rw [ha7, ev_other _ _ _ _ (by decide)]; exact f6_20
  have f7_26 : a0_7.eval (.tmp 26) = .pointer (some ⟨g, i * 36, none⟩) := by rw [ha7]; exact ev_same _ _ _ (Nat.lt_of_le_of_lt (by decide) qz6)
  rw [← ha7] at h0 ⊢
  clear ha7
  refine wpAnyH_take (i := 7) (oi := wt_7 s) (v := .pointer (some ⟨g, i * 36 + 0, none⟩)) (by kernel_rfl) (by kernel_rfl) (by kernel_rfl) (by kernel_rfl) (fun c a w h => hQ c _ _ _ w h) (Or.inl ⟨wanted_none rfl, fun w hw => fld KDT g (i * 36) 0 0 (fKD0 g (i * 36)) rfl f7_26 w⟩) hS ?_
  change wpAnyH _ _ _ _ _ _ _ (a0_7.put (some 27) (.pointer (some ⟨g, i * 36 + 0, none⟩))) _
  obtain ⟨a0_8, ha8⟩ : ∃ rr : Act, rr = a0_7.put (some 27) (.pointer (some ⟨g, i * 36 + 0, none⟩)) := ⟨_, rfl⟩
  have qz8 : 32 < a0_8.tmps.size := by rw [ha8, sz_put]; exact qz7
  have f8_5 : a0_8.eval (.tmp 5) = .pointer (some ⟨kb, 0, none⟩) := by rw [ha8, ev_other _ _ _ _ (by decide)]; exact f7_5
  have f8_20 : a0_8.eval (.tmp 20) = v := by rw [ha8, ev_other _ _ _ _ (by decide)]; exact f7_20
  have f8_27 : a0_8.eval (.tmp 27) = .pointer (some ⟨g, i * 36 + 0, none⟩) := by rw [ha8]; exact ev_same _ _ _ (Nat.lt_of_le_of_lt (by decide) qz7)
  rw [← ha8] at h0 ⊢
  clear ha8
  refine wpAnyH_take (i := 8) (oi := wt_8 s) (v := kV k) (by kernel_rfl) (by kernel_rfl) (by kernel_rfl) (by kernel_rfl) (fun c a w h => hQ c _ _ _ w h) (Or.inl ⟨wanted_none rfl, fun w hw => run_loadO rfl f8_27 (run_ldK hw.2.1)⟩) hS ?_
  change wpAnyH _ _ _ _ _ _ _ (a0_8.put (some 28) (kV k)) _
  obtain ⟨a0_9, ha9⟩ : ∃ rr : Act, rr = a0_8.put (some 28) (kV k) := ⟨_, rfl⟩
  have qz9 : 32 < a0_9.tmps.size := by rw [ha9, sz_put]; exact qz8
  have f9_5 : a0_9.eval (.tmp 5) = .pointer (some ⟨kb, 0, none⟩) := by rw [ha9, ev_other _ _ _ _ (by decide)]; exact f8_5
  have f9_20 : a0_9.eval (.tmp 20) = v := by rw [ha9, ev_other _ _ _ _ (by decide)]; exact f8_20
  have f9_28 : a0_9.eval (.tmp 28) = kV k := by rw [ha9]; exact ev_same _ _ _ (Nat.lt_of_le_of_lt (by decide) qz8)
  rw [← ha9] at h0 ⊢
  clear ha9
  refine wpAnyH_take (i := 9) (oi := wt_9 s) (v := eV e) (by kernel_rfl) (by kernel_rfl) (by kernel_rfl) (by kernel_rfl) (fun c a w h => hQ c _ _ _ w h) (Or.inl ⟨wanted_none rfl, fun w hw => run_loadO rfl f9_5 (run_ldE hw.2.2)⟩) hS ?_
  change wpAnyH _ _ _ _ _ _ _ (a0_9.put (some 29) (eV e)) _
  obtain ⟨a0_10, ha10⟩ : ∃ rr : Act, rr = a0_9.put (some 29) (eV e) := ⟨_, rfl⟩
  have qz10 : 32 < a0_10.tmps.size := by rw [ha10, sz_put]; exact qz9
  have f10_20 : a0_10.eval (.tmp 20) = v := by rw [ha10, ev_other _ _ _ _ (by decide)]; exact f9_20
  have f10_28 : a0_10.eval (.tmp 28) = kV k := by rw [ha10, ev_other _ _ _ _ (by decide)]; exact f9_28
  have f10_29 : a0_10.eval (.tmp 29) = eV e := by rw [ha10]; exact ev_same _ _ _ (Nat.lt_of_le_of_lt (by decide) qz9)
  rw [← ha10] at h0 ⊢
  clear ha10
  refine wpAnyH_take (i := 10) (oi := wt_10 s) (v := kdV (k, e)) (by kernel_rfl) (by kernel_rfl) (by kernel_rfl) (by kernel_rfl) (fun c a w h => hQ c _ _ _ w h) (Or.inl ⟨wanted_none rfl, fun w hw => run_bdKD rfl k e f10_28 f10_29 w⟩) hS ?_
  change wpAnyH _ _ _ _ _ _ _ (a0_10.put (some 30) (kdV (k, e))) _
  obtain ⟨a0_11, ha11⟩ : ∃ rr : Act, rr = a0_10.put (some 30) (kdV (k, e)) := ⟨_, rfl⟩
  have qz11 : 32 < a0_11.tmps.size := by rw [ha11, sz_put]; exact qz10
  have f11_20 : a0_11.eval (.tmp 20) = v := by rw [ha11, ev_other _ _ _ _ (by decide)]; exact f10_20
  have f11_30 : a0_11.eval (.tmp 30) = kdV (k, e) := by rw [ha11]; exact ev_same _ _ _ (Nat.lt_of_le_of_lt (by decide) qz10)
  rw [← ha11] at h0 ⊢
  clear ha11
  refine wpAnyH_ready (rs := [11]) (by kernel_rfl) (by simp) ?_
  refine AllReadyH.cons (o := wt_11 s) (by kernel_rfl) (fun KQ hKQ => ?_) AllReadyH.nil
  rw [if_pos (wanted_none rfl)]
  refine step_runE (.slice (some ⟨W.drew.heap.size, 0, none⟩) 1 1) ((W.drew.alloc (.cells (kdA (k, e)) KDT))) (run_bsD (k, e) rfl f11_30) ?_
  refine hKQ.out _ _ (hk1) (fun _ => ?_)
  clear hKQ KQ
  change wpAnyH _ _ _ _ _ _ _ (a0_11.put (some 31) (.slice (some ⟨W.drew.heap.size, 0, none⟩) 1 1)) _
  obtain ⟨a0_12, ha12⟩ : ∃ rr : Act, rr = a0_11.put (some 31) (.slice (some ⟨W.drew.heap.size, 0, none⟩) 1 1) := ⟨_, rfl⟩
  have qz12 : 32 < a0_12.tmps.size := by rw [ha12, sz_put]; exact qz11
  have f12_20 : a0_12.eval (.tmp 20) = v := by rw [ha12, ev_other _ _ _ _ (by decide)]; exact f11_20
  have f12_31 : a0_12.eval (.tmp 31) = .slice (some ⟨W.drew.heap.size, 0, none⟩) 1 1 := by rw [ha12]; exact ev_same _ _ _ (Nat.lt_of_le_of_lt (by decide) qz11)
  rw [← ha12] at h0 ⊢
  clear ha12
  refine wpAnyH_ready (rs := [12]) (by kernel_rfl) (by simp) ?_
  refine AllReadyH.cons (o := wt_12 s) (by kernel_rfl) (fun KQ hKQ => ?_) AllReadyH.nil
  rw [if_pos (wanted_none rfl)]
  obtain ⟨v5, w5, hrun, hM5, hS5⟩ := happ
  refine step_runE (v5) (w5) (run_appD rfl f12_20 f12_31 rfl hrun) ?_
  refine hKQ.out _ _ (hS5) (fun _ => ?_)
  clear hKQ KQ
  change wpAnyH _ _ _ _ _ _ _ (a0_12.put (some 32) (v5)) _
  have h0 := h0 v5 w5 hM5
  obtain ⟨a0_13, ha13⟩ : ∃ rr : Act, rr = a0_12.put (some 32) (v5) := ⟨_, rfl⟩
  have qz13 : 32 < a0_13.tmps.size := by rw [ha13, sz_put]; exact qz12
  have f13_32 : a0_13.eval (.tmp 32) = v5 := by rw [ha13]; exact ev_same _ _ _ (Nat.lt_of_le_of_lt (by decide) qz12)
  rw [← ha13] at h0 ⊢
  clear ha13
  refine wpAnyH_take (i := 13) (oi := wt_13 s) (v := v5) (by kernel_rfl) (by kernel_rfl) (by kernel_rfl) (by kernel_rfl) (fun c a w h => hQ c _ _ _ w h) (Or.inl ⟨wanted_none rfl, fun w hw => by simp only [execOp, wt_13, f13_32]; rfl⟩) hS5 ?_
  change wpAnyH _ _ _ _ _ _ _ (a0_13.put (some 6) (v5)) _
  obtain ⟨a0_14, ha14⟩ : ∃ rr : Act, rr = a0_13.put (some 6) (v5) := ⟨_, rfl⟩
  have qz14 : 32 < a0_14.tmps.size := by rw [ha14, sz_put]; exact qz13
  rw [← ha14] at h0 ⊢
  clear ha14
  refine wpAnyH_done (by kernel_rfl) ?_ _
  exact h0
end TX
end Go.Proofs.Ytdigjpddmfolgaa

/- The document's index: with, Mark, Move. -/
namespace Go.Proofs.Ytdigjpddmfolgaa
set_option linter.unusedVariables false
set_option linter.unusedSimpArgs false
namespace TX
open Go.RowKit Go.Sort
set_option maxRecDepth 100000
set_option maxHeartbeats 16000000

theorem run_appOwn {w : World} {base : Nat} {v : Value} {A : List KE} (hown : OwnD w base v A) {z : Nat} {e : KE} (hc : Blk w z (kdA e) KDT) (hlen : A.length + 1 ≤ 2199023255552) (hbase : base ≤ w.heap.size) :
    ∃ v5 w5, (Builtin.append_ #[KLT, KLT] KLT #[v, .slice (some ⟨z, 0, none⟩) 1 1]).run Try.prog w = .ok v5 w5 ∧ OwnD w5 base v5 (A ++ [e]) ∧ w.grownBy w5 v.ownBlock := by
  obtain ⟨i0, hi, hz0, hz1, hz2⟩ := kdI
  obtain ⟨v', w', hr, r2, r3, _, _⟩ := run_append_own_at (P := Try.prog) w base KLT KLT KDT i0 (kdV kdZ) 36 64 Try.underlying43 hi hz0 hz1 hz2 (kdA_size _) (by decide) v A.length (A.flatMap kdC) hown ⟨z, 0, none⟩ 1 1 (kdC e) (by rw [kdC_len]) (fun j u hj => by rw [Addr.add_mid]; exact (Blk.range hc) j u hj) (kdC_one e) (by unfold maxLen; omega) (by omega) hbase
  refine ⟨v', w', hr, ?_, r3⟩
  unfold OwnD
  rw [List.length_append, List.length_singleton, List.flatMap_append, List.flatMap_singleton]
  exact r2
theorem wp_norm {P : Program} {c : Code} {Q' : Exit → Act → World → Prop} {a : Act} {w : World} (h : c.wp P (Exit.then (fun a w => Q' .normal a w) (fun _ _ _ => False)) a w) : c.wp P Q' a w := wp_mono h (fun e a w q => by cases e <;> first | exact q | exact q.elim)
theorem range_bel {w W : World} {b o : Nat} {cs : List Value} (h : w.rangeAt b o cs) (hb : Below w.heap.size w W) : W.rangeAt b o cs := fun j u hu => (hb.cell (World.block_lt_of_cell? w _ (h j u hu))).trans (h j u hu)
theorem with_any (w : World) {q : Nat} {V : List KE} (h : RlAt w q V) (hn : V.length ≤ 1099511627776) {at_ : Nat} {k : KY} {u : EN} (hat : V[at_]? = some (k, u)) (e : EN) : Calls Try.prog 46 #[.pointer (some ⟨q, 0, none⟩), .int .i64 (at_ : Int), eV e] w fun en w' => en = .returned (.tuple #[]) ∧ RlAt w' q (V.set at_ (k, e)) ∧ w.grownBy w' (some q) := by
  have HH := hide h
  have HNL := hide hn
  have HAt := hide hat
  obtain ⟨ao, n, c, hq0, hnV, _, hrow0⟩ := h.open
  have HFQ : Hid (∀ W, Below w.heap.size w W → W.cell? ⟨q, 0, none⟩ = some (.slice ao n c) ∧ q < W.heap.size ∧ W.frozen? ⟨q, 0, none⟩ = false) := hide (fun W hb => by
    have h1 := hq0.below hb hq0.lt
    exact ⟨by rw [h1.cell]; rfl, h1.lt, h1.frozen 0⟩)
  have HFR : Hid (∀ (i : Nat) (z : KE), V[i]? = some z → ∃ g, ao = some ⟨g, 0, none⟩ ∧ ∀ W, Below w.heap.size w W → W.rangeAt g (i * 36) (kdC z)) := hide (fun i z hz => by
    obtain ⟨g, e1, h1⟩ := hrow0 i z hz
    exact ⟨g, e1, fun W hb => range_bel h1 hb⟩)
  clear h hn hat hq0 hrow0
  go_enter Try.func46, Try.ntmps46
  go_upto_region 1 with fail
  refine name_world (fun W => Below w.heap.size w W ∧ EB W w.heap.size e) ⟨below_alloc w _, EB.made w e⟩ ?_
  rintro W ⟨hB, hE⟩
  obtain ⟨kb, hkb⟩ : ∃ kb, kb = w.heap.size := ⟨_, rfl⟩
  rw [← hkb] at hE ⊢
  have HKB := hide hkb
  have HE := hide hE
  have HS0 : Hid (RwS w W (.slice none 0 0) []) := hide (RwS.nil hB)
  clear hB hE hkb
  go_upto_region 3 with fail
  go_loopw [6, 7] (fun t8 t9 wr => ∃ (i : Nat) (v : Value) (A : List KE), t9 = .int .i64 i ∧ v = t8 ∧ i ≤ V.length ∧ Hid (A = (V.take i).set at_ (k, e)) ∧ RwS w wr v A ∧ EB wr kb e) (fun _ t9 _ => V.length - (intOf t9).toNat)
  case atStart => exact ⟨0, _, [], rfl, rfl, by omega, hide (by simp), HS0.out, HE.out⟩
  case round =>
    obtain ⟨i, v, A, rfl, rfl, hi, hA, hS, hE⟩ := hrel
    have HSx := hide hS
    have HEx := hide hE
    obtain ⟨cq, lq, fz⟩ := HFQ.out wr hS.bel
    have HRow := HFR
    have hin : i ≤ n := by rw [hnV.out]; exact hi
    have hn2 : n ≤ 1099511627776 := by rw [hnV.out]; exact HNL.out
    have HI : Hid (i ≤ V.length) := hide hi
    have HAl : Hid (A.length ≤ i) := hide (by rw [hA.out, List.length_set]; exact List.length_take_le i V)
    clear hS hE hi HS0 HE
    by_cases hlt : i < n
    · have hji : (i : Int) < (n : Int) := by omega
      obtain ⟨z, hz⟩ : ∃ z, V[i]? = some z := ⟨_, List.getElem?_eq_getElem (by rw [← hnV.out]; exact hlt)⟩
      obtain ⟨g, rfl, hrg⟩ := HRow.out i z hz
      have HZ := hide hz
      have HRG := hide hrg
      have HRZ := hide (hrg wr HSx.out.bel)
      have hi2 : Hid (i + 1 ≤ V.length) := hide (by have := hnV.out; omega)
      have PL : Hid (A.length + 1 ≤ 2199023255552) := hide (by have := HAl.out; have := HNL.out; have := HI.out; omega)
      clear hz hrg HRow
      by_cases hat : i = at_
      · have hne : ((i : Int) == (at_ : Int)) = true := by simp [hat]
        have hzk : z = (k, u) := by
          have h1 := HZ.out
          rw [hat, HAt.out] at h1
          exact (Option.some.inj h1).symm
        have HZK : Hid (z.1 = k) := hide (by rw [hzk])
        have HA2 : Hid (A ++ [(k, e)] = (V.take (i + 1)).set at_ (k, e)) := hide (by rw [hA.out, ← hat, set_here HZ.out])
        clear hat hzk
        go_upto_region 6 with fail
        have hbd : RowKit.Below wr.heap.size wr wr.drew := (Below.refl _ _).drew
        have HS1 := hide (HSx.out.below hbd)
        have HE1 := hide (HEx.out.below hbd)
        have hS0 : wr.drew.cell? ⟨q, 0, none⟩ = some (.slice (some ⟨g, 0, none⟩) n c) ∧ wr.drew.rangeAt g (i * 36) (kC z.1) ∧ wr.drew.rangeAt kb 0 (eC e) := ⟨(HFQ.out _ HS1.out.bel).1, kd_keyAt (HRG.out _ HS1.out.bel), HE1.out.rng⟩
        have hba : RowKit.Below wr.drew.heap.size wr.drew (wr.drew.alloc (.cells (kdA (z.1, e)) KDT)) := below_alloc _ _
        have hk1 : (wr.drew.alloc (.cells (kdA (z.1, e)) KDT)).cell? ⟨q, 0, none⟩ = some (.slice (some ⟨g, 0, none⟩) n c) ∧ (wr.drew.alloc (.cells (kdA (z.1, e)) KDT)).rangeAt g (i * 36) (kC z.1) ∧ (wr.drew.alloc (.cells (kdA (z.1, e)) KDT)).rangeAt kb 0 (eC e) := ⟨(HFQ.out _ (HS1.out.below hba).bel).1, kd_keyAt (HRG.out _ (HS1.out.below hba).bel), (HE1.out.below hba).rng⟩
        obtain ⟨v5, w5, ha1, ha2, ha3⟩ := run_appOwn (HS1.out.own1 (z.1, e)).1 (HS1.out.own1 (z.1, e)).2.1 PL.out (HS1.out.own1 (z.1, e)).2.2
        obtain ⟨hs5, hk5⟩ := HS1.out.step ha2 ha3
        have hS5 : w5.cell? ⟨q, 0, none⟩ = some (.slice (some ⟨g, 0, none⟩) n c) ∧ w5.rangeAt g (i * 36) (kC z.1) ∧ w5.rangeAt kb 0 (eC e) := ⟨(HFQ.out _ hs5.bel).1, kd_keyAt (HRG.out _ hs5.bel), EB.rng (hk5 HE1.out (by decide))⟩
        refine wp_norm (wt_walk _ (fun _ _ _ _ _ h => h) wr q g kb n c i z.1 e v (fun v5 w5 => OwnD w5 w.heap.size v5 (A ++ [(z.1, e)]) ∧ (wr.drew.alloc (.cells (kdA (z.1, e)) KDT)).grownBy w5 v.ownBlock) hji hS0 hk1 ⟨v5, w5, ha1, ⟨ha2, ha3⟩, hS5⟩ _ ?_ ?_ ?_ ?_ ?_ ?_)
        any_goals rfl
        · exact Nat.lt_of_sub_pos (by exact Nat.succ_pos _)
        clear hbd hS0 hba hk1 ha1 ha2 ha3 hs5 hk5 hS5 HRZ cq lq fz HSx HEx
        rintro v4 w4 ⟨ho4, hg4⟩
        have HO4 := hide ho4
        have HG4 := hide hg4
        clear ho4 hg4
        simp only [Act.put, List.setIfInBounds_toArray, List.set_cons_zero, List.set_cons_succ, Exit.then]
        obtain ⟨hs4, hk4⟩ := HS1.out.step HO4.out HG4.out
        have HS4 := hide hs4
        have HE4 := hide (hk4 HE1.out (by decide))
        clear hs4 hk4
        go_wp2
        go_roundw
        case rel => exact ⟨i + 1, v4, A ++ [(k, e)], by go_num, rfl, hi2.out, HA2, by rw [← HZK.out]; exact HS4.out, HE4.out⟩
        case measure => have := hi2.out; simp [intOf]; omega
      · have hne : ((i : Int) == (at_ : Int)) = false := by simp; omega
        have HA2 : Hid (A ++ [z] = (V.take (i + 1)).set at_ (k, e)) := hide (by rw [hA.out, set_next HZ.out hat])
        have PO := hide (HSx.out.own1 z).1
        have PZ := hide (HSx.out.own1 z).2.1
        have PB := hide (HSx.out.own1 z).2.2
        clear hat
        go_wp2_with (first | ((with_reducible refine wpList_ldKD ?_ (.tmp 39) ?_ g (i * 36) ?_ z HRZ.out ?_); rfl; rfl; rfl) | ((with_reducible refine wpList_bsD ?_ (.tmp 40) z ?_ ?_ ?_); rfl; rfl; rfl) | ((with_reducible refine wpList_appD ?_ (.tmp 33) (.tmp 41) ?_ w.heap.size v A ?_ PO.out wr.heap.size ?_ z PZ.out PL.out PB.out ?_); rfl; rfl; rfl; rfl; intro v4 w4 HO4 HG4 HV4))
        obtain ⟨hs4, hk4⟩ := HSx.out.step HO4.out HG4.out
        have HS4 := hide hs4
        have HE4 := hide (hk4 HEx.out (by decide))
        clear hs4 hk4
        go_roundw
        case rel => exact ⟨i + 1, v4, A ++ [z], by go_num, rfl, hi2.out, HA2, HS4.out, HE4.out⟩
        case measure => have := hi2.out; simp [intOf]; omega
    · have hji : ¬ (i : Int) < (n : Int) := by omega
      have hiV : i = V.length := by have := hnV.out; omega
      have HIN : Hid (A = V.set at_ (k, e)) := hide (by rw [hA.out, hiV, List.take_length])
      obtain ⟨ao1, n1, c1, rfl⟩ := HSx.out.ow.slice'
      obtain ⟨hf1, hf2⟩ := HSx.out.fin HH.out
      have HF1 := hide hf1
      have HF2 := hide hf2
      clear hf1 hf2 HRow hiV hA
      go_wp2
      refine bodyPost_end (results_none rfl _ _ _) rfl ?_
      exact ⟨rfl, by rw [← HIN.out]; exact HF1.out, HF2.out⟩
end TX
end Go.Proofs.Ytdigjpddmfolgaa

/- The document's index: Mark, Move. -/
namespace Go.Proofs.Ytdigjpddmfolgaa
set_option linter.unusedVariables false
set_option linter.unusedSimpArgs false
namespace TX
open Go.RowKit Go.Sort
set_option maxRecDepth 100000
set_option maxHeartbeats 16000000

theorem rmark_any (w : World) {q n0 : Nat} {f : KY → Option EN} (h : RxA w q f n0) (hn : n0 ≤ 1099511627776) (k : KY) (ep : Int) : Calls Try.prog 30 #[.pointer (some ⟨q, 0, none⟩), kV k, .int .u32 ep] w fun en w' => en = .returned (.bool (markB f k ep)) ∧ RxN w w' q (markF f k ep) n0 := by
  have HRX := hide h
  obtain ⟨V, hL0, hM, hR, hV⟩ := h
  have HH := hide hL0
  have HM := hide hM
  have HRS := hide hR
  have HVL := hide hV
  have HN0 := hide hn
  have hz0 := zero_E
  clear hL0 hM hR hV hn
  go_enter Try.func30, Try.ntmps30
  go_upto_region 1 with fail
  refine name_world (fun W => Below w.heap.size w W ∧ KB W w.heap.size k) ⟨below_alloc w _, KB.made w k⟩ ?_
  rintro W ⟨hB, hK⟩
  obtain ⟨kb, hkb⟩ : ∃ kb, kb = w.heap.size := ⟨_, rfl⟩
  rw [← hkb] at hK ⊢
  have HB := hide hB
  have HK := hide hK
  have HL := hide (HH.out.below hB)
  clear hB hK hkb
  cases hf : f k with
  | none =>
    have HF := hide hf
    have HFn := hide (rfind_any W HL.out (by have := HVL.out; have := HN0.out; omega) k (-1) (fnd_no HM.out hf))
    clear hf hz0
    go_upto_region 2 with (first | ((with_reducible refine wpList_ldK ?_ (.tmp 4) ?_ kb 0 ?_ k HK.out.rng ?_); rfl; rfl; rfl) | (go_at_call 43; (with_reducible refine HFn.out.mono ?_); rintro e w2 ⟨rfl, hb⟩; have HB2 := hide (HB.out.trans (hb.mono HB.out.size)); clear hb))
    go_wp2
    go_ret
    refine ⟨by unfold markB; rw [HF.out]; rfl, ?_⟩
    unfold markF
    rw [HF.out]
    exact HRX.out.nBelow HB2.out
  | some u =>
    obtain ⟨at_, hi, hr⟩ := fnd_yes HM.out hf
    have HF := hide hf
    have HAt := hide hi
    have HFn := hide (rfind_any W HL.out (by have := HVL.out; have := HN0.out; omega) k at_ hr)
    have hi0 : ¬ ((at_ : Int) < 0) := by omega
    clear hf hr hi
    go_upto_region 2 with (first | ((with_reducible refine wpList_ldK ?_ (.tmp 4) ?_ kb 0 ?_ k HK.out.rng ?_); rfl; rfl; rfl) | (go_at_call 43; (with_reducible refine HFn.out.mono ?_); rintro e w2 ⟨rfl, hb⟩; have HB2 := hide (HB.out.trans (hb.mono HB.out.size)); have HL2 := hide (HL.out.below hb); clear hb))
    obtain ⟨ao, n, c, hq, hnV, _, hrow⟩ := HL2.out.open
    obtain ⟨g, rfl, hrg⟩ := hrow at_ (k, u) HAt.out
    have HRG := hide (kd_entAt hrg)
    have cq : w2.cell? ⟨q, 0, none⟩ = some (.slice (some ⟨g, 0, none⟩) n c) := by rw [hq.cell]; rfl
    have lq := hq.lt
    have hin : (at_ : Int) < (n : Int) := by have h1 := (List.getElem?_eq_some_iff.1 HAt.out).1; have h2 := hnV.out; omega
    have cE : w2.cell? ⟨g, at_ * 36 + 32 + 3, none⟩ = some (.int .u32 u.ep) := HRG.out 3 _ rfl
    clear hq hrow hrg HL HK HFn
    by_cases hq : u.ep = ep
    · have hq1 : (u.ep == ep) = true := by simpa using hq
      have HQ := hide hq
      clear hq hz0
      go_wp2
      go_ret
      refine ⟨by unfold markB; rw [HF.out]; simp [HQ.out], ?_⟩
      unfold markF
      rw [HF.out]
      simp only [HQ.out, if_true]
      exact HRX.out.nBelow HB2.out
    · have hq1 : (u.ep == ep) = false := by simpa using hq
      have HQ := hide hq
      have HE0 : Hid (EB (w2.alloc (.cells (eA eZ) ET)) w2.heap.size eZ) := hide (EB.made w2 eZ)
      clear hq
      go_upto_region 5 with (first | ((with_reducible refine wpList_ldE ?_ (.tmp 33) ?_ g (at_ * 36 + 32) ?_ u HRG.out ?_); rfl; rfl; rfl) | ((with_reducible refine wpList_stEB ?_ (.tmp 8) (.tmp 34) ?_ w2.heap.size ?_ eZ u ?_ HE0.out ?_); rfl; rfl; rfl; rfl; intro w3 h3 hg3))
      have hb3 : Below w2.heap.size w2 w3 := below_grownBy (grownBy_trans (World.grownBy_alloc w2 _ _) hg3.out) (Nat.le_refl _) (Nat.le_refl _)
      have HB3 := hide (HB2.out.trans (hb3.mono HB2.out.size))
      obtain ⟨eb, heb⟩ : ∃ b, b = w2.heap.size := ⟨_, rfl⟩
      have HEB : Hid (w.heap.size ≤ eb) := hide (by rw [heb]; exact HB2.out.size)
      rw [← heb] at h3 ⊢
      have HU3 := hide h3.out
      have cE3 := HU3.out.cell3
      have fE3 := Blk.frozen HU3.out 3
      have lE3 := Blk.lt HU3.out
      clear hb3 h3 hg3 heb HE0 HRG cq lq hin HB2 HL2 hz0 hnV cE hq1
      go_upto_region 6 with fail
      refine name_world (fun W1 => EB W1 eb ⟨u.sg, u.of, u.sz, ep⟩ ∧ Below w.heap.size w W1) ⟨HU3.out.mark ep, HB3.out.trans (below_grownBy (grownBy_set _ _ _ _) HEB.out HB3.out.size)⟩ ?_
      rintro W1 ⟨he, hb⟩
      have HE1 := hide he
      have HB1 := hide hb
      have HC := hide (with_any W1 (HH.out.below hb) (by have := HVL.out; have := HN0.out; omega) HAt.out ⟨u.sg, u.of, u.sz, ep⟩)
      have HSM := hide (set_maps HM.out HRS.out HAt.out ⟨u.sg, u.of, u.sz, ep⟩)
      clear he hb cE3 fE3 lE3 HU3 HB3
      go_wp2_with (first | ((with_reducible refine wpList_ldE ?_ (.tmp 8) ?_ eb 0 ?_ ⟨u.sg, u.of, u.sz, ep⟩ HE1.out.rng ?_); rfl; rfl; rfl) | (go_at_call 46; (with_reducible refine HC.out.mono ?_); rintro e w5 ⟨rfl, hr5, hg5⟩; have HR5 := hide hr5; have HG5 := hide hg5; clear hr5 hg5))
      go_ret
      refine ⟨by unfold markB; rw [HF.out]; simp [HQ.out], ?_⟩
      unfold markF
      rw [HF.out]
      simp only [HQ.out, if_false]
      exact ⟨⟨_, HR5.out, HSM.out.1, HSM.out.2.1, by rw [HSM.out.2.2]; exact HVL.out⟩, grownBy_trans (grownBy_of_below HB1.out _) HG5.out⟩
theorem rmove_any (w : World) {q n0 : Nat} {f : KY → Option EN} (h : RxA w q f n0) (hn : n0 ≤ 1099511627776) (k : KY) (p r : PL) : Calls Try.prog 32 #[.pointer (some ⟨q, 0, none⟩), kV k, plV p, plV r] w fun en w' => en = .returned (.bool (moveB f k p)) ∧ RxN w w' q (moveF f k p r) n0 := by
  have HRX := hide h
  obtain ⟨V, hL0, hM, hR, hV⟩ := h
  have HH := hide hL0
  have HM := hide hM
  have HRS := hide hR
  have HVL := hide hV
  have HN0 := hide hn
  have hz0 := zero_E
  clear hL0 hM hR hV hn
  go_enter Try.func32, Try.ntmps32
  go_upto_region 1 with fail
  refine name_world (fun W => Below w.heap.size w W ∧ KB W w.heap.size k ∧ PLB W (w.heap.size + 1) p ∧ PLB W (w.heap.size + 2) r) (threeBox w k p r) ?_
  rintro W ⟨hB, hK, hP1, hP2⟩
  obtain ⟨kb, hkb⟩ : ∃ kb, kb = w.heap.size := ⟨_, rfl⟩
  rw [← hkb] at hK hP1 hP2 ⊢
  have HB := hide hB
  have HK := hide hK
  have HP1 := hide hP1
  have HP2 := hide hP2
  have HKB := hide hkb
  have HL := hide (HH.out.below hB)
  clear hB hK hkb hP1 hP2
  cases hf : f k with
  | none =>
    have HF := hide hf
    have HFn := hide (rfind_any W HL.out (by have := HVL.out; have := HN0.out; omega) k (-1) (fnd_no HM.out hf))
    clear hf hz0
    go_upto_region 2 with (first | ((with_reducible refine wpList_ldK ?_ (.tmp 5) ?_ kb 0 ?_ k HK.out.rng ?_); rfl; rfl; rfl) | (go_at_call 43; (with_reducible refine HFn.out.mono ?_); rintro e w2 ⟨rfl, hb⟩; have HB2 := hide (HB.out.trans (hb.mono HB.out.size)); clear hb))
    refine wp_region_quiet_below (by kernel_rfl) (by kernel_rfl) ?_
    quiet_step (fail)
    quiet_step (fail)
    refine wpQuiet_move_nos 16 2 false 11 rfl (fun _ _ => rfl) rfl rfl ((by decide : (16 : Nat) < 43)) ?_ ?_
    · intro y hy
      simp only [List.take_succ_cons, List.take_zero, List.mem_cons, List.not_mem_nil, or_false] at hy
      rcases hy with rfl | rfl | rfl | rfl | rfl | rfl | rfl | rfl | rfl | rfl | rfl <;> exact ⟨rfl, _, rfl, by decide⟩
    simp only [List.take_succ_cons, List.take_zero, List.drop_succ_cons, List.drop_zero, List.foldl_cons, List.foldl_nil, Act.put, List.setIfInBounds_toArray, List.set_cons_zero, List.set_cons_succ]
    quiet_step (fail)
    refine wpQuiet_nil ?_
    intro w3 hw3
    have hb3 : RowKit.Below w2.heap.size w2 w3 := below_of hw3
    have HB3 := hide (HB2.out.trans (hb3.mono HB2.out.size))
    clear hw3 hb3
    go_wp2
    go_ret
    refine ⟨by unfold moveB; rw [HF.out]; rfl, ?_⟩
    unfold moveF
    rw [HF.out]
    exact HRX.out.nBelow HB3.out
  | some u =>
    obtain ⟨at_, hi, hr⟩ := fnd_yes HM.out hf
    have HF := hide hf
    have HAt := hide hi
    have HFn := hide (rfind_any W HL.out (by have := HVL.out; have := HN0.out; omega) k at_ hr)
    have hi0 : ¬ ((at_ : Int) < 0) := by omega
    clear hf hr hi
    go_upto_region 2 with (first | ((with_reducible refine wpList_ldK ?_ (.tmp 5) ?_ kb 0 ?_ k HK.out.rng ?_); rfl; rfl; rfl) | (go_at_call 43; (with_reducible refine HFn.out.mono ?_); rintro e w2 ⟨rfl, hb⟩; have HB2 := hide (HB.out.trans (hb.mono HB.out.size)); have HL2 := hide (HL.out.below hb); have HP1b : Hid (PLB w2 (kb + 1) p) := hide (Blk.below HP1.out hb (Blk.lt HP1.out)); have HP2b : Hid (PLB w2 (kb + 2) r) := hide (Blk.below HP2.out hb (Blk.lt HP2.out)); clear hb))
    obtain ⟨ao, n, c, hq, hnV, _, hrow⟩ := HL2.out.open
    obtain ⟨g, rfl, hrg⟩ := hrow at_ (k, u) HAt.out
    have HRE := hide (kd_entAt hrg)
    have hpl : w2.rangeAt g (at_ * 36 + 32) (plC u.pl) := fun j v hj => HRE.out j v (by
      match j, hj with
      | 0, hj => exact hj
      | 1, hj => exact hj)
    have HRP := hide (range_regrown hpl)
    have HRQ := hide (range_regrown (Blk.range HP1b.out))
    have cq : w2.cell? ⟨q, 0, none⟩ = some (.slice (some ⟨g, 0, none⟩) n c) := by rw [hq.cell]; rfl
    have lq := hq.lt
    have cqr := fun d os => cell_regrown cq d os
    have hin : (at_ : Int) < (n : Int) := by have h1 := (List.getElem?_eq_some_iff.1 HAt.out).1; have h2 := hnV.out; omega
    obtain ⟨eq, heq⟩ : ∃ eq, eq = eqP u.pl p := ⟨_, rfl⟩
    have HQ := hide heq
    clear hq hrow hrg HL HK HFn hpl HP1 HP2 heq
    refine wp_region_quiet_below (by kernel_rfl) (by kernel_rfl) ?_
    iterate 11 quiet_step (fail)
    refine wpQuiet_val (plV u.pl) rfl (fun w0 hw => ?_) ?_
    · obtain ⟨p0, rfl⟩ := hw
      exact run_loadO rfl rfl (run_ldP (HRP.out _ _))
    refine wpQuiet_val (plV p) rfl (fun w0 hw => ?_) ?_
    · obtain ⟨p0, rfl⟩ := hw
      exact run_loadO rfl rfl (run_ldP (HRQ.out _ _))
    refine wpQuiet_val (.bool (!eq)) rfl (fun w0 _ => by rw [HQ.out]; exact run_neqP rfl rfl rfl w0) ?_
    quiet_step (fail)
    refine wpQuiet_nil ?_
    intro w3 hw3
    have hb3 : RowKit.Below w2.heap.size w2 w3 := below_of hw3
    have HB3 := hide (HB2.out.trans (hb3.mono HB2.out.size))
    have hd0 : decide ((at_ : Int) < 0) = false := by simp
    simp only [hd0]
    have HP3 : Hid (PLB w3 (kb + 2) r) := hide (Blk.below HP2b.out hb3 (Blk.lt HP2b.out))
    have HRE3 := hide (range_bel HRE.out hb3)
    have cq3 : w3.cell? ⟨q, 0, none⟩ = some (.slice (some ⟨g, 0, none⟩) n c) := by rw [hb3.cell lq]; exact cq
    have lq3 : q < w3.heap.size := Nat.lt_of_lt_of_le lq hb3.size
    clear hw3 hb3 cq lq cqr HRP HRQ HRE HP1b HP2b HB2 HL2
    cases eq with
    | false =>
      clear hz0
      go_wp2
      go_ret
      refine ⟨by unfold moveB; rw [HF.out]; exact congrArg (fun b => Ending.returned (.bool b)) HQ.out, ?_⟩
      unfold moveF
      rw [HF.out]
      simp only [← HQ.out]
      exact HRX.out.nBelow HB3.out
    | true =>
      have HE0 : Hid (EB (w3.alloc (.cells (eA eZ) ET)) w3.heap.size eZ) := hide (EB.made w3 eZ)
      go_upto_region 5 with (first | ((with_reducible refine wpList_ldE ?_ (.tmp 35) ?_ g (at_ * 36 + 32) ?_ u HRE3.out ?_); rfl; rfl; rfl) | ((with_reducible refine wpList_stEB ?_ (.tmp 10) (.tmp 36) ?_ w3.heap.size ?_ eZ u ?_ HE0.out ?_); rfl; rfl; rfl; rfl; intro w4 h4 hg4))
      have hb4 : RowKit.Below w3.heap.size w3 w4 := below_grownBy (grownBy_trans (World.grownBy_alloc w3 _ _) hg4.out) (Nat.le_refl _) (Nat.le_refl _)
      have HB4 := hide (HB3.out.trans (hb4.mono HB3.out.size))
      have HR4 : Hid (w4.rangeAt (kb + 2) 0 (plC r)) := hide (Blk.range (Blk.below HP3.out hb4 (Blk.lt HP3.out)))
      obtain ⟨eb, heb⟩ : ∃ b, b = w3.heap.size := ⟨_, rfl⟩
      have HEB : Hid (w.heap.size ≤ eb) := hide (by rw [heb]; exact HB3.out.size)
      rw [← heb] at h4 ⊢
      have HU4 := hide h4.out
      clear hb4 h4 hg4 heb HE0 HRE3 cq3 lq3 hin HB3 hz0 hnV HP3
      go_upto_region 6 with (first | ((with_reducible refine wpList_valW (plV r) ?_ (run_loadO (x := .tmp 7) (p := .pointer (some ⟨kb + 2, 0, none⟩)) rfl ?_ (run_ldP HR4.out)) ?_); rfl; rfl) | ((with_reducible refine wpList_stP ?_ (.tmp 38) (.tmp 37) ?_ eb ?_ u r ?_ HU4.out ?_); rfl; rfl; rfl; rfl; intro W1 h1 hg1))
      have HE1 := hide h1.out
      have hb1 := HB4.out.trans (below_grownBy hg1.out HEB.out HB4.out.size)
      have HB1 := hide hb1
      have HC := hide (with_any W1 (HH.out.below hb1) (by have := HVL.out; have := HN0.out; omega) HAt.out ⟨r.sg, r.of, u.sz, u.ep⟩)
      have HSM := hide (set_maps HM.out HRS.out HAt.out ⟨r.sg, r.of, u.sz, u.ep⟩)
      clear h1 hg1 hb1 HU4 HB4 HR4
      go_wp2_with (first | ((with_reducible refine wpList_ldE ?_ (.tmp 10) ?_ eb 0 ?_ ⟨r.sg, r.of, u.sz, u.ep⟩ HE1.out.rng ?_); rfl; rfl; rfl) | (go_at_call 46; (with_reducible refine HC.out.mono ?_); rintro e w5 ⟨rfl, hr5, hg5⟩; have HR5 := hide hr5; have HG5 := hide hg5; clear hr5 hg5))
      go_ret
      refine ⟨by unfold moveB; rw [HF.out]; exact congrArg (fun b => Ending.returned (.bool b)) HQ.out, ?_⟩
      unfold moveF
      rw [HF.out]
      simp only [← HQ.out, if_true]
      exact ⟨⟨_, HR5.out, HSM.out.1, HSM.out.2.1, by rw [HSM.out.2.2]; exact HVL.out⟩, grownBy_trans (grownBy_of_below HB1.out _) HG5.out⟩
end TX
end Go.Proofs.Ytdigjpddmfolgaa

/- The document's index: New, Sizes. -/
namespace Go.Proofs.Ytdigjpddmfolgaa
set_option linter.unusedVariables false
set_option linter.unusedSimpArgs false
namespace TX
open Go.RowKit Go.Sort
set_option maxRecDepth 100000
set_option maxHeartbeats 16000000

theorem Maps.nil : Maps [] (fun _ => none) := ⟨List.nodup_nil, fun k e => ⟨fun h => (by cases h), fun h => (by cases h)⟩⟩
theorem rnew_any (w : World) : Calls Try.prog 7 #[] w fun e w' => ∃ q, e = .returned (.pointer (some ⟨q, 0, none⟩)) ∧ w.heap.size ≤ q ∧ RxA w' q (fun _ => none) 0 ∧ Below w.heap.size w w' := by
  go_enter Try.func7, Try.ntmps7
  go_wp2
  go_ret
  exact ⟨w.heap.size, rfl, Nat.le_refl _, ⟨[], ⟨_, Blk.made w #[.slice none 0 0] RIT, OwnD.nil _ _⟩, Maps.nil, List.Pairwise.nil, by simp⟩, below_alloc w _⟩
/-- How many keys each shard has. -/
def cnts (V : List KE) : List Nat := (List.range 16).map (fun i => V.countP (fun z => sh z.1 == i))
theorem cnts_len (V : List KE) : (cnts V).length = 16 := by simp [cnts]
theorem cnts_at (V : List KE) {i : Nat} (hi : i < 16) : (cnts V)[i]? = some (V.countP (fun z => sh z.1 == i)) := by simp [cnts, hi]
theorem cnts_snoc (V : List KE) (z : KE) : cnts (V ++ [z]) = (cnts V).set (sh z.1) (V.countP (fun y => sh y.1 == sh z.1) + 1) := by
  apply List.ext_getElem?
  intro i
  rcases Nat.lt_or_ge i 16 with hi | hi
  · rw [cnts_at _ hi, List.countP_append]
    by_cases h : sh z.1 = i
    · rw [← h, List.getElem?_set_self (by rw [cnts_len, h]; exact hi)]
      simp
    · rw [List.getElem?_set_ne h, cnts_at _ hi]
      simp [h]
  · rw [List.getElem?_eq_none (by rw [cnts_len]; exact hi), List.getElem?_eq_none (by rw [List.length_set, cnts_len]; exact hi)]
theorem maps_filter {V : List KE} {f : KY → Option EN} (h : Maps V f) (i : Nat) : Maps (V.filter (fun z => sh z.1 == i)) (gsh f i) := by
  refine ⟨(List.filter_sublist.map Prod.fst).nodup h.nd, fun k e => ?_⟩
  rw [List.mem_filter, h.mem]
  unfold gsh
  by_cases hs : sh k = i
  · simp [hs]
  · simp [hs]
theorem szR_cnts {V : List KE} {f : KY → Option EN} (h : Maps V f) {ns : List Nat} (hl : ns.length = 16) (hs : SzR f ns) : ns = cnts V := by
  apply List.ext_getElem?
  intro i
  rcases Nat.lt_or_ge i 16 with hi | hi
  · have h1 : ns[i]? = some (ns[i]'(by omega)) := List.getElem?_eq_getElem _
    obtain ⟨_, A, hA, hn⟩ := hs i _ h1
    rw [h1, cnts_at _ hi, ← hn, Maps.len hA (maps_filter h i), List.countP_eq_length_filter]
  · rw [List.getElem?_eq_none (by omega), List.getElem?_eq_none (by rw [cnts_len]; exact hi)]
theorem szC_full {ns : List Nat} (h : ns.length = 16) : szC ns = ns.map (fun n => .int .i64 (n : Int)) := by unfold szC; rw [h]; simp
theorem ZB.at {w : World} {b : Nat} {ns : List Nat} (h : ZB w b ns) (hl : ns.length = 16) {j n : Nat} (hj : ns[j]? = some n) : w.cell? ⟨b, j, none⟩ = some (.int .i64 (n : Int)) := by
  rw [Blk.cell h]
  unfold szA
  rw [szC_full hl, List.getElem?_toArray, List.getElem?_map, hj]
  rfl
theorem ZB.setAt {w : World} {b : Nat} {ns : List Nat} (h : ZB w b ns) (hl : ns.length = 16) (j n : Nat) : ZB (w.setCell ⟨b, j, none⟩ (.int .i64 (n : Int))) b (ns.set j n) := by
  have h2 := Blk.set h j (.int .i64 (n : Int))
  unfold szA at h2
  rw [List.setIfInBounds_toArray, szC_full hl] at h2
  unfold ZB szA
  rw [szC_full (by rw [List.length_set]; exact hl), List.map_set]
  exact h2
theorem zero_cnts : szA [] = szA (cnts []) := by unfold szA szC; rfl
theorem rsizes_any (w : World) {q : Nat} {V : List KE} (h : RlAt w q V) (hn : V.length ≤ 1099511627776) : Calls Try.prog 26 #[.pointer (some ⟨q, 0, none⟩)] w fun e w' => e = .returned (szV (cnts V)) ∧ Below w.heap.size w w' := by
  have HNL := hide hn
  have hz0 := zero_Z
  obtain ⟨ao, n, c, hq0, hnV, _, hrow0⟩ := h.open
  have HFQ : Hid (∀ W, Below w.heap.size w W → W.cell? ⟨q, 0, none⟩ = some (.slice ao n c) ∧ q < W.heap.size) := hide (fun W hb => by
    have h1 := hq0.below hb hq0.lt
    exact ⟨by rw [h1.cell]; rfl, h1.lt⟩)
  have HFR : Hid (∀ (i : Nat) (z : KE), V[i]? = some z → ∃ g, ao = some ⟨g, 0, none⟩ ∧ ∀ W, Below w.heap.size w W → W.rangeAt g (i * 36) (kdC z)) := hide (fun i z hz => by
    obtain ⟨g, e1, h1⟩ := hrow0 i z hz
    exact ⟨g, e1, fun W hb => range_bel h1 hb⟩)
  clear h hn hq0 hrow0
  go_enter Try.func26, Try.ntmps26
  go_upto_region 2 with fail
  refine name_world (fun W => Below w.heap.size w W ∧ ZB W w.heap.size [] ∧ ZB W (w.heap.size + 1) (cnts [])) ⟨(below_alloc w _).alloc (by simp) _, Blk.alloc (ZB.made' rfl []) _, by unfold ZB; rw [← zero_cnts]; exact ZB.made' (by simp) []⟩ ?_
  rintro W ⟨hB, hZ, hZ2⟩
  obtain ⟨kb, hkb⟩ : ∃ kb, kb = w.heap.size := ⟨_, rfl⟩
  rw [← hkb] at hZ hZ2 ⊢
  have HKB := hide hkb
  have HB := hide hB
  have HZ := hide hZ
  have HZ2 := hide hZ2
  clear hB hZ hZ2 hkb hz0
  go_upto_region 3 with fail
  go_loopw [4] (fun t wr => ∃ i : Nat, t = .int .i64 i ∧ i ≤ V.length ∧ Hid (ZB wr (kb + 1) (cnts (V.take i))) ∧ Hid (ZB wr kb []) ∧ Hid (Below w.heap.size w wr)) (fun t _ => V.length - (intOf t).toNat)
  case atStart => exact ⟨0, rfl, by omega, HZ2, HZ, HB⟩
  case round =>
    obtain ⟨i, rfl, hi, HZi, HZ0, HBi⟩ := hrel
    obtain ⟨cq, lq⟩ := HFQ.out wr HBi.out
    have hin : i ≤ n := by rw [hnV.out]; exact hi
    have hn2 : n ≤ 1099511627776 := by rw [hnV.out]; exact HNL.out
    have HI : Hid (i ≤ V.length) := hide hi
    clear hi HZ HZ2 HB
    by_cases hlt : i < n
    · have hji : (i : Int) < (n : Int) := by omega
      obtain ⟨z, hz⟩ : ∃ z, V[i]? = some z := ⟨_, List.getElem?_eq_getElem (by rw [← hnV.out]; exact hlt)⟩
      obtain ⟨g, rfl, hrg⟩ := HFR.out i z hz
      have HZz := hide hz
      have ck : wr.cell? ⟨g, i * 36, none⟩ = some (.int .u8 (bt z.1 0 : Int)) := kd_keyAt (hrg wr HBi.out) 0 _ (kC_head _)
      have hi2 : Hid (i + 1 ≤ V.length) := hide (by have := hnV.out; omega)
      have hb256 := bt_lt z.1 0
      obtain ⟨j, hj⟩ : ∃ j, j = sh z.1 := ⟨_, rfl⟩
      have HJ := hide hj
      have hj16 : j < 16 := by rw [hj]; exact sh_lt _
      have hjm : ((bt z.1 0 : Nat) : Int).tmod 16 = (j : Int) := by
        rw [hj]; unfold sh
        rw [show (16 : Int) = ((16 : Nat) : Int) from rfl, ← Int.ofNat_tmod]
      obtain ⟨m, hm⟩ : ∃ m, m = (V.take i).countP (fun y => sh y.1 == j) := ⟨_, rfl⟩
      have cz : wr.cell? ⟨kb + 1, j, none⟩ = some (.int .i64 (m : Int)) := HZi.out.at (cnts_len _) (by rw [cnts_at _ hj16, ← hm])
      have fz := Blk.frozen HZi.out j
      have lz := Blk.lt HZi.out
      have hmb : m ≤ 1099511627776 := by
        have h1 : m ≤ (V.take i).length := by rw [hm]; exact List.countP_le_length
        have h2 := List.length_take_le i V
        have := HNL.out
        have := HI.out
        omega
      have HM := hide hm
      clear hz hrg hj hm
      have hb : ((m : Int) + 1) ≤ 9223372036854775807 := by omega
      go_upto_region 4 with fail
      have e1 : ((m : Int) + 1) = ((m + 1 : Nat) : Int) := by omega
      refine name_world (fun W2 => ZB W2 (kb + 1) (cnts (V.take (i + 1))) ∧ ZB W2 kb [] ∧ Below w.heap.size w W2) ⟨?_, ?_, ?_⟩ ?_
      · rw [e1, List.take_add_one, HZz.out]
        show ZB _ _ (cnts (V.take i ++ [z]))
        rw [cnts_snoc, ← HJ.out, ← HM.out]
        exact HZi.out.setAt (cnts_len _) j (m + 1)
      · exact Blk.grown HZ0.out (grownBy_set wr (kb + 1) j _) (fun e => by have := Option.some.inj e; omega)
      · exact HBi.out.trans (below_grownBy (grownBy_set wr (kb + 1) j _) (by have := HKB.out; show w.heap.size ≤ kb + 1; omega) HBi.out.size)
      rintro W2 ⟨h1, h2, h3⟩
      have H1 := hide h1
      have H2 := hide h2
      have H3 := hide h3
      clear h1 h2 h3 e1 hb cz fz lz ck cq lq
      go_wp2
      go_roundw
      case rel => exact ⟨i + 1, by go_num, hi2.out, H1, H2, H3⟩
      case measure => have := hi2.out; simp [intOf]; omega
    · have hji : ¬ (i : Int) < (n : Int) := by omega
      have hiV : Hid (V.take i = V) := hide (List.take_of_length_le (by have := hnV.out; omega))
      have hnl : Hid ((cnts V).length ≤ 16) := hide (by rw [cnts_len]; exact Nat.le_refl _)
      rw [hiV.out] at HZi
      go_wp2_with (first | ((with_reducible refine wpList_ldZ ?_ (.tmp 3) ?_ (kb + 1) ?_ (cnts V) hnl.out HZi.out ?_); rfl; rfl; rfl) | ((with_reducible refine wpList_stZ ?_ (.tmp 2) (.tmp 28) ?_ kb ?_ [] (cnts V) (Nat.zero_le _) hnl.out ?_ HZ0.out ?_); rfl; rfl; rfl; rfl; intro w4 h4 hg4))
      refine ⟨rfl, _, results_cell (p := 2) (ty := SZT) rfl _ _ ⟨kb, 0, none⟩ rfl (szV (cnts V)) (loadZ hnl.out h4.out), rfl, ?_⟩
      exact HBi.out.grown hg4.out HBi.out.size (fun k hk => by cases hk; have := HKB.out; omega)
end TX
end Go.Proofs.Ytdigjpddmfolgaa
