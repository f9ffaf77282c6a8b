/- PinsPlays: spoilt walked. -/
import Derived.Test.YtagnglkkmdeicaaPAm
namespace Go.Proofs.Ytagnglkkmdeicaa
set_option linter.unusedVariables false
set_option linter.unusedSimpArgs false
open Go.RowKit Go.Shelf
set_option maxRecDepth 100000

set_option maxHeartbeats 4000000 in
theorem spoilt_any : SpoH := by
  intro w B v E q hL hB hn hx hq
  obtain ⟨qn, rfl, hqn⟩ : ∃ qn : Nat, q = qn ∧ qn < 256 := by rcases hq with rfl | rfl; exact ⟨1, rfl, by omega⟩; exact ⟨2, rfl, by omega⟩
  obtain ⟨ao, cap, hv, hao⟩ := hL.form
  have HAO := hide hao
  have HX := hide hx
  have H32 := hide hL.l32
  have HLS := hide hL
  have HQ := hide hqn
  have HL : Hid (L1 w w B v E qn 0 0) := hide (L1.start hL qn)
  obtain ⟨n, hne⟩ : ∃ n, n = E.length := ⟨_, rfl⟩
  have HNE := hide hne
  rw [← hne] at hv hn
  have HV := hide hv
  have HBW := hide hB
  rw [show v = .slice ao n cap from hv]
  rw [← show v = .slice ao n cap from hv]
  have hgo : Calls Try.prog 44 #[.slice ao n cap, .int .i64 (qn : Int)] w fun e w' => e = .returned (.bool true) ∧ Chg (OwnT v E) w w' := by
    clear hL hx hq hao hne hB hv
    go_enter Try.func44, Try.ntmps44
    go_wp2
    go_loopw [5] (fun t wr => ∃ i : Nat, t = .int .i64 i ∧ i ≤ n ∧ L1 w wr B v E qn i 0) (fun t _ => n - (intOf t).toNat)
    case atStart => exact ⟨0, rfl, by omega, HL.out⟩
    case round =>
      clear HL
      obtain ⟨i, rfl, hi, hS⟩ := hrel
      by_cases hin : i < n
      · have hii : (i : Int) < n := by omega
        obtain ⟨e, he⟩ : ∃ e, E[i]? = some e := ⟨_, List.getElem?_eq_getElem (by rw [← HNE.out]; exact hin)⟩
        obtain ⟨gv, rfl⟩ := HAO.out (by have := HNE.out; omega)
        have HE := hide he
        have HS := hide hS
        obtain ⟨ka, hka⟩ : ∃ ka, ka = e.ka := ⟨_, rfl⟩
        obtain ⟨kc, hkc⟩ : ∃ kc, kc = e.kc := ⟨_, rfl⟩
        obtain ⟨m, hm⟩ : ∃ m, m = e.xs.length := ⟨_, rfl⟩
        have HKA := hide hka
        have HKC := hide hkc
        have HM := hide hm
        have HME : Hid (m ≤ 4398046510976) := hide (by rw [hm]; exact HX.out e (List.mem_of_getElem? he))
        have hm48 := HME.out
        have HI : Hid (i < 256) := hide (by omega)
        obtain ⟨w1, hw1⟩ : ∃ w1, w1 = wr := ⟨_, rfl⟩
        rw [← hw1] at HS ⊢
        clear hS he hka hkc hm hw1
        go_wp2
        go_loopw [6] (fun t wr => ∃ k : Nat, t = .int .i64 k ∧ k ≤ m ∧ L1 w wr B v E qn i k) (fun t _ => m - (intOf t).toNat)
        case atStart => exact ⟨0, rfl, by omega, HS.out⟩
        case round =>
          clear HS
          obtain ⟨k, rfl, hk, hS⟩ := hrel
          have hcel := hS.cell HE.out (by rw [← HM.out]; exact hk) HV.out
          rw [← HKA.out, ← HM.out, ← HKC.out] at hcel
          have hgl := World.block_lt_of_cell? wr _ hcel
          by_cases hkl : k < m
          · have hki : (k : Int) < m := by omega
            obtain ⟨ga, hga⟩ : ∃ g, ka = some ⟨g, 0, none⟩ := by
              have hO := hS.row HE.out (by rw [← HM.out]; exact hk)
              obtain ⟨a3, c3, h1, h2⟩ := hO.form
              injection h1 with q1 q2 q3
              rw [HKA.out, q1]
              exact h2 (by rw [pmk_len (by rw [← HM.out]; exact hk), ← HM.out]; omega)
            subst hga
            have HS := hide hS
            have HKL : Hid (k < e.xs.length) := hide (by rw [← HM.out]; exact hkl)
            obtain ⟨M, hMM⟩ : ∃ M, M = mark 1 i qn := ⟨_, rfl⟩
            have HMM := hide hMM
            clear hS hMM
            go_wp2_with (first | ((with_reducible refine wpList_cvt (.tmp 37) i HI.out ?_ ?_ ?_ ?_); rfl; rfl; rfl) | ((with_reducible refine wpList_cvt (.tmp 39) qn HQ.out ?_ ?_ ?_ ?_); rfl; rfl; rfl) | ((with_reducible refine wpList_markA (.tmp 38) (.tmp 40) i qn M HMM.out HI.out HQ.out ?_ ?_ ?_ ?_ ?_); rfl; rfl; rfl; rfl) | ((with_reducible refine wpList_storeM ?_ (.tmp 42) (.tmp 41) ?_ B v E qn i k e HE.out (H32.out e (List.mem_of_getElem? HE.out)) HS.out HKL.out ga HKA.out.symm ?_ M HMM.out ?_ ?_); rfl; rfl; rfl; rfl; intro w2 HS2))
            exact ⟨⟨k + 1, by go_num, by omega, HS2.out⟩, by simp [intOf]; omega⟩
          · have hki : ¬ (k : Int) < m := by omega
            obtain rfl : m = k := by omega
            have HS : Hid (L1 w wr B v E qn (i + 1) 0) := hide (by rw [HM.out] at hS; exact hS.next HE.out)
            clear hS
            go_wp2
            exact ⟨⟨i + 1, by go_num, by omega, HS.out⟩, by simp [intOf]; omega⟩
      · have hii : ¬ (i : Int) < n := by omega
        obtain rfl : n = i := by omega
        obtain ⟨F, hF⟩ : ∃ F, F = Em qn E E.length := ⟨_, rfl⟩
        have HLW : Hid (LstS wr B v F) := hide (by rw [hF]; rw [HNE.out] at hS; exact hS.whole)
        have HMK : Hid (Mkd E F qn) := hide (by rw [hF]; exact Em_mkd E qn)
        have HFL : Hid (F.length = n) := hide (by rw [HMK.out.len, HNE.out])
        have HCH := hide hS.chg
        clear hS hF hin
        obtain ⟨S0, hS0⟩ : ∃ S0, S0 = wr.heap.size := ⟨_, rfl⟩
        have HS : Hid (L2 w wr B v E F qn 0 S0 (.slice none 0 0)) := hide (by rw [hS0]; exact L2.start qn HLW.out HCH.out)
        clear hS0 HLW HCH
        go_upto_region 10 with fail
        go_loopw [7, 8] (fun tl t wr => ∃ (i : Nat) (lv : Value), lv = tl ∧ t = .int .i64 i ∧ i ≤ n ∧ L2 w wr B v E F qn i S0 lv) (fun _ t _ => n - (intOf t).toNat)
        case atStart => exact ⟨0, _, rfl, rfl, by omega, HS.out⟩
        case round =>
          clear HS
          obtain ⟨i, lv, rfl, rfl, hi, hS⟩ := hrel
          by_cases hin : i < n
          · have hii : (i : Int) < n := by omega
            obtain ⟨e, he⟩ : ∃ e, F[i]? = some e := ⟨_, List.getElem?_eq_getElem (by rw [HFL.out]; exact hin)⟩
            obtain ⟨gv, rfl⟩ := HAO.out (by have := HNE.out; omega)
            have hcel := hS.lst.cell2 he HV.out
            have hgl := World.block_lt_of_cell? wr _ hcel
            have HE := hide he
            have HS := hide hS
            have HI : Hid (i < 256) := hide (by omega)
            have HI16 : Hid (i ≤ 16) := hide (by omega)
            have HPL : Hid (e.xs.length ≤ 4398046510976) := hide (HMK.out.few HX.out e (List.mem_of_getElem? he))
            obtain ⟨w1, hw1⟩ : ∃ w1, w1 = wr := ⟨_, rfl⟩
            have H3 : Hid (L3 w1 wr B e qn i 0 (.slice e.ka e.xs.length e.kc)) := hide (by rw [hw1]; exact L3.start hS.lst (List.mem_of_getElem? he))
            have HB1 : Hid (B ≤ w1.heap.size) := hide (by rw [hw1]; exact Nat.le_trans HBW.out hS.chg.size)
            rw [← hw1] at HS
            generalize hk0 : (Value.slice e.ka e.xs.length e.kc) = u0 at *
            clear hS he hw1 hk0
            go_upto_region 14 with fail
            clear hcel hgl
            go_loopw [9, 10] (fun tm tk wr => ∃ (k : Nat) (mv : Value), mv = tm ∧ tk = .int .i64 k ∧ k ≤ 20 ∧ L3 w1 wr B e qn i k mv) (fun _ tk _ => 20 - (intOf tk).toNat)
            case atStart => exact ⟨0, _, rfl, rfl, by omega, H3.out⟩
            case round =>
              clear H3
              obtain ⟨k, mv, rfl, rfl, hk, hS3⟩ := hrel
              by_cases hkl : k < 20
              · have hki : (k : Int) < 20 := by omega
                obtain ⟨M, hMM⟩ : ∃ M, M = mark 2 i qn := ⟨_, rfl⟩
                have HMM := hide hMM
                have HM32 : Hid (M.length = 32) := hide (by rw [hMM]; exact mark_len _ _ _)
                have HA3 : Hid (L3 w1 (wr.alloc (.cells (M.map u8c).toArray 30)) B e qn i k mv) := hide (hS3.below (below_allocP _ _))
                have HZB : Hid (Blk (wr.alloc (.cells (M.map u8c).toArray 30)) wr.heap.size (M.map u8c).toArray 30) := hide (Blk.made wr _ _)
                have HBB : Hid (B ≤ (wr.alloc (.cells (M.map u8c).toArray 30)).heap.size) := hide (Nat.le_trans HB1.out (Nat.le_trans hS3.chg.size (below_allocP _ _).size))
                have HLN : Hid (e.xs.length + k + 1 ≤ 4398046511104) := hide (by have := HPL.out; omega)
                clear hMM hS3
                go_wp2_with (first | ((with_reducible refine wpList_cvt (.tmp 59) i HI.out ?_ ?_ ?_ ?_); rfl; rfl; rfl) | ((with_reducible refine wpList_cvt (.tmp 61) qn HQ.out ?_ ?_ ?_ ?_); rfl; rfl; rfl) | ((with_reducible refine wpList_markB (.tmp 60) (.tmp 62) i qn M HMM.out HI.out HQ.out ?_ ?_ ?_ ?_ ?_); rfl; rfl; rfl; rfl) | ((with_reducible refine wpList_bsQ (.tmp 63) M HM32.out ?_ ?_ ?_ ?_); rfl; rfl; rfl) | ((with_reducible refine wpList_appM ?_ (.tmp 58) (.tmp 64) ?_ B e qn i k mv ?_ HA3.out wr.heap.size ?_ M HMM.out HZB.out HLN.out HBB.out ?_); rfl; rfl; rfl; rfl; intro v2 w2 HS3))
                exact ⟨⟨k + 1, v2, rfl, by go_num, by omega, HS3.out⟩, by simp [intOf]; omega⟩
              · have hki : ¬ (k : Int) < 20 := by omega
                obtain rfl : k = 20 := by omega
                obtain ⟨am, cm, hmf, _⟩ := hS3.m.form
                generalize hml : (e.xs ++ List.replicate 20 (mark 2 i qn)).length = ml at hmf
                subst hmf
                have HS3 := hide hS3
                have HBL : Hid (Below wr.heap.size wr (wr.alloc (.cells #[.slice am ml cm] 42))) := hide (below_allocP _ _)
                have HZB : Hid (Blk (wr.alloc (.cells #[.slice am ml cm] 42)) wr.heap.size #[.slice am ml cm] 42) := hide (Blk.made wr _ _)
                rw [show ((20 : Nat) : Int) = 20 from rfl]
                clear hS3 hml
                go_wp2_with (first | ((with_reducible refine wpList_appL ?_ (.tmp 66) (.tmp 68) ?_ B v E F e qn i S0 lv (.slice am ml cm) HS.out HMK.out HE.out HS3.out HI16.out HBW.out wr.heap.size HBL.out HZB.out ?_ ?_ ?_); rfl; rfl; rfl; rfl; intro lv2 w2 HS4))
                exact ⟨⟨i + 1, lv2, rfl, by go_num, by omega, HS4.out⟩, by simp [intOf]; omega⟩
          · have hii : ¬ (i : Int) < n := by omega
            obtain rfl : n = i := by omega
            have HS : Hid (L4 w wr B v E F qn n 0 lv) := hide (L4.start hS HFL.out)
            clear hS hin hi
            go_upto_region 19 with fail
            go_loopw [11] (fun t wr => ∃ i : Nat, t = .int .i64 i ∧ i ≤ n ∧ L4 w wr B v E F qn n i lv) (fun t _ => n - (intOf t).toNat)
            case atStart => exact ⟨0, rfl, by omega, HS.out⟩
            case round =>
              clear HS
              obtain ⟨i, rfl, hi, hS⟩ := hrel
              by_cases hin : i < n
              · have hii : (i : Int) < n := by omega
                obtain ⟨e, he⟩ : ∃ e, F[i]? = some e := ⟨_, List.getElem?_eq_getElem (by rw [HFL.out]; exact hin)⟩
                obtain ⟨gv, rfl⟩ := HAO.out (by have := HNE.out; omega)
                have hcel := hS.cell he HV.out
                have hgl := World.block_lt_of_cell? wr _ hcel
                obtain ⟨gl, cl, gu, cu, rfl, hcl, hr1, hr2⟩ := hS.grown HMK.out he
                have hgl2 := World.block_lt_of_cell? wr _ hcl
                have HPN : Hid (∀ k, k < e.xs.length → ∃ ga, e.ka = some ⟨ga, 0, none⟩ ∧ wr.rangeAt ga (k * 32) ((mark 1 i qn).map u8c)) := hide (fun k hk => hS.pin HMK.out he k hk)
                have HR1 := hide hr1
                have HR2 := hide hr2
                have HS := hide hS
                have HIN : Hid (i < n) := hide hin
                have HI : Hid (i < 256) := hide (by omega)
                have HPL : Hid (e.xs.length ≤ 4398046510976) := hide (HMK.out.few HX.out e (List.mem_of_getElem? he))
                generalize e.kc = kc at *
                generalize e.ka = ka at *
                generalize e.xs.length = p at *
                have hp48 := HPL.out
                obtain ⟨M1, hM1⟩ : ∃ M, M = mark 1 i qn := ⟨_, rfl⟩
                obtain ⟨M2, hM2⟩ : ∃ M, M = mark 2 i qn := ⟨_, rfl⟩
                rw [← hM1] at HPN HR1
                rw [← hM2] at HR2
                have HM1 := hide hM1
                have HM2 := hide hM2
                have HL1 : Hid (M1.length = 32) := hide (by rw [hM1]; exact mark_len _ _ _)
                have HL2 : Hid (M2.length = 32) := hide (by rw [hM2]; exact mark_len _ _ _)
                have hp20 : ((p + 20 : Nat) : Int) = (p : Int) + 20 := by omega
                obtain ⟨p2, hp2⟩ : ∃ p2, p2 = p + 20 := ⟨_, rfl⟩
                rw [← hp2] at hcl HR2
                have HP2 := hide hp2
                have hp2b : p2 ≤ 4398046511104 := by omega
                have hg1 := fun x y W => keyGuard .neq M1 x y W
                have hg2 := fun x y W => keyGuard .neq M2 x y W
                have hn1 := fun W => keyNeq M1 HL1.out W
                have hn2 := fun W => keyNeq M2 HL2.out W
                clear hS he hr1 hr2 hM1 hM2 hp2 hp20
                go_upto_region 23 with fail
                go_loop [13] (fun t => ∃ k : Nat, t = .int .i64 k ∧ k ≤ p2) (fun t => p2 - (intOf t).toNat)
                case atStart => exact ⟨0, rfl, Nat.zero_le _⟩
                case round =>
                  obtain ⟨k, rfl, hk⟩ := hrel
                  by_cases hkl : k < p2
                  · have hki : (k : Int) < p2 := by omega
                    by_cases hkp : k < p
                    · have hkpi : (k : Int) < p := by omega
                      have hkpj : ¬ (p : Int) ≤ k := by omega
                      obtain ⟨ga, rfl, hra⟩ := HPN.out k hkp
                      have HRA := hide hra
                      have HRU := hide (HR1.out k hkp)
                      clear hra
                      go_wp2_with (first | ((with_reducible refine wpList_cvt (.tmp 103) i HI.out ?_ ?_ ?_ ?_); rfl; rfl; rfl) | ((with_reducible refine wpList_cvt (.tmp 105) qn HQ.out ?_ ?_ ?_ ?_); rfl; rfl; rfl) | ((with_reducible refine wpList_cvt (.tmp 117) i HI.out ?_ ?_ ?_ ?_); rfl; rfl; rfl) | ((with_reducible refine wpList_cvt (.tmp 119) qn HQ.out ?_ ?_ ?_ ?_); rfl; rfl; rfl) | ((with_reducible refine wpList_markA (.tmp 104) (.tmp 106) i qn M1 HM1.out HI.out HQ.out ?_ ?_ ?_ ?_ ?_); rfl; rfl; rfl; rfl) | ((with_reducible refine wpList_markA (.tmp 118) (.tmp 120) i qn M1 HM1.out HI.out HQ.out ?_ ?_ ?_ ?_ ?_); rfl; rfl; rfl; rfl) | ((with_reducible refine wpList_keyMid (.tmp 101) ga (k * 32) M1 HL1.out HRA.out ?_ ?_ ?_ ?_); rfl; rfl; rfl) | ((with_reducible refine wpList_keyMid (.tmp 115) gu (k * 32) M1 HL1.out HRU.out ?_ ?_ ?_ ?_); rfl; rfl; rfl) | ((with_reducible refine wpList_offK (.tmp 135) ?_ ?_ ?_); rfl; rfl))
                      exact ⟨⟨k + 1, by go_num, by omega⟩, by simp [intOf]; omega⟩
                    · have hkpi : ¬ (k : Int) < p := by omega
                      have hkpj : (p : Int) ≤ k := by omega
                      have HRU := hide (HR2.out k (by omega) hkl)
                      go_wp2_with (first | ((with_reducible refine wpList_cvt (.tmp 137) i HI.out ?_ ?_ ?_ ?_); rfl; rfl; rfl) | ((with_reducible refine wpList_cvt (.tmp 139) qn HQ.out ?_ ?_ ?_ ?_); rfl; rfl; rfl) | ((with_reducible refine wpList_markB (.tmp 138) (.tmp 140) i qn M2 HM2.out HI.out HQ.out ?_ ?_ ?_ ?_ ?_); rfl; rfl; rfl; rfl) | ((with_reducible refine wpList_keyMid (.tmp 135) gu (k * 32) M2 HL2.out HRU.out ?_ ?_ ?_ ?_); rfl; rfl; rfl) | ((with_reducible refine wpList_offK (.tmp 101) ?_ ?_ ?_); rfl; rfl) | ((with_reducible refine wpList_offK (.tmp 115) ?_ ?_ ?_); rfl; rfl))
                      exact ⟨⟨k + 1, by go_num, by omega⟩, by simp [intOf]; omega⟩
                  · have hki : ¬ (k : Int) < p2 := by omega
                    clear hg1 hg2 hn1 hn2 HPN HR1 HR2 HM1 HM2 HL1 HL2
                    go_wp2_with ((with_reducible refine wpList_storeS ?_ (.tmp 150) (.tmp 149) ?_ B v E F qn n i _ HS.out gv cap HV.out HIN.out ?_ (-(qn : Int)) ?_ ?_); rfl; rfl; rfl; rfl; intro w2 HS2)
                    exact ⟨⟨i + 1, by go_num, by omega, HS2.out⟩, by simp [intOf]; omega⟩
              · have hii : ¬ (i : Int) < n := by omega
                obtain rfl : n = i := by omega
                have HS := hide hS
                have HN16 : Hid (n ≤ 16) := hide hn
                have HBL : Hid (Below wr.heap.size wr (wr.alloc (.cells #[.int .i64 99, .int .i64 0, .slice none 0 0] 80))) := hide (below_allocP _ _)
                have HZB : Hid (Blk (wr.alloc (.cells #[.int .i64 99, .int .i64 0, .slice none 0 0] 80)) wr.heap.size #[.int .i64 99, .int .i64 0, .slice none 0 0] 80) := hide (Blk.made wr _ _)
                clear hS hin hi
                go_upto_region 29 with ((with_reducible refine wpList_appS9 ?_ (.tmp 151) (.tmp 153) ?_ B v E F qn n _ HS.out HN16.out HBW.out wr.heap.size _ HBL.out HZB.out ?_ ?_ ?_); rfl; rfl; exact HV.out.symm; rfl; intro g2 c2 n2 w9 HN2 hc9 HC9)
                have hl9 := World.block_lt_of_cell? w9 _ hc9
                have hn2 : (n2 : Int) - 1 = (n : Int) := by have := HN2.out; omega
                have hn3 : (n : Int) < (n2 : Int) := by have := HN2.out; omega
                have hn4 : n2 ≤ 17 := by have := HN2.out; omega
                go_wp2
                go_ret
                exact ⟨rfl, HC9.out⟩
  rw [show v = .slice ao n cap from HV.out] at hgo ⊢
  exact hgo
end Go.Proofs.Ytagnglkkmdeicaa
