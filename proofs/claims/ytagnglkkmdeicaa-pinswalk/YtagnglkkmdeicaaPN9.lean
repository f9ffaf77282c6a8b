/- PinsWalk, the law. -/
import Derived.Test.YtagnglkkmdeicaaPN8r
namespace Go.Proofs.Ytagnglkkmdeicaa
set_option linter.unusedVariables false
set_option linter.unusedSimpArgs false
open Go.RowKit
set_option maxRecDepth 100000

def slLen : Value → Nat
  | .slice _ n _ => n
  | _ => 0
def WalkC (w : World) (e : Ending) (w' : World) : Prop := e = .returned (.bool true) ∧ Below w.heap.size w w'
set_option maxHeartbeats 4000000 in
theorem walk_law (w : World) (ao : Option Addr) (n c : Nat) (s : Int) (ps : List (Int × List UInt8)) (hn : n = ps.length) (hr : PRow w ao ps) (hl : n ≤ 3518437208882) : Calls Try.prog 4 #[.slice ao n c, .int .i64 s] w (WalkC w) := by
  have HR := hide hr
  have HN := hide hn
  have HM := hide (new_any w)
  have ha0 := and15 s
  obtain ⟨sk, hsk⟩ : ∃ sk, sk = m15 s := ⟨_, rfl⟩
  have HSK : Hid (sk < 16) := hide (by rw [hsk]; exact m15_lt s)
  rw [← hsk] at ha0
  clear hr hn hsk
  go_enter Try.func4, Try.ntmps4
  go_upto_region 4 with (go_at_call 5; (with_reducible refine HM.out.mono ?_); rintro e w1 ⟨zp, rfl, hlo, hP, hB⟩; have HLO := hide hlo; have HP := hide hP; have HB := hide hB; clear hlo hP hB)
  clear HM
  go_wp2
  go_loopw [6] (fun t wr => ∃ j : Nat, t = .int .i64 j ∧ j ≤ 16 ∧ ∃ os, PinsAt wr zp os ∧ OpnTo os w.heap.size j ∧ Below w.heap.size w wr) (fun t _ => 16 - (intOf t).toNat)
  case atStart => exact ⟨0, rfl, by omega, _, HP.out, OpnTo.begin _, HB.out⟩
  case round =>
    clear HP HB
    obtain ⟨j, rfl, hj, os, hP, hO, hB⟩ := hrel
    by_cases hlt : j < 16
    · have hji : (j : Int) < 16 := by omega
      have HC := hide (opened_step hlt hP hO hB HLO.out)
      clear hP hO hB
      go_wp2_with (go_at_call 9; (with_reducible refine HC.out.mono ?_); rintro e w2 ⟨rfl, os', hP', hO', hB'⟩)
      exact ⟨⟨j + 1, by go_num, by omega, os', hP', hO', hB'⟩, by simp [intOf]; omega⟩
    · have hji : ¬ (j : Int) < 16 := by omega
      have HPh : Hid (Ph w zp ao ps (gath (ps.take 0)) wr) := hide ⟨⟨os, hP, by have e : j = 16 := by omega
                                                                                rw [e] at hO; exact hO.all⟩, HR.out.below hB, HLO.out, hB⟩
      obtain ⟨w3, hw3⟩ : ∃ w3, w3 = wr := ⟨_, rfl⟩
      rw [← hw3] at HPh ⊢
      clear hP hO hB hw3
      go_upto_region 10 with fail
      clear ha0
      go_wp2
      go_loopw [7] (fun t wr => ∃ i : Nat, t = .int .i64 i ∧ i ≤ n ∧ Ph w zp ao ps (gath (ps.take i)) wr) (fun t _ => n - (intOf t).toNat)
      case atStart => exact ⟨0, rfl, by omega, HPh.out⟩
      case round =>
        clear HPh
        obtain ⟨i, rfl, hi, hPh⟩ := hrel
        by_cases hin : i < n
        · have hii : (i : Int) < n := by omega
          have hik : i < ps.length := by rw [← HN.out]; exact hin
          have hd := below_d wr
          have hPd := hPh.below hd
          obtain ⟨g, o, rfl, hc, hra⟩ := hPd.row.at' i hik
          obtain ⟨q, hq⟩ : ∃ q, q = ps[i].1 := ⟨_, rfl⟩
          obtain ⟨x, hx⟩ : ∃ x, x = ps[i].2 := ⟨_, rfl⟩
          have hx32 : x.length = 32 := by rw [hx]; exact HR.out.len _ (List.getElem_mem _)
          have HSU := hide (gath_succ ps i hik)
          rw [← hq] at hc HSU
          rw [← hx] at hra HSU
          have ha := and15 q
          obtain ⟨k, hk⟩ : ∃ k, k = m15 q := ⟨_, rfl⟩
          have hk16 : k < 16 := by rw [hk]; exact m15_lt q
          rw [← hk] at ha HSU
          have HC := hide (hPd.pin HR.out hk16 hx32 (show (gath (ps.take i) k).length < maxLen by have := gath_few ps i k; have := HN.out; unfold maxLen; omega))
          rw [← HSU.out] at HC
          have HRA : Hid ((Instr.loadAt 30 (.pointer (some ⟨g, o + i * 33 + 1, none⟩))).run Try.prog wr.drew = .ok (keyV x) wr.drew) := hide (loadAt_key hx32 hra)
          clear hPh hPd hd hra hx hq hk hik HSU hx32 hk16
          go_upto_region 13 with fail
          refine wp_region_still_tail 12 (by kernel_rfl) (by kernel_rfl) ?_
          simp only [List.take_succ_cons, List.take_zero, List.drop_succ_cons, List.drop_zero]
          still_step
          still_step
          still_step
          still_step
          still_step
          still_step
          still_step
          still_step
          still_step
          still_step
          still_step
          refine wpStill_val (keyV x) rfl (run_load rfl rfl HRA.out) ?_
          refine wpStill_nil ?_
          go_wp2_with (go_at_call 10; (with_reducible refine HC.out.mono ?_); rintro e w4 ⟨rfl, hPh4⟩)
          exact ⟨⟨i + 1, by go_num, by omega, hPh4⟩, by simp [intOf]; omega⟩
        · have hii : ¬ (i : Int) < n := by omega
          have hPh2 : Ph w zp ao ps (gath ps) wr := by rw [List.take_of_length_le (by rw [← HN.out]; omega)] at hPh; exact hPh
          have hf := gath_few ps ps.length sk
          rw [List.take_length] at hf
          have HC := hide (hPh2.pin HR.out HSK.out (x := K1) (by rfl) (show (gath ps sk).length < maxLen by have := HN.out; unfold maxLen; omega))
          clear hPh hPh2 hf
          go_upto_region 17 with (first | ((with_reducible refine wpList_K1 ?_ ?_ ?_); rfl; rfl) | (go_at_call 10; (with_reducible refine HC.out.mono ?_); rintro e w4 ⟨rfl, hPh4⟩))
          have HPh4 := hide hPh4
          obtain ⟨F, hF⟩ : ∃ F, F = pinF (gath ps) sk K1 := ⟨_, rfl⟩
          have HF := hide hF
          rw [← hF] at HPh4
          obtain ⟨os2, hP2, hO2⟩ := HPh4.out.pins
          have HX0 := pnext_any w4 zp os2 (sk : Int) zK true zK_len hP2
          rw [hO2.keys HSK.out] at HX0
          have HX := hide HX0
          have h32 : ∀ x ∈ F sk, x.length = 32 := by
            intro x hx
            rw [hF] at hx
            unfold pinF at hx
            rw [if_pos rfl] at hx
            rcases (mem_addK _ _ _).1 hx with rfl | hx
            · rfl
            · obtain ⟨p, h1, _, rfl⟩ := (mem_gath _ _ _).1 hx
              exact HR.out.len p h1
          have H32 := hide h32
          have HOS : Hid (∀ W, Below w4.heap.size w4 W → PinsAt W zp os2) := hide (fun W hb => hP2.below hb)
          have HO2 := hide hO2
          clear HX0 hPh4 hF hP2 hO2 HC h32
          have hz := zero_key
          go_upto_region 18 with (first | ((with_reducible refine wpList_K0 ?_ ?_ ?_); rfl; rfl) | (go_at_call 11; (with_reducible refine HX.out.mono ?_); rintro e w5 ⟨k, ok, rfl, hk32, hL, hb5⟩; have HK32 := hide hk32; have HL := hide hL; have HB5 := hide hb5; clear hk32 hL hb5) | ((with_reducible refine wpList_put_key ?_ (.tmp 9) (.tmp 61) ?_ w5.heap.size ?_ w5 ?_ ?_ k HK32.out ?_ ?_); rfl; rfl; rfl; rfl; rfl; rfl; intro w6 HK6 hb6))
          obtain ⟨zk, hzk⟩ : ∃ zk, zk = w5.heap.size := ⟨_, rfl⟩
          have HZK := hide hzk
          have HG0 : Hid (Go3 w5 zk (F sk) [] k ok (.slice none 0 0) w6) := hide ⟨by rw [hzk]; exact hb6, by rw [hzk]; exact HK6.out, World.ownsRow_nil _ _ _ _, Wk.begin H32.out HL.out⟩
          rw [← hzk]
          clear hzk HK6 hb6 HL HK32 HX hii hin hi hji hlt hj hz
          have hSL : (F sk).length ≤ numS sk ps + 1 := by
            rw [HF.out]
            unfold pinF
            rw [if_pos rfl]
            have := addK_len K1 (gath ps sk)
            have := len_gath sk ps
            omega
          have hnum := numS_le sk ps
          have HSL := hide hSL
          have HNUM : Hid (numS sk ps ≤ n) := hide (by rw [HN.out]; exact hnum)
          clear hSL hnum
          go_wp2
          go_loopw [8, 10] (fun m o wr => ∃ (M : List (List UInt8)) (k : List UInt8) (ok : Bool) (am : Option Addr) (mm cap : Nat), m = .slice am mm cap ∧ mm = M.length ∧ o = .bool ok ∧ Go3 w5 zk (F sk) M k ok (.slice am mm cap) wr) (fun m _ _ => (F sk).length - slLen m)
          case atStart => exact ⟨[], k, ok, none, 0, 0, rfl, rfl, rfl, HG0.out⟩
          case round =>
            clear HG0
            obtain ⟨M, k, ok, am, mm, cap, rfl, hmm, rfl, hG⟩ := hrel
            have HMM := hide hmm
            have HG := hide hG
            clear hG hmm
            cases ok with
            | false =>
              have hK1 : K1 ∈ M := by
                have h1 : K1 ∈ F sk := by
                  rw [HF.out]
                  unfold pinF
                  rw [if_pos rfl]
                  exact (mem_addK _ _ _).2 (.inl rfl)
                rcases HG.out.wk.all K1 h1 with h | ⟨h, _⟩
                · exact h
                · cases h
              have hall : ∀ x ∈ F sk, x ∈ M := fun x hx => by
                rcases HG.out.wk.all x hx with h | ⟨h, _⟩
                · exact h
                · cases h
              have HALL := hide hall
              have HM32 : Hid (∀ x ∈ M, x.length = 32) := hide (fun x hx => H32.out x (HG.out.wk.sub x hx))
              have hm1 : 1 ≤ mm := by rw [HMM.out]; exact List.length_pos_of_mem hK1
              have hm2 : mm ≤ numS sk ps + 1 := by rw [HMM.out]; exact Nat.le_trans HG.out.wk.len HSL.out
              have HM2 := hide hm2
              have hmn : mm ≤ 3518437208883 := by have := HNUM.out; omega
              have hbw : Below w4.heap.size w4 wr := HB5.out.trans ((show Below w5.heap.size w5 wr by rw [← HZK.out]; exact HG.out.bel).mono HB5.out.size)
              have HF4 : Hid (Fin4 w zp os2 ao ps (zk + 1) (.slice am mm cap) M wr) := hide ⟨HPh4.out.row.below hbw, HG.out.own, HOS.out _ hbw, HPh4.out.bel.trans (hbw.mono HPh4.out.bel.size)⟩
              clear hall hK1 hm2 hbw HG
              obtain ⟨w8, hw8⟩ : ∃ w8, w8 = wr := ⟨_, rfl⟩
              rw [← hw8] at HF4 ⊢
              clear hw8
              go_upto_region 26 with fail
              go_wp2
              go_loopw [11, 12] (fun t u wr => ∃ (i cn : Nat), u = .int .i64 i ∧ i ≤ n ∧ t = .int .i64 cn ∧ cn ≤ i ∧ cn = numS sk (ps.take i) ∧ Fin4 w zp os2 ao ps (zk + 1) (.slice am mm cap) M wr) (fun _ u _ => n - (intOf u).toNat)
              case atStart => exact ⟨0, 0, rfl, by omega, rfl, by omega, rfl, HF4.out⟩
              case round =>
                clear HF4
                obtain ⟨i, cn, rfl, hi, rfl, hci, hcn, hF4⟩ := hrel
                by_cases hin : i < n
                · have hii : (i : Int) < n := by omega
                  have hik : i < ps.length := by rw [← HN.out]; exact hin
                  obtain ⟨g, o, rfl, hc, hra⟩ := hF4.row.at' i hik
                  obtain ⟨q, hq⟩ : ∃ q, q = ps[i].1 := ⟨_, rfl⟩
                  obtain ⟨x, hx⟩ : ∃ x, x = ps[i].2 := ⟨_, rfl⟩
                  have hx32 : x.length = 32 := by rw [hx]; exact HR.out.len _ (List.getElem_mem _)
                  have hsu := numS_succ sk ps i hik
                  rw [← hq] at hc hsu
                  have hpm : m15 q = sk → x ∈ F sk := fun e => by
                    rw [HF.out]
                    unfold pinF
                    rw [if_pos rfl]
                    exact (mem_addK _ _ _).2 (.inr ((mem_gath _ _ _).2 ⟨ps[i], List.getElem_mem _, by rw [← hq]; exact e, by rw [hx]⟩))
                  have HRX : Hid (∀ W, Fin4 w zp os2 (some ⟨g, o, none⟩) ps (zk + 1) (.slice am mm cap) M W → W.rangeAt g (o + i * 33 + 1) (x.map u8c)) := hide (fun W h => by
                    obtain ⟨g', o', e, _, h2⟩ := h.row.at' i hik
                    cases e
                    rw [hx]; exact h2)
                  have ha := and15 q
                  obtain ⟨k, hk⟩ : ∃ k, k = m15 q := ⟨_, rfl⟩
                  rw [← hk] at ha hsu hpm
                  have HF4 := hide hF4
                  have HX32 := hide hx32
                  by_cases hks : k = sk
                  · have hkb : ((k : Int) == (sk : Int)) = true := by rw [hks]; simp
                    have HCN : Hid (numS sk (ps.take (i + 1)) = cn + 1) := hide (by rw [hsu, if_pos hks, ← hcn])
                    have HXM : Hid (x ∈ M) := hide (HALL.out x (hpm hks))
                    clear hsu hpm hk hq hx hik hra hF4 hx32 hcn hks
                    go_upto_region 31 with fail
                    clear ha hkb hc
                    obtain ⟨w9, hw9⟩ : ∃ w9, w9 = wr := ⟨_, rfl⟩
                    rw [← hw9] at HF4 ⊢
                    clear hw9
                    go_wp2
                    go_loopw [13, 14] (fun t u wr => ∃ (j : Nat) (fb : Bool), u = .int .i64 j ∧ j ≤ mm ∧ t = .bool fb ∧ fb = decide (x ∈ M.take j) ∧ Fin4 w zp os2 (some ⟨g, o, none⟩) ps (zk + 1) (.slice am mm cap) M wr) (fun _ u _ => mm - (intOf u).toNat)
                    case atStart => exact ⟨0, false, rfl, by omega, rfl, by simp, HF4.out⟩
                    case round =>
                      clear HF4
                      obtain ⟨j2, fb, rfl, hj2, rfl, hfb, hF4⟩ := hrel
                      by_cases hjm : j2 < mm
                      · have hjmi : (j2 : Int) < mm := by omega
                        have hjM : j2 < M.length := by rw [← HMM.out]; exact hjm
                        have hts := mem_take_succ hjM x
                        rw [← hfb] at hts
                        have HF4 := hide hF4
                        have HFD := hide (hF4.below (below_d wr))
                        cases fb with
                        | true =>
                          have HTS : Hid (true = decide (x ∈ M.take (j2 + 1))) := hide (by rw [hts]; rfl)
                          clear hts hfb hF4
                          go_upto_region 34 with fail
                          refine pc_walk _ (fun _ _ _ _ _ h => h) wr _ (Nat.lt_of_sub_pos (by exact Nat.succ_pos _)) rfl ?_
                          simp only [Act.put, List.setIfInBounds_toArray, List.set_cons_zero, List.set_cons_succ]
                          go_wp2
                          exact ⟨⟨j2 + 1, true, by go_num, by omega, rfl, HTS.out, HFD.out⟩, by simp [intOf]; omega⟩
                        | false =>
                          have HTS : Hid ((M[j2] == x) = decide (x ∈ M.take (j2 + 1))) := hide (by rw [hts]; rfl)
                          obtain ⟨y, hy⟩ : ∃ y, y = M[j2] := ⟨_, rfl⟩
                          have hy32 : y.length = 32 := by rw [hy]; exact HM32.out _ (List.getElem_mem _)
                          obtain ⟨am0, cap0, hv, hg0⟩ := hF4.own.form
                          obtain ⟨rfl, hml, rfl⟩ := (Value.slice.injEq ..).mp hv
                          obtain ⟨gm, rfl⟩ := hg0 (by omega)
                          have hrd := HFD.out.own.read HM32.out j2 hjM
                          rw [← hy] at hrd HTS
                          have HRD : Hid (wr.drew.rangeAt gm (j2 * 32) (y.map u8c) ∧ wr.drew.rangeAt g (o + i * 33 + 1) (x.map u8c)) := hide ⟨hrd, HRX.out _ HFD.out⟩
                          have HY32 := hide hy32
                          clear hts hfb hF4 hv hml hg0 hrd hy hy32
                          go_upto_region 34 with fail
                          refine pd_walk _ (fun _ _ _ _ _ h => h) wr gm mm cap g o n c j2 i y x HY32.out HX32.out hjm hin HRD.out _ (Nat.lt_of_sub_pos (by exact Nat.succ_pos _)) rfl rfl rfl rfl rfl ?_
                          simp only [Act.put, List.setIfInBounds_toArray, List.set_cons_zero, List.set_cons_succ]
                          obtain ⟨rb, hrb⟩ : ∃ rb, rb = (y == x) := ⟨_, rfl⟩
                          rw [← hrb] at HTS ⊢
                          clear hrb
                          go_wp2
                          exact ⟨⟨j2 + 1, rb, by go_num, by omega, rfl, HTS.out, HFD.out⟩, by simp [intOf]; omega⟩
                      · have hjmi : ¬ (j2 : Int) < mm := by omega
                        have hft : fb = true := by
                          rw [hfb, List.take_of_length_le (by rw [← HMM.out]; omega)]
                          simpa using HXM.out
                        subst hft
                        clear hfb
                        have HF4 := hide hF4
                        clear hF4
                        go_wp2
                        go_roundw
                        case rel => exact ⟨i + 1, cn + 1, by go_num, by omega, by go_num, by omega, HCN.out.symm, HF4.out⟩
                        case measure => simp [intOf]; omega
                  · have hkb : ((k : Int) == (sk : Int)) = false := by simp; omega
                    have HCN : Hid (numS sk (ps.take (i + 1)) = cn) := hide (by rw [hsu, if_neg hks, ← hcn]; rfl)
                    clear hsu hpm hk hq hx hik hra hF4 hx32 hcn hks HRX
                    go_wp2
                    exact ⟨⟨i + 1, cn, by go_num, by omega, rfl, by omega, HCN.out.symm, HF4.out⟩, by simp [intOf]; omega⟩
                · have hii : ¬ (i : Int) < n := by omega
                  have hcn2 : cn = numS sk ps := by rw [hcn, List.take_of_length_le (by rw [← HN.out]; omega)]
                  have hmc : mm ≤ cn + 1 := by rw [hcn2]; exact HM2.out
                  have HF4 := hide hF4
                  clear hF4 hcn hcn2 HALL
                  go_upto_region 40 with fail
                  clear hmc hm1 hii hci hi
                  obtain ⟨w9, hw9⟩ : ∃ w9, w9 = wr := ⟨_, rfl⟩
                  rw [← hw9] at HF4 ⊢
                  clear hw9
                  go_wp2
                  go_loopw [15] (fun u wr => ∃ (i : Nat), u = .int .i64 i ∧ i ≤ n ∧ Fin4 w zp os2 ao ps (zk + 1) (.slice am mm cap) M wr) (fun u _ => n - (intOf u).toNat)
                  case atStart => exact ⟨0, rfl, by omega, HF4.out⟩
                  case round =>
                    clear HF4
                    obtain ⟨i, rfl, hi, hF4⟩ := hrel
                    by_cases hin : i < n
                    · have hii : (i : Int) < n := by omega
                      have hik : i < ps.length := by rw [← HN.out]; exact hin
                      obtain ⟨g, o, rfl, -, hra⟩ := hF4.row.at' i hik
                      obtain ⟨x, hx⟩ : ∃ x, x = ps[i].2 := ⟨_, rfl⟩
                      have hx32 : x.length = 32 := by rw [hx]; exact HR.out.len _ (List.getElem_mem _)
                      have HRX : Hid (∀ W, Fin4 w zp os2 (some ⟨g, o, none⟩) ps (zk + 1) (.slice am mm cap) M W → W.rangeAt g (o + i * 33 + 1) (x.map u8c)) := hide (fun W h => by
                        obtain ⟨g', o', e, _, h2⟩ := h.row.at' i hik
                        cases e
                        rw [hx]; exact h2)
                      have HX32 := hide hx32
                      have hpos : 1 ≤ cnt os2 x 16 := by
                        refine cnt_pos (s := m15 ps[i].1) ?_ 16 (m15_lt _)
                        unfold hasO
                        rw [HO2.out.keys (m15_lt _), HF.out]
                        simp only [decide_eq_true_eq]
                        unfold pinF
                        have hm : x ∈ gath ps (m15 ps[i].1) := (mem_gath _ _ _).2 ⟨ps[i], List.getElem_mem _, rfl, by rw [hx]⟩
                        split
                        · exact (mem_addK _ _ _).2 (.inr hm)
                        · exact hm
                      have hle := cnt_le os2 x 16
                      obtain ⟨was, hwas⟩ : ∃ was, was = cnt os2 x 16 := ⟨_, rfl⟩
                      have HWAS := hide hwas
                      rw [← hwas] at hpos hle
                      have hw1 : ¬ (was : Int) < 1 := by omega
                      clear hpos
                      have HD1 : Hid (decide ((was : Int) < 1) = false) := hide (decide_eq_false hw1)
                      have HC := hide (count_any wr zp os2 x hx32 hF4.pins)
                      rw [← hwas] at HC
                      have HF4 := hide hF4
                      have HRA := hide (HRX.out _ HF4.out)
                      clear hra hF4 hwas hx hx32 hik
                      go_upto_region 45 with (first | ((with_reducible refine wpList_load_keyAt (.tmp 162) g (o + i * 33 + 1) x HX32.out HRA.out ?_ ?_ ?_ ?_); rfl; rfl; rfl) | (go_at_call 14; (with_reducible refine HC.out.mono ?_); rintro e wa ⟨rfl, hba⟩))
                      have HFa := hide (HF4.out.below hba)
                      have HRa := hide (HRX.out _ HFa.out)
                      have HH := hide (phas_any wa zp os2 (sk : Int) x HX32.out HFa.out.pins)
                      obtain ⟨hb, hhb⟩ : ∃ hb, hb = hasO (sel os2 (sk : Int)) x := ⟨_, rfl⟩
                      have HHB := hide hhb
                      rw [← hhb] at HH
                      clear HF4 HRA HC hhb hba
                      cases hb with
                      | true =>
                        go_upto_region 47 with (first | ((with_reducible refine wpList_load_keyAt (.tmp 170) g (o + i * 33 + 1) x HX32.out HRa.out ?_ ?_ ?_ ?_); rfl; rfl; rfl) | (go_at_call 13; (with_reducible refine HH.out.mono ?_); rintro e wb ⟨rfl, hbb⟩))
                        have HFb := hide (HFa.out.below hbb)
                        have HCL := hide (closed_any wb (some ⟨g, o, none⟩) n c sk ps HN.out HSK.out HFb.out.row (by omega))
                        clear hbb HFa HRa HH
                        go_upto_region 48 with (go_at_call 15; (with_reducible refine HCL.out.mono ?_); rintro e wc ⟨zq, os3, rfl, hPq, hbc, hs3, ht3⟩)
                        have HFc := hide (HFb.out.below hbc)
                        have HRc := hide (HRX.out _ HFc.out)
                        have hdrop := cnt_drop (os := os2) (os' := os3) (x := x) (s := sk) (by rw [hs3]; rfl) (fun t ht hne => by unfold hasO; rw [ht3 t ht hne, ← HF.out, HO2.out.keys ht]) 16 (Nat.le_refl _)
                        rw [← HWAS.out, ← HHB.out] at hdrop
                        have hcw : cnt os3 x 16 = was - 1 := by
                          rw [if_pos ⟨HSK.out, rfl⟩] at hdrop
                          omega
                        have HCQ := hide (count_any wc zq os3 x HX32.out hPq)
                        rw [hcw] at HCQ
                        obtain ⟨wd, hwd⟩ : ∃ wd, wd = was - 1 := ⟨_, rfl⟩
                        have hwi : (was : Int) - 1 = (wd : Int) := by omega
                        rw [← hwd] at HCQ
                        clear HFb HCL hPq hbc hs3 ht3 hdrop hcw hwd
                        go_wp2_with (first | ((with_reducible refine wpList_load_keyAt (.tmp 187) g (o + i * 33 + 1) x HX32.out HRc.out ?_ ?_ ?_ ?_); rfl; rfl; exact wanted_some (j := 6) (b := false) (t := 182) rfl (by kernel_rfl) (congrArg Value.bool HD1.out) (by decide : (182 : Nat) < 195)) | (go_at_call 14; (with_reducible refine HCQ.out.mono ?_); rintro e we ⟨rfl, hbe⟩))
                        exact ⟨⟨i + 1, by go_num, by omega, HFc.out.below hbe⟩, by simp [intOf]; omega⟩
                      | false =>
                        go_upto_region 47 with (first | ((with_reducible refine wpList_load_keyAt (.tmp 170) g (o + i * 33 + 1) x HX32.out HRa.out ?_ ?_ ?_ ?_); rfl; rfl; rfl) | (go_at_call 13; (with_reducible refine HH.out.mono ?_); rintro e wb ⟨rfl, hbb⟩))
                        have HFb := hide (HFa.out.below hbb)
                        have HCL := hide (closed_any wb (some ⟨g, o, none⟩) n c sk ps HN.out HSK.out HFb.out.row (by omega))
                        clear hbb HFa HRa HH
                        go_upto_region 48 with (go_at_call 15; (with_reducible refine HCL.out.mono ?_); rintro e wc ⟨zq, os3, rfl, hPq, hbc, hs3, ht3⟩)
                        have HFc := hide (HFb.out.below hbc)
                        have HRc := hide (HRX.out _ HFc.out)
                        have hdrop := cnt_drop (os := os2) (os' := os3) (x := x) (s := sk) (by rw [hs3]; rfl) (fun t ht hne => by unfold hasO; rw [ht3 t ht hne, ← HF.out, HO2.out.keys ht]) 16 (Nat.le_refl _)
                        rw [← HWAS.out, ← HHB.out] at hdrop
                        have hcw : cnt os3 x 16 = was - 0 := by
                          rw [if_neg (fun e => by cases e.2)] at hdrop
                          omega
                        have HCQ := hide (count_any wc zq os3 x HX32.out hPq)
                        rw [hcw] at HCQ
                        obtain ⟨wd, hwd⟩ : ∃ wd, wd = was - 0 := ⟨_, rfl⟩
                        have hwi : (was : Int) - 0 = (wd : Int) := by omega
                        rw [← hwd] at HCQ
                        clear HFb HCL hPq hbc hs3 ht3 hdrop hcw hwd
                        go_wp2_with (first | ((with_reducible refine wpList_load_keyAt (.tmp 187) g (o + i * 33 + 1) x HX32.out HRc.out ?_ ?_ ?_ ?_); rfl; rfl; exact wanted_some (j := 6) (b := false) (t := 182) rfl (by kernel_rfl) (congrArg Value.bool HD1.out) (by decide : (182 : Nat) < 195)) | (go_at_call 14; (with_reducible refine HCQ.out.mono ?_); rintro e we ⟨rfl, hbe⟩))
                        exact ⟨⟨i + 1, by go_num, by omega, HFc.out.below hbe⟩, by simp [intOf]; omega⟩
                    · have hii : ¬ (i : Int) < n := by omega
                      have HBE := hide hF4.bel
                      clear hF4
                      go_wp2
                      go_ret
                      exact ⟨rfl, HBE.out⟩
            | true =>
              have hle : mm ≤ n := by have := HG.out.wk.less; have := HSL.out; have := HNUM.out; have := HMM.out; omega
              have hbw : Below w4.heap.size w4 wr := HB5.out.trans ((show Below w5.heap.size w5 wr by rw [← HZK.out]; exact HG.out.bel).mono HB5.out.size)
              have hk32 := HG.out.key.2
              have hkS := (HG.out.wk.kin rfl).1
              have hhas : hasO (sel os2 (sk : Int)) k = true := by unfold hasO; rw [HO2.out.keys HSK.out]; simpa using hkS
              have HHAS : Hid (∀ w1, Below wr.heap.size wr w1 → Calls Try.prog 13 #[.pointer (some ⟨zp, 0, none⟩), .int .i64 (sk : Int), keyV k] w1 fun e w' => e = .returned (.bool true) ∧ Below w1.heap.size w1 w') := hide (fun w1 hb => by
                have := phas_any w1 zp os2 (sk : Int) k hk32 (HOS.out _ (hbw.trans (hb.mono hbw.size)))
                rw [hhas] at this
                exact this)
              clear hhas hkS
              have HK32 := hide hk32
              have HBW := hide hbw
              clear hk32 hbw
              go_upto_region 19 with fail
              have HKK : Hid (∀ w', Below wr.heap.size wr w' → KeyAt w' zk k ∧ True) := hide (fun w' hb => ⟨HG.out.key.below hb, trivial⟩)
              rcases Nat.eq_zero_or_pos mm with h0 | hpos
              · subst h0
                refine pa_walk _ (fun _ _ _ _ _ h => h) wr zp zk sk k am cap HKK.out HHAS.out _ (Nat.lt_of_sub_pos (by exact Nat.succ_pos _)) rfl rfl rfl rfl ?_
                intro w2 hb2
                have HG2 := hide (HG.out.below hb2)
                have HB2 := hide (HBW.out.trans (hb2.mono HBW.out.size))
                simp only [Act.put, List.setIfInBounds_toArray, List.set_cons_zero, List.set_cons_succ]
                have HL2 : Hid (M.length + 1 ≤ 4398046511104) := hide (by have := HMM.out; omega)
                have HZ2 : Hid (zk + 1 ≤ (w2.alloc (.cells (k.map u8c).toArray 30)).heap.size) := hide (by have := HG2.out.key.1.lt; simp; omega)
                have HOA : Hid (OwnQ (w2.alloc (.cells (k.map u8c).toArray 30)) (zk + 1) (.slice am 0 cap) M) := hide (HG2.out.own.below ((Below.refl _ _).alloc (Nat.le_refl _) _))
                have HBK : Hid (Blk (w2.alloc (.cells (k.map u8c).toArray 30)) w2.heap.size (k.map u8c).toArray 30) := hide (Blk.made w2 _ _)
                clear hb2
                go_upto_region 22 with (first | ((with_reducible refine wpList_key (.tmp 9) zk k HG2.out.key ?_ ?_ ?_ ?_); rfl; rfl; rfl) | ((with_reducible refine wpList_bsQ (.tmp 94) k HK32.out ?_ ?_ ?_ ?_); rfl; rfl; rfl) | ((with_reducible refine wpList_appendQ ?_ (.tmp 93) (.tmp 95) ?_ (zk + 1) (.slice am 0 cap) M ?_ HOA.out w2.heap.size ?_ k HK32.out HBK.out HL2.out HZ2.out ?_); rfl; rfl; rfl; rfl; intro v' w3 O3 G3))
                have hg3 : Below zk w5 w3 ∧ KeyAt w3 zk k ∧ Below w4.heap.size w4 w3 := by
                  have ha : Below w2.heap.size w2 (w2.alloc (.cells (k.map u8c).toArray 30)) := (Below.refl _ _).alloc (Nat.le_refl _) _
                  have hlt := HG2.out.key.1.lt
                  have hk1 := HG2.out.key.below ha
                  have hown := HOA.out.own
                  have hzs : zk + 1 ≤ (w2.alloc (.cells (k.map u8c).toArray 30)).heap.size := HZ2.out
                  have hb3 : Below (zk + 1) (w2.alloc (.cells (k.map u8c).toArray 30)) w3 := (Below.refl _ _).grown G3.out hzs (fun g hg => hown g hg)
                  have hz4 : w4.heap.size ≤ zk := by rw [HZK.out]; exact HB5.out.size
                  exact ⟨(HG2.out.bel.trans (ha.mono (Nat.le_of_lt hlt))).trans (hb3.mono (by omega)), ⟨hk1.1.below hb3 (by omega), hk1.2⟩, (HB2.out.trans (ha.mono HB2.out.size)).trans (hb3.mono (by omega))⟩
                obtain ⟨am', cap', rfl, _⟩ := O3.out.form
                have HK3 := hide hg3.2.1
                have HB3 := hide hg3.1
                have HX3 := pnext_any w3 zp os2 (sk : Int) k false HK32.out (HOS.out w3 hg3.2.2)
                rw [HO2.out.keys HSK.out] at HX3
                have HX := hide HX3
                have HKS : Hid ((k.map u8c).toArray.size = 32) := hide (by simp [HK32.out])
                obtain ⟨mm', hmm'⟩ : ∃ mm', mm' = (M ++ [k]).length := ⟨_, rfl⟩
                have HMM' := hide hmm'
                have HME : Hid (mm' = M.length + 1) := hide (by rw [hmm', List.length_append, List.length_singleton])
                rw [← hmm'] at O3 ⊢
                clear HX3 hg3 G3 HOA HBK HL2 HZ2 hmm' HHAS
                go_wp2_with (first | ((with_reducible refine wpList_key (.tmp 9) zk k HK3.out ?_ ?_ ?_ ?_); rfl; rfl; rfl) | (go_at_call 11; (with_reducible refine HX.out.mono ?_); rintro e w7 ⟨k2, ok2, rfl, hk2, hL2, hb7⟩; have HK2 := hide hk2; have HL7 := hide hL2; have HB7 := hide hb7; have HK7 := hide (HK3.out.below hb7).1; have HUS : Hid ((k2.map u8c).toArray.size = 32) := hide (by simp [hk2]); have HU1 := hide (all_oneCell_toArray (u8c_one k2)); clear hk2 hL2 hb7) | ((with_reducible refine wpList_store_blk ?_ 30 (.tmp 9) (.tmp 102) ?_ zk 32 (k.map u8c).toArray (k2.map u8c).toArray 30 HUS.out HKS.out ?_ ?_ HK7.out infoKey HU1.out ?_); rfl; rfl; rfl; rfl; intro w9 hk9 hg9; have HK9 := hide hk9; have HG9 := hide hg9; clear hk9 hg9))
                have hlt7 := HK7.out.lt
                refine ⟨⟨M ++ [k], k2, ok2, am', mm', cap', rfl, HMM'.out, rfl, ⟨(HB3.out.trans (HB7.out.mono (Nat.le_of_lt HK3.out.1.lt))).trans (below_grownBy HG9.out (Nat.le_refl _) (Nat.le_of_lt hlt7)), ⟨HK9.out, HK2.out⟩, (O3.out.below HB7.out).grown (by omega) HG9.out, HG2.out.wk.step H32.out HL7.out⟩⟩, ?_⟩
                have h1 := HG2.out.wk.less
                have h2 := HME.out
                have h3 := HMM.out
                show (F sk).length - mm' < (F sk).length - 0
                omega
              · obtain ⟨am0, cap0, hv, hg0⟩ := HG.out.own.form
                obtain ⟨rfl, hml, rfl⟩ := (Value.slice.injEq ..).mp hv
                obtain ⟨g, rfl⟩ := hg0 (by rw [← HMM.out]; exact hpos)
                have hi1 : mm - 1 < M.length := by rw [← HMM.out]; omega
                obtain ⟨last, hlast⟩ : ∃ last, last = M[mm - 1] := ⟨_, rfl⟩
                have hM32 : ∀ x ∈ M, x.length = 32 := fun x hx => H32.out x (HG.out.wk.sub x hx)
                have hl32 : last.length = 32 := by rw [hlast]; exact hM32 _ (List.getElem_mem _)
                have hcmp : cmpK last k < 0 := by rw [hlast]; exact (HG.out.wk.kin rfl).2 _ (List.getElem_mem _)
                have HRD : Hid (∀ w', Below wr.heap.size wr w' → KeyAt w' zk k ∧ w'.rangeAt g ((mm - 1) * 32) (last.map u8c)) := hide (fun w' hb => ⟨HG.out.key.below hb, by
                  rw [hlast]
                  exact (HG.out.own.below hb).read hM32 (mm - 1) hi1⟩)
                have HLS : Hid (Calls Try.prog 12 #[keyV last, keyV k] wr.drew fun e w' => e = .returned (.bool true) ∧ Below wr.drew.heap.size wr.drew w') := hide (by
                  have := less_any last k hl32 HK32.out wr.drew
                  rw [decide_eq_true hcmp] at this
                  exact this)
                have HL32 := hide hl32
                clear hv hml hg0 hi1 hlast hM32 hl32 hcmp
                refine pb_walk _ (fun _ _ _ _ _ h => h) wr zp zk sk k g mm cap last hpos (by omega) HL32.out HRD.out HLS.out HHAS.out _ (Nat.lt_of_sub_pos (by exact Nat.succ_pos _)) rfl rfl rfl rfl ?_
                obtain ⟨am, ham⟩ : ∃ am : Option Addr, am = some ⟨g, 0, none⟩ := ⟨_, rfl⟩
                rw [← ham] at HG ⊢
                clear ham HRD HLS HL32
                intro w2 hb2
                have HG2 := hide (HG.out.below hb2)
                have HB2 := hide (HBW.out.trans (hb2.mono HBW.out.size))
                simp only [Act.put, List.setIfInBounds_toArray, List.set_cons_zero, List.set_cons_succ]
                have HL2 : Hid (M.length + 1 ≤ 4398046511104) := hide (by have := HMM.out; omega)
                have HZ2 : Hid (zk + 1 ≤ (w2.alloc (.cells (k.map u8c).toArray 30)).heap.size) := hide (by have := HG2.out.key.1.lt; simp; omega)
                have HOA : Hid (OwnQ (w2.alloc (.cells (k.map u8c).toArray 30)) (zk + 1) (.slice am mm cap) M) := hide (HG2.out.own.below ((Below.refl _ _).alloc (Nat.le_refl _) _))
                have HBK : Hid (Blk (w2.alloc (.cells (k.map u8c).toArray 30)) w2.heap.size (k.map u8c).toArray 30) := hide (Blk.made w2 _ _)
                clear hb2
                go_upto_region 22 with (first | ((with_reducible refine wpList_key (.tmp 9) zk k HG2.out.key ?_ ?_ ?_ ?_); rfl; rfl; rfl) | ((with_reducible refine wpList_bsQ (.tmp 94) k HK32.out ?_ ?_ ?_ ?_); rfl; rfl; rfl) | ((with_reducible refine wpList_appendQ ?_ (.tmp 93) (.tmp 95) ?_ (zk + 1) (.slice am mm cap) M ?_ HOA.out w2.heap.size ?_ k HK32.out HBK.out HL2.out HZ2.out ?_); rfl; rfl; rfl; rfl; intro v' w3 O3 G3))
                have hg3 : Below zk w5 w3 ∧ KeyAt w3 zk k ∧ Below w4.heap.size w4 w3 := by
                  have ha : Below w2.heap.size w2 (w2.alloc (.cells (k.map u8c).toArray 30)) := (Below.refl _ _).alloc (Nat.le_refl _) _
                  have hlt := HG2.out.key.1.lt
                  have hk1 := HG2.out.key.below ha
                  have hown := HOA.out.own
                  have hzs : zk + 1 ≤ (w2.alloc (.cells (k.map u8c).toArray 30)).heap.size := HZ2.out
                  have hb3 : Below (zk + 1) (w2.alloc (.cells (k.map u8c).toArray 30)) w3 := (Below.refl _ _).grown G3.out hzs (fun g hg => hown g hg)
                  have hz4 : w4.heap.size ≤ zk := by rw [HZK.out]; exact HB5.out.size
                  exact ⟨(HG2.out.bel.trans (ha.mono (Nat.le_of_lt hlt))).trans (hb3.mono (by omega)), ⟨hk1.1.below hb3 (by omega), hk1.2⟩, (HB2.out.trans (ha.mono HB2.out.size)).trans (hb3.mono (by omega))⟩
                obtain ⟨am', cap', rfl, _⟩ := O3.out.form
                have HK3 := hide hg3.2.1
                have HB3 := hide hg3.1
                have HX3 := pnext_any w3 zp os2 (sk : Int) k false HK32.out (HOS.out w3 hg3.2.2)
                rw [HO2.out.keys HSK.out] at HX3
                have HX := hide HX3
                have HKS : Hid ((k.map u8c).toArray.size = 32) := hide (by simp [HK32.out])
                obtain ⟨mm', hmm'⟩ : ∃ mm', mm' = (M ++ [k]).length := ⟨_, rfl⟩
                have HMM' := hide hmm'
                have HME : Hid (mm' = M.length + 1) := hide (by rw [hmm', List.length_append, List.length_singleton])
                rw [← hmm'] at O3 ⊢
                clear HX3 hg3 G3 HOA HBK HL2 HZ2 hmm' HHAS
                go_wp2_with (first | ((with_reducible refine wpList_key (.tmp 9) zk k HK3.out ?_ ?_ ?_ ?_); rfl; rfl; rfl) | (go_at_call 11; (with_reducible refine HX.out.mono ?_); rintro e w7 ⟨k2, ok2, rfl, hk2, hL2, hb7⟩; have HK2 := hide hk2; have HL7 := hide hL2; have HB7 := hide hb7; have HK7 := hide (HK3.out.below hb7).1; have HUS : Hid ((k2.map u8c).toArray.size = 32) := hide (by simp [hk2]); have HU1 := hide (all_oneCell_toArray (u8c_one k2)); clear hk2 hL2 hb7) | ((with_reducible refine wpList_store_blk ?_ 30 (.tmp 9) (.tmp 102) ?_ zk 32 (k.map u8c).toArray (k2.map u8c).toArray 30 HUS.out HKS.out ?_ ?_ HK7.out infoKey HU1.out ?_); rfl; rfl; rfl; rfl; intro w9 hk9 hg9; have HK9 := hide hk9; have HG9 := hide hg9; clear hk9 hg9))
                have hlt7 := HK7.out.lt
                refine ⟨⟨M ++ [k], k2, ok2, am', mm', cap', rfl, HMM'.out, rfl, ⟨(HB3.out.trans (HB7.out.mono (Nat.le_of_lt HK3.out.1.lt))).trans (below_grownBy HG9.out (Nat.le_refl _) (Nat.le_of_lt hlt7)), ⟨HK9.out, HK2.out⟩, (O3.out.below HB7.out).grown (by omega) HG9.out, HG2.out.wk.step H32.out HL7.out⟩⟩, ?_⟩
                have h1 := HG2.out.wk.less
                have h2 := HME.out
                have h3 := HMM.out
                show (F sk).length - mm' < (F sk).length - mm
                omega
end Go.Proofs.Ytagnglkkmdeicaa
