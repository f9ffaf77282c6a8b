/- Open of a filter, walked. -/
import Derived.Test.YtbemmhngadpjcaaFI5
namespace Go.Proofs.Ytbemmhngadpjcaa
set_option linter.unusedVariables false
set_option linter.unusedSimpArgs false
open Go.RowKit

set_option maxRecDepth 20000 in
set_option maxHeartbeats 8000000 in
theorem fopen_any (w : World) (v : Value) (xs : List UInt8) (hv : RdA w v xs) (hlen : xs.length ≤ 140737488355000) : Calls Try.prog 17 #[v] w (OpenFC w xs) := by
  have CO := hide (open_arg w v xs hv hlen)
  obtain ⟨ao, c0, hvs, -⟩ := hv.slice
  subst hvs
  clear hv
  go_enter Try.func17, Try.ntmps17
  go_wp2_with fail
  refine CO.out.mono ?_
  rintro e w1 ⟨rfl, hd1, hb1, hs1⟩
  obtain ⟨zd, hzd⟩ : ∃ zd, zd = w.heap.size + 1 := ⟨_, rfl⟩
  obtain ⟨bd, hbd⟩ : ∃ bd, bd = w.heap.size := ⟨_, rfl⟩
  have hbz : bd < zd := by omega
  have hBd : w.heap.size ≤ bd := by omega
  rw [← hzd] at hd1 ⊢
  rw [← hbd] at hd1
  have hs1' : zd < w1.heap.size := by omega
  have HB1 := hide hb1
  clear hb1 hs1 hzd CO hbd
  obtain ⟨r1, hr1⟩ : ∃ r1, r1 = mNext xs s0 (mPlace s0) 1 := ⟨_, rfl⟩
  obtain ⟨r2, hr2⟩ : ∃ r2, r2 = mNext xs r1.2 (mPlace r1.2) 2 := ⟨_, rfl⟩
  obtain ⟨K1, K2, ka, kc, kl⟩ := heads xs r1 r2 hr1 hr2
  have HT1 := hide (take_uint8 w1 zd _ xs s0 hd1)
  rw [← hr1] at HT1
  obtain ⟨a, ha⟩ : ∃ a, a = leNat (r1.1.getD []) := ⟨_, rfl⟩
  obtain ⟨c, hc⟩ : ∃ c, c = leNat (r2.1.getD []) := ⟨_, rfl⟩
  obtain ⟨l, hl⟩ : ∃ l, l = mLeft xs r2.2 := ⟨_, rfl⟩
  rw [← ha, ← hc, ← hl] at K1
  rw [← ha, ← hc] at K2
  rw [← ha] at ka
  rw [← hc] at kc
  rw [← hl] at kl
  have HK1 := hide K1
  have HK2 := hide K2
  have HA := hide ha
  have HC := hide hc
  have HLl := hide hl
  have HR2 := hide hr2
  clear hd1 hr1 hr2 K1 K2 ha hc hl
  go_wp2_with fail
  refine HT1.out.mono ?_
  rintro e w2 ⟨rfl, hd2, hg2⟩
  have hw8 : IntKind.u8.wrap (leNat (r1.1.getD []) : Nat) = (a : Int) := by
    rw [← HA.out]
    simp [IntKind.wrap, IntKind.bits, IntKind.signed]
    omega
  rw [hw8]
  have HT2 := hide (take_uint16 w2 zd _ xs r1.2 hd2)
  rw [← HR2.out] at HT2
  have HB2 := hide (HB1.out.trans (below_grownBy (B := w.heap.size) hg2 (by omega) HB1.out.size))
  have hs2 : zd < w2.heap.size := by have := hg2.size; omega
  clear hd2 hg2 HT1 HB1 hw8
  go_wp2_with fail
  refine HT2.out.mono ?_
  rintro e w3 ⟨rfl, hd3, hg3⟩
  have hw16 : IntKind.u16.wrap (leNat (r2.1.getD []) : Nat) = (c : Int) := by
    rw [← HC.out]
    simp [IntKind.wrap, IntKind.bits, IntKind.signed]
    omega
  rw [hw16]
  have HL := hide (left_st w3 zd _ xs r2.2 hd3)
  rw [← HLl.out] at HL
  have HB3 := hide (HB2.out.trans (below_grownBy (B := w.heap.size) hg3 (by omega) HB2.out.size))
  have hs3 : zd < w3.heap.size := by have := hg3.size; omega
  have HD3 := hide hd3
  clear hd3 hg3 HT2 HB2 hw16
  go_wp2_with fail
  refine HL.out.mono ?_
  rintro e w4 ⟨rfl, md, rfl⟩
  have HD4 := hide (HD3.out.drewN md)
  have HB4 : Hid (Below w.heap.size w (w3.drewN md)) := hide ⟨HB3.out.os, HB3.out.tape, HB3.out.output, HB3.out.size, HB3.out.block⟩
  obtain ⟨W4, hW4⟩ : ∃ W4, W4 = w3.drewN md := ⟨_, rfl⟩
  rw [← hW4] at HD4 HB4 ⊢
  have hs4 : zd < W4.heap.size := by rw [hW4]; exact hs3
  clear hW4 HL HD3 HB3
  by_cases hlc : l = 8 * c
  · have hlci : ((l : Int) == 8 * (c : Int)) = true := by rw [beq_iff_eq]; omega
    have HLC := hide hlc
    by_cases hok : NewOk (64 * (c : Int)) a
    · have hOk := HK1.out.1 ⟨hlc, hok⟩
      obtain ⟨hr22, hah, hcc⟩ := HK2.out hOk
      rw [hr22] at HD4
      have HOk := hide hOk
      have HAh := hide hah
      have HCc := hide hcc
      obtain ⟨-, hxl, hc1, hc2, ha1, ha2⟩ := hOk
      rw [← hcc] at hxl hc1 hc2
      rw [← hah] at ha1 ha2
      have CN := hide (new_in W4 (64 * c) c a rfl ⟨hc1, hc2⟩ ⟨ha1, ha2⟩)
      have hci : 64 * (c : Int) = ((64 * c : Nat) : Int) := by omega
      rw [show ((64 * c : Nat) : Int) = 64 * (c : Int) by omega] at CN
      have HXl := hide hxl
      clear hah hcc hok hr22 hci HK1 HK2 hxl hlc
      go_wp2_with fail
      refine CN.out.mono ?_
      rintro e w5 ⟨rfl, hf5, hb5, hs5⟩
      obtain ⟨z, hz⟩ : ∃ z, z = W4.heap.size + 1 := ⟨_, rfl⟩
      obtain ⟨g, hg⟩ : ∃ g, g = W4.heap.size := ⟨_, rfl⟩
      rw [← hz, ← hg] at hf5
      rw [← hz]
      have hzl : zd < g := by omega
      have hzl2 : zd < z := by omega
      have HD5 := hide (HD4.out.below hb5)
      have HB5 := hide (HB4.out.trans (hb5.mono HB4.out.size))
      have HF5 := hide hf5
      clear hf5 hb5 hs5 hz hg CN HD4 HB4
      go_wp2
      go_loopw [33] (fun s33 wr => ∃ k : Nat, s33 = .int .i64 k ∧ k ≤ c ∧ FilAt wr z g a (wsK xs c k) ∧ DecSt wr zd (.slice (some ⟨bd, 0, none⟩) xs.length xs.length) xs ⟨3 + 8 * k, 0, 0⟩ ∧ Below w.heap.size w wr) (fun s33 _ => c - (intOf s33).toNat)
      case atStart =>
        refine ⟨0, rfl, by omega, ?_, HD5.out, HB5.out⟩
        rw [wsK_zero]
        exact HF5.out
      case round =>
        obtain ⟨k, rfl, hk, hF, hD, hB⟩ := hrel
        have HF := hide hF
        have HD := hide hD
        have HB := hide hB
        clear hF hD hB
        by_cases hlt : k < c
        · have hki : (k : Int) < c := by omega
          have cz : wr.cell? ⟨z, 1, none⟩ = some (.slice (some ⟨g, 0, none⟩) c c) := by
            have := HF.out.zb.cell 1
            rw [wsK_len xs c k hk] at this
            exact this
          have hnx : mNext xs ⟨3 + 8 * k, 0, 0⟩ (mPlace ⟨3 + 8 * k, 0, 0⟩) 8 = (some ((xs.drop (3 + 8 * k)).take 8), ⟨3 + 8 * (k + 1), 0, 0⟩) := by
            unfold mNext
            rw [if_neg (by simp), if_neg (show ¬ xs.length < 3 + 8 * k + 8 by have := HXl.out; omega)]
            rfl
          obtain ⟨x, hx⟩ : ∃ x, x = leNat ((xs.drop (3 + 8 * k)).take 8) := ⟨_, rfl⟩
          have hxb : x < 18446744073709551616 := by rw [hx]; exact leNat_lt _ 8 (by simp; omega)
          have HT : Hid (∀ W, DecSt W zd (.slice (some ⟨bd, 0, none⟩) xs.length xs.length) xs ⟨3 + 8 * k, 0, 0⟩ → Calls Try.prog 47 #[.pointer (some ⟨zd, 0, none⟩)] W fun e w' => e = .returned (.int .u64 (x : Int)) ∧ DecSt w' zd (.slice (some ⟨bd, 0, none⟩) xs.length xs.length) xs ⟨3 + 8 * (k + 1), 0, 0⟩ ∧ W.grownBy w' (some zd)) := hide (fun W hW => by
            refine (take_uint64 W zd _ xs _ hW).mono ?_
            rintro e w' ⟨he, hd, hgr⟩
            rw [hnx] at he hd
            refine ⟨?_, hd, hgr⟩
            rw [he]
            simp only [Option.getD_some]
            rw [← hx, wrapu64_nat x hxb])
          have HX := hide hx
          clear hx hnx
          have hzz : some z ≠ some zd := fun e => by have := Option.some.inj e; omega
          have hgz : some g ≠ some zd := fun e => by have := Option.some.inj e; omega
          have HZ6 : Hid (∀ w6, wr.grownBy w6 (some zd) → w6.cell? ⟨z, 1, none⟩ = some (.slice (some ⟨g, 0, none⟩) c c) ∧ w6.cell? ⟨g, k, none⟩ = some (.int .u64 0) ∧ w6.frozen? ⟨g, k, none⟩ = false) := hide (fun w6 h6 => by
            have hf := HF.out.grown h6 hzz hgz
            refine ⟨?_, ?_, hf.gb.frozen k⟩
            · have := hf.zb.cell 1
              rw [wsK_len xs c k hk] at this
              exact this
            · rw [hf.gb.cell]
              have := wsK_at xs c k hlt
              simp [this, u64c])
          clear hzz hgz
          go_wp2
          go_region_with (go_at_call 47; refine (HT.out _ (by exact HD.out)).mono ?_; rintro e w6 ⟨rfl, hd6, hg6⟩; have hg7 : wr.grownBy w6 (some zd) := ⟨hg6.os, hg6.tape, hg6.output, hg6.size, hg6.block⟩; obtain ⟨cz6, cg6, fg6⟩ := HZ6.out _ hg7; clear hg6)
          all_goals
            have HF7 := hide ((HF.out.grown hg7 (fun e => by have := Option.some.inj e; omega) (fun e => by have := Option.some.inj e; omega)).setW k x hxb)
            have HD7 := hide (hd6.setOther g k (.int .u64 (x : Int)) (by omega) (by omega))
            have HB7 := hide ((HB.out.trans (below_grownBy (B := w.heap.size) hg7 (by omega) HB.out.size)).setCell (p := ⟨g, k, none⟩) (by show w.heap.size ≤ g; omega) (.int .u64 (x : Int)))
            have HSk : Hid ((wsK xs c k).set k x = wsK xs c (k + 1)) := hide (by rw [HX.out]; exact wsK_set xs c k hlt)
            rw [HSk.out] at HF7
            clear hd6 hg7 cz6 cg6 fg6
            go_wp2
            exact ⟨⟨k + 1, by go_num, by omega, HF7.out, HD7.out, HB7.out⟩, by simp [intOf]; omega⟩
        · have hki : ¬ (k : Int) < c := by omega
          have hkc : k = c := by omega
          have HFe := hide HF.out
          rw [hkc, wsK_all, HAh.out, HCc.out] at HFe
          clear hkc
          go_wp2
          go_ret2
          exact .inr ⟨HOk.out, z, g, rfl, HFe.out, by omega, by omega, HB.out⟩
    · have hno : ¬ OkB xs := fun h => hok (HK1.out.2 h).2
      have HNo := hide hno
      have CN := hide (new_out W4 (64 * (c : Int)) a hok)
      clear hok hno HK1 HK2 hlc
      go_wp2_with fail
      refine CN.out.mono ?_
      rintro e w5 ⟨rfl, hb5⟩
      go_wp2
      go_ret2
      exact .inl ⟨HNo.out, rfl, HB4.out.trans (hb5.mono HB4.out.size)⟩
  · have hlci : ((l : Int) == 8 * (c : Int)) = false := by rw [beq_eq_false_iff_ne]; omega
    have hlcn : ¬ (l : Int) = 8 * (c : Int) := by omega
    have hno : ¬ OkB xs := fun h => hlc (HK1.out.2 h).1
    have HNo := hide hno
    clear hno HK1 HK2 hlc
    go_wp2
    go_ret2
    exact .inl ⟨HNo.out, rfl, HB4.out⟩
end Go.Proofs.Ytbemmhngadpjcaa
