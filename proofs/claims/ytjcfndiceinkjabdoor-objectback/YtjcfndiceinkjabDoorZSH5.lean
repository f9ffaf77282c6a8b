/- Write: a Hasher takes bytes. -/
import Derived.Test.YtjcfndiceinkjabDoorZhm
namespace Go.Proofs.YtjcfndiceinkjabDoor
set_option linter.unusedVariables false
set_option linter.unusedSimpArgs false
set_option maxRecDepth 100000
open Go.RowKit

/-- Nothing waits. -/
def zs64 : List UInt8 := List.replicate 64 0
theorem wpList_load_64 {ops : Array Oper} {rest : List Oper} {op : Oper} {a : Act} {w : World} {Q : Exit → Act → World → Prop} (hgd : op.guard = none) (x : Operand) (ho : op.op = .load 105 x)
    (b o : Nat) (hx : a.eval x = .pointer (some ⟨b, o, none⟩)) (cs : List Value) (hc : w.rangeAt b o cs) (hn : cs.length = 64)
    (h : wpList Tryd.prog ops Q rest (a.put op.dst (.agg cs.toArray)) w) : wpList Tryd.prog ops Q (op :: rest) a w :=
  wpList_load_mid hgd 105 x ho b o hx cs _ hc Tryd.underlying105 rfl (by rw [hn]; exact infoB64) h
theorem wpList_copy_hr {ops : Array Oper} {rest : List Oper} {o : Oper} {a : Act} {w : World} {Q : Exit → Act → World → Prop} (hgd : o.guard = none) (d s : Operand)
    (ho : o.op = .call { callee := .builtin .copy, args := #[d, s], argTypes := #[23, 23] })
    (z : Nat) (t : TypeId) (pre post sc : List Value) (g : Bool) (W : List UInt8) (n : Nat) (hH : HB w z t pre post sc g W n) (A seg B ck : List UInt8) (hW : W = A ++ (seg ++ B)) (hl : ck.length = seg.length) (r m : Nat) (hr : A.length = r) (hm : ck.length = m)
    (dl dc sb so sl sca : Nat) (hd : a.eval d = .slice (some ⟨z, pre.length + 9 + r, none⟩) dl dc) (hs : a.eval s = .slice (some ⟨sb, so, none⟩) sl sca) (hn : ck.length = Nat.min sl dl)
    (hsrc : ∀ i (h : i < ck.length), w.cell? ⟨sb, so + i, none⟩ = some (u8c ck[i]))
    (h : ∀ w', Hid (HB w' z t pre post sc g (A ++ (ck ++ B)) n) → Hid (w.grownBy w' (some z)) → wpList Tryd.prog ops Q rest (a.put o.dst (.int .i64 (m : Int))) w') : wpList Tryd.prog ops Q (o :: rest) a w := by
  subst hr hm
  exact wpList_copy_hw hgd d s ho z t pre post sc g W n hH A seg B ck hW hl dl dc sb so sl sca hd hs hn hsrc h
theorem slice64_allo (z o : Nat) (W : World) : (Instr.sliceAt 105 (.pointer (some ⟨z, o, none⟩)) none none none).run Tryd.prog W = .ok (.slice (some ⟨z, o, none⟩) 64 64) W := by kernel_rfl
def WriteC (w : World) (z : Nat) (t : TypeId) (pre post : List Value) (bs : List UInt8) (e : Ending) (w' : World) : Prop :=
  e = .returned (.tuple #[]) ∧ HOf w' z t pre post bs ∧ w.grownBy w' (some z)
set_option maxRecDepth 40000 in
set_option maxHeartbeats 4000000 in
theorem write_some (w : World) (hT : Tabs w) (z : Nat) (hz : 5 ≤ z) (t : TypeId) (pre post : List Value) (bs xs : List UInt8) (hH : HOf w z t pre post bs) (b o c : Nat) (hbz : b ≠ z) (hx0 : 0 < xs.length) (hxc : xs.length ≤ c) (hcm : c ≤ maxLen) (hlen : bs.length + xs.length ≤ 4611686018427387904)
    (hsrc : ∀ i (h : i < xs.length), w.cell? ⟨b, o + i, none⟩ = some (u8c xs[i])) :
    Calls Tryd.prog 65 #[.pointer (some ⟨z, pre.length, none⟩), .slice (some ⟨b, o, none⟩) xs.length c] w (WriteC w z t pre post (bs ++ xs)) := by
  obtain ⟨s, hB, hs⟩ := hH
  obtain ⟨n, hn⟩ : ∃ n, n = bs.length := ⟨_, rfl⟩
  obtain ⟨L, hL⟩ : ∃ L, L = xs.length := ⟨_, rfl⟩
  obtain ⟨r, hr⟩ : ∃ r, r = n % 64 := ⟨_, rfl⟩
  obtain ⟨N, hN⟩ : ∃ N, N = n + L := ⟨_, rfl⟩
  have hLS := LS.start hs
  obtain ⟨g, hg⟩ : ∃ g, g = decide (64 ≤ bs.length) := ⟨_, rfl⟩
  obtain ⟨wt, hwt⟩ : ∃ wt, wt = wait bs := ⟨_, rfl⟩
  rw [← hg] at hB hLS
  rw [← hwt, ← hn] at hB
  rw [← hn, ← hL] at hlen
  have c73 := hB.c73
  have f73 := hB.frozen (pre.length + 73)
  have e1 : (n : Int) % 64 = r := by omega
  have e2 : IntKind.i64.wrap (r : Int) = r := wrapi64_nat r (by omega)
  have e3 : (n : Int) + L = (N : Int) := by omega
  have e4 : IntKind.u64.wrap (N : Int) = (N : Int) := wrap64_nat N (by omega)
  have hr64 : r < 64 := by omega
  have HH1 := hide (hB.setN N)
  have HT := hide hT
  have HLS := hide hLS
  have HN := hide hn
  have HL' := hide hL
  have HR := hide hr
  have HNN := hide hN
  have HWT := hide hwt
  have HSRC := hide hsrc
  have hL63 : L ≤ 9223372036854775807 := by omega
  have hg1 : w.grownBy (w.setCell ⟨z, pre.length + 73, none⟩ (.int .u64 N)) (some z) := grownBy_set w z _ _
  have HG1 := hide hg1
  rw [← hL] at hx0 hxc ⊢
  clear hB hT hLS hs hn hL hr hN hwt hsrc hg1 hg
  by_cases hr0 : r = 0
  · have hr1 : ¬ (0 : Int) < r := by omega
    have HR0 := hide hr0
    clear hr0
    go_enter Tryd.func65, Tryd.ntmps65
    go_wp2
    go_loopw [1] (fun v wr => ∃ (va : Value) (ds ys : List UInt8) (s : S8) (g : Bool) (o' c' : Nat), va = v ∧ v = .slice (some ⟨b, o', none⟩) ys.length c' ∧ ys.length ≤ c' ∧ c' ≤ maxLen ∧ bs ++ xs = ds ++ ys ∧ LS s g ds ∧ HB wr z t pre post (st8 s) g (zs64) N ∧ w.grownBy wr (some z) ∧ (∀ i (h : i < ys.length), w.cell? ⟨b, o' + i, none⟩ = some (u8c ys[i]))) (fun v _ => slen v)
    case atStart =>
      have hq : bs.take (64 * (bs.length / 64)) = bs := List.take_of_length_le (by have := HR.out; rw [HN.out, HR0.out] at this; omega)
      have hw0 : wt = zs64 := by
        rw [HWT.out, wait, List.drop_of_length_le (by have := HR.out; rw [HN.out, HR0.out] at this; omega), List.nil_append]
        have := HR.out
        rw [HN.out, HR0.out] at this
        rw [← this]
        rfl
      refine ⟨_, bs, xs, s, g, o, c, rfl, by rw [← HL'.out], by rw [← HL'.out]; exact hxc, hcm, rfl, ?_, ?_, HG1.out, HSRC.out⟩
      · have h := HLS.out; rwa [hq] at h
      · have h := HH1.out; rwa [hw0] at h
    case round =>
      clear HLS HH1 HG1
      obtain ⟨va, ds, ys, s, g, o', c', rfl, rfl, hyc, hcm, hsplit, hLS, hH, hg, hcell⟩ := hrel
      have hcr : ∀ i (h : i < ys.length), wr.cell? ⟨b, o' + i, none⟩ = some (u8c ys[i]) := fun i hi => by
        rw [← hcell i hi]
        unfold World.cell?
        simp only
        rw [hg.block b (World.block_lt_of_cell? w _ (hcell i hi)) (fun e => hbz (Option.some.inj e))]
      obtain ⟨m, hm⟩ : ∃ m, m = ys.length := ⟨_, rfl⟩
      unfold maxLen at hcm
      have hm63 : m ≤ 9223372036854775807 := by omega
      have HT' := hide (HT.out.grown hg (fun b e => by rw [← Option.some.inj e]; exact hz))
      have HH := hide hH
      have HG := hide hg
      have HLS := hide hLS
      have HSP := hide hsplit
      have HCE := hide hcell
      rw [← hm] at hyc ⊢
      by_cases hlt : 64 ≤ m
      · have hr64 : wr.rangeAt b o' ((ys.take 64).map u8c) := by
          refine rangeRd fun i hi => ?_
          rw [List.length_take] at hi
          rw [hcr i (by omega), List.getElem_take]
        have hb64 : (ys.take 64).length = 64 := by rw [List.length_take]; omega
        obtain ⟨yc, hyc2⟩ : ∃ yc, yc = (ys.take 64).map u8c := ⟨_, rfl⟩
        rw [← hyc2] at hr64
        have HR := hide hr64
        have HL := hide (show yc.length = 64 by rw [hyc2, List.length_map]; exact hb64)
        have HYC := hide hyc2
        have har := run_arrayAt (P := Tryd.prog) wr 105 5 64 (some ⟨b, o', none⟩) m c' Tryd.underlying105 hlt
        obtain ⟨o2, ho2, hcut⟩ := sliceCutH b o' m c' 64 hlt (by omega) 64 rfl
        have HTK := hide (fun w0 => take_any w0)
        have HO2 := hide ho2
        have HM := hide hm
        clear hr64 hH hg hLS hsplit hcell hcr ho2 hm hyc2
        go_wp2_with ((with_reducible refine wpList_load_64 ?_ (.tmp 55) ?_ b o' ?_ yc HR.out HL.out ?_); rfl; rfl; rfl)
        rw [HYC.out]
        refine (HTK.out wr HT'.out z t pre post s g (zs64) (ys.take 64) N hz HH.out (fun hg => HLS.out.ok hg) hb64).mono ?_
        rintro e w2 ⟨rfl, hH2, hg2⟩
        have HH2 := hide hH2
        have HG2 := hide (grownBy_trans HG.out hg2)
        clear hH2 hg2 HTK
        go_wp2
        refine ⟨⟨_, ds ++ ys.take 64, ys.drop 64, _, true, o2, c' - 64, rfl, ?_, ?_, by unfold maxLen; omega, ?_, HLS.out.step hb64, HH2.out, HG2.out, fun i hi => ?_⟩, ?_⟩
        · rw [List.length_drop, ← HM.out]
        · rw [List.length_drop, ← HM.out]; omega
        · rw [HSP.out, List.append_assoc, List.take_append_drop]
        · rw [List.length_drop, ← HM.out] at hi
          rw [HO2.out (by omega), Nat.add_assoc, HCE.out (64 + i) (by rw [← HM.out]; omega), List.getElem_drop]
        · simp [slen]; omega
      · have hsa := slice64_allo z (pre.length + 9)
        have HCR := hide hcr
        have HM := hide hm
        have HZ : Hid (zs64 = [] ++ (List.replicate ys.length 0 ++ List.replicate (64 - ys.length) 0)) := by
          unfold Hid zs64
          rw [List.nil_append, List.replicate_append_replicate, show ys.length + (64 - ys.length) = 64 by rw [← HM.out]; omega]
        have HMN : Hid (ys.length = Nat.min m 64) := by
          unfold Hid
          rw [← HM.out]; exact (Nat.min_eq_left (by omega)).symm
        have HLR : Hid (ys.length = (List.replicate ys.length (0 : UInt8)).length) := hide (by rw [List.length_replicate])
        clear hH hg hLS hsplit hcell hcr hm
        go_wp2_with ((with_reducible refine wpList_copy_hw ?_ (.tmp 63) (.tmp 64) ?_ z t pre post (st8 s) g zs64 N HH.out [] (List.replicate ys.length 0) (List.replicate (64 - ys.length) 0) ys HZ.out HLR.out 64 64 b o' m c' ?_ ?_ HMN.out HCR.out ?_); rfl; rfl; rfl; rfl; intro w2 HH2 HG2)
        go_returns
        refine ⟨rfl, ?_, grownBy_trans HG.out HG2.out⟩
        rw [HSP.out]
        exact HLS.out.fin (by rw [← HM.out]; omega) N (by rw [← HSP.out, List.length_append, HNN.out, HN.out, HL'.out]) HH2.out
  · have hr1 : (0 : Int) < r := by omega
    have hsl := slice64 z (pre.length + 9) r hr64 (r : Int) rfl
    obtain ⟨A, hA⟩ : ∃ A, A = bs.drop (64 * (bs.length / 64)) := ⟨_, rfl⟩
    have hAl : A.length = r := by have := HR.out; rw [HN.out] at this; rw [hA, List.length_drop]; omega
    have hsb : bs = bs.take (64 * (bs.length / 64)) ++ A := by rw [hA]; exact split_bs bs
    have hdl : (bs.take (64 * (bs.length / 64))).length % 64 = 0 := by rw [List.length_take]; omega
    have hwA : wt = A ++ List.replicate (64 - r) 0 := by
      rw [HWT.out, wait, ← hA, show bs.length % 64 = r by have := HR.out; rw [HN.out] at this; exact this.symm]
    have hsrc1 : ∀ i (h : i < xs.length), (w.setCell ⟨z, pre.length + 73, none⟩ (.int .u64 N)).cell? ⟨b, o + i, none⟩ = some (u8c xs[i]) := fun i hi => by
      rw [World.cell?_setCell_other _ _ _ _ (by intro e; injection e with e1; exact hbz e1.symm)]
      exact HSRC.out i hi
    have HA := hide hA
    have HAL := hide hAl
    have HSB := hide hsb
    have HWA := hide hwA
    have HS1 := hide hsrc1
    clear hA hAl hsb hwA hsrc1
    by_cases hsm : L < 64 - r
    · have HW : Hid (wt = A ++ (List.replicate L 0 ++ List.replicate (64 - r - L) 0)) := by
        unfold Hid
        rw [HWA.out, List.replicate_append_replicate, show L + (64 - r - L) = 64 - r by omega]
      have HLR : Hid (xs.length = (List.replicate L (0 : UInt8)).length) := hide (by rw [List.length_replicate, HL'.out])
      have HMN : Hid (xs.length = Nat.min L (64 - r)) := hide (by rw [← HL'.out]; exact (Nat.min_eq_left (by omega)).symm)
      have hlt : (r : Int) + L < 64 := by omega
      have HXL : Hid (xs.length = L) := hide HL'.out.symm
      go_enter Tryd.func65, Tryd.ntmps65
      go_wp2_with ((with_reducible refine wpList_copy_hr ?_ (.tmp 30) (.tmp 31) ?_ z t pre post (st8 s) g wt N HH1.out A (List.replicate L 0) (List.replicate (64 - r - L) 0) xs HW.out HLR.out r L HAL.out HXL.out (64 - r) (64 - r) b o L c ?_ ?_ HMN.out HS1.out ?_); rfl; rfl; rfl; rfl; intro w2 HH2 HG2)
      go_returns
      refine ⟨rfl, ?_, grownBy_trans HG1.out HG2.out⟩
      have e : bs ++ xs = bs.take (64 * (bs.length / 64)) ++ (A ++ xs) := by
        have h := HSB.out
        rw [← List.append_assoc, ← h]
      rw [e]
      refine HLS.out.fin (by rw [List.length_append, HAL.out, HXL.out]; omega) N (by rw [← e, List.length_append, HNN.out, HN.out, HL'.out]) ?_
      have h := HH2.out
      rw [List.length_append, HAL.out, HXL.out, List.append_assoc, show 64 - (r + L) = 64 - r - L by omega]
      exact h
    · obtain ⟨m, hm⟩ : ∃ m, m = 64 - r := ⟨_, rfl⟩
      have hmL : m ≤ L := by omega
      have hck : (xs.take m).length = m := by rw [List.length_take, ← HL'.out]; omega
      have HW : Hid (wt = A ++ (List.replicate m 0 ++ [])) := by
        unfold Hid
        rw [HWA.out, List.append_nil, hm]
      have HLR : Hid ((xs.take m).length = (List.replicate m (0 : UInt8)).length) := hide (by rw [List.length_replicate, hck])
      have HMN : Hid ((xs.take m).length = Nat.min L (64 - r)) := hide (by rw [hck, hm]; exact (Nat.min_eq_right (by omega)).symm)
      have HCK := hide hck
      have HS2 : Hid (∀ i (h : i < (xs.take m).length), (w.setCell ⟨z, pre.length + 73, none⟩ (.int .u64 N)).cell? ⟨b, o + i, none⟩ = some (u8c (xs.take m)[i])) := by
        intro i hi
        rw [hck] at hi
        rw [HS1.out i (by rw [← HL'.out]; omega), List.getElem_take]
      have hlt : ¬ (r : Int) + m < 64 := by omega
      obtain ⟨o2, ho2, hcut⟩ := sliceCutH b o L c m hmL hxc (m : Int) rfl
      have HO2 := hide ho2
      have hsa := slice64_allo z (pre.length + 9)
      have HMM := hide hm
      have HB64 : Hid ((A ++ (xs.take m ++ [])).length = 64) := hide (by rw [List.append_nil, List.length_append, HAL.out, hck]; omega)
      rw [show (64 : Nat) - r = m from hm.symm] at hsl
      rw [show (64 : Nat) - r = m from hm.symm] at HMN
      obtain ⟨bb, hbb⟩ : ∃ bb, bb = A ++ (xs.take m ++ []) := ⟨_, rfl⟩
      have HBB := hide hbb
      have HTK := hide (fun w0 => take_any w0)
      clear hck ho2 hm hbb
      go_enter Tryd.func65, Tryd.ntmps65
      go_wp2_with (first | ((with_reducible refine wpList_copy_hr ?_ (.tmp 30) (.tmp 31) ?_ z t pre post (st8 s) g wt N HH1.out A (List.replicate m 0) [] (xs.take m) HW.out HLR.out r m HAL.out HCK.out m m b o L c ?_ ?_ HMN.out HS2.out ?_); rfl; rfl; rfl; rfl; intro w2 HH2 HG2) | ((with_reducible refine wpList_load_64 ?_ (.tmp 43) ?_ z (pre.length + 9) ?_ _ HH2.out.rw ?_ ?_); rfl; rfl; rfl; (rw [List.length_map]; exact HB64.out)))
      rw [show List.map u8c A ++ List.take m (List.map u8c xs) = (A ++ (xs.take m ++ [])).map u8c by simp [List.map_take]]
      have hg2 := grownBy_trans HG1.out HG2.out
      refine (HTK.out w2 (HT.out.grown hg2 (fun b e => by rw [← Option.some.inj e]; exact hz)) z t pre post s g (A ++ (xs.take m ++ [])) (A ++ (xs.take m ++ [])) N hz HH2.out (fun hg => HLS.out.ok hg) HB64.out).mono ?_
      rintro e w3 ⟨rfl, hH3, hg3⟩
      have HH3 := hide hH3
      have HG3 := hide (grownBy_trans hg2 hg3)
      have HLS3 := hide (HLS.out.step HB64.out)
      clear hH3 hg3 hg2 HTK HH2 HG2 HS2 HMN HLR HW hsl
      go_wp2_with ((with_reducible refine wpList_clear_hw ?_ (.tmp 49) ?_ z t pre post _ true _ N HH3.out ?_ ?_); rfl; rfl; rfl; intro w4 HH4 HG4)
      have HG4' := hide (grownBy_trans HG3.out HG4.out)
      simp only [Act.put, List.setIfInBounds_toArray, List.set_cons_zero, List.set_cons_succ]
      go_loopw [1] (fun v wr => ∃ (va : Value) (ds ys : List UInt8) (s : S8) (g : Bool) (o' c' : Nat), va = v ∧ v = .slice (some ⟨b, o', none⟩) ys.length c' ∧ ys.length ≤ c' ∧ c' ≤ maxLen ∧ bs ++ xs = ds ++ ys ∧ LS s g ds ∧ HB wr z t pre post (st8 s) g (zs64) N ∧ w.grownBy wr (some z) ∧ (∀ i (h : i < ys.length), w.cell? ⟨b, o' + i, none⟩ = some (u8c ys[i]))) (fun v _ => slen v)
      case atStart =>
        have hxd : (xs.drop m).length = L - m := by rw [List.length_drop, ← HL'.out]
        refine ⟨_, bs.take (64 * (bs.length / 64)) ++ (A ++ (xs.take m ++ [])), xs.drop m, _, true, o2, c - m, rfl, by rw [hxd], by rw [hxd]; omega, ?_, ?_, HLS3.out, HH4.out, HG4'.out, fun i hi => ?_⟩
        · unfold maxLen at hcm ⊢; omega
        · have h := HSB.out
          rw [List.append_nil, List.append_assoc, List.append_assoc, List.take_append_drop, ← List.append_assoc, ← h]
        · rw [hxd] at hi
          rw [HO2.out (by omega), Nat.add_assoc, HSRC.out (m + i) (by rw [← HL'.out]; omega), List.getElem_drop]
      case round =>
        clear HLS HH1 HG1 HH3 HG3 HLS3 HH4 HG4 HG4' HO2 hcut
        obtain ⟨va, ds, ys, s, g, o', c', rfl, rfl, hyc, hcm, hsplit, hLS, hH, hg, hcell⟩ := hrel
        have hcr : ∀ i (h : i < ys.length), wr.cell? ⟨b, o' + i, none⟩ = some (u8c ys[i]) := fun i hi => by
          rw [← hcell i hi]
          unfold World.cell?
          simp only
          rw [hg.block b (World.block_lt_of_cell? w _ (hcell i hi)) (fun e => hbz (Option.some.inj e))]
        obtain ⟨m, hm⟩ : ∃ m, m = ys.length := ⟨_, rfl⟩
        unfold maxLen at hcm
        have hm63 : m ≤ 9223372036854775807 := by omega
        have HT' := hide (HT.out.grown hg (fun b e => by rw [← Option.some.inj e]; exact hz))
        have HH := hide hH
        have HG := hide hg
        have HLS := hide hLS
        have HSP := hide hsplit
        have HCE := hide hcell
        rw [← hm] at hyc ⊢
        by_cases hlt : 64 ≤ m
        · have hr64 : wr.rangeAt b o' ((ys.take 64).map u8c) := by
            refine rangeRd fun i hi => ?_
            rw [List.length_take] at hi
            rw [hcr i (by omega), List.getElem_take]
          have hb64 : (ys.take 64).length = 64 := by rw [List.length_take]; omega
          obtain ⟨yc, hyc2⟩ : ∃ yc, yc = (ys.take 64).map u8c := ⟨_, rfl⟩
          rw [← hyc2] at hr64
          have HR := hide hr64
          have HL := hide (show yc.length = 64 by rw [hyc2, List.length_map]; exact hb64)
          have HYC := hide hyc2
          have har := run_arrayAt (P := Tryd.prog) wr 105 5 64 (some ⟨b, o', none⟩) m c' Tryd.underlying105 hlt
          obtain ⟨o2, ho2, hcut⟩ := sliceCutH b o' m c' 64 hlt (by omega) 64 rfl
          have HTK := hide (fun w0 => take_any w0)
          have HO2 := hide ho2
          have HM := hide hm
          clear hr64 hH hg hLS hsplit hcell hcr ho2 hm hyc2
          go_wp2_with ((with_reducible refine wpList_load_64 ?_ (.tmp 55) ?_ b o' ?_ yc HR.out HL.out ?_); rfl; rfl; rfl)
          rw [HYC.out]
          refine (HTK.out wr HT'.out z t pre post s g (zs64) (ys.take 64) N hz HH.out (fun hg => HLS.out.ok hg) hb64).mono ?_
          rintro e w2 ⟨rfl, hH2, hg2⟩
          have HH2 := hide hH2
          have HG2 := hide (grownBy_trans HG.out hg2)
          clear hH2 hg2 HTK
          go_wp2
          refine ⟨⟨_, ds ++ ys.take 64, ys.drop 64, _, true, o2, c' - 64, rfl, ?_, ?_, by unfold maxLen; omega, ?_, HLS.out.step hb64, HH2.out, HG2.out, fun i hi => ?_⟩, ?_⟩
          · rw [List.length_drop, ← HM.out]
          · rw [List.length_drop, ← HM.out]; omega
          · rw [HSP.out, List.append_assoc, List.take_append_drop]
          · rw [List.length_drop, ← HM.out] at hi
            rw [HO2.out (by omega), Nat.add_assoc, HCE.out (64 + i) (by rw [← HM.out]; omega), List.getElem_drop]
          · simp [slen]; omega
        · have hsa := slice64_allo z (pre.length + 9)
          have HCR := hide hcr
          have HM := hide hm
          have HZ : Hid (zs64 = [] ++ (List.replicate ys.length 0 ++ List.replicate (64 - ys.length) 0)) := by
            unfold Hid zs64
            rw [List.nil_append, List.replicate_append_replicate, show ys.length + (64 - ys.length) = 64 by rw [← HM.out]; omega]
          have HMN : Hid (ys.length = Nat.min m 64) := by
            unfold Hid
            rw [← HM.out]; exact (Nat.min_eq_left (by omega)).symm
          have HLR : Hid (ys.length = (List.replicate ys.length (0 : UInt8)).length) := hide (by rw [List.length_replicate])
          clear hH hg hLS hsplit hcell hcr hm
          go_wp2_with ((with_reducible refine wpList_copy_hw ?_ (.tmp 63) (.tmp 64) ?_ z t pre post (st8 s) g zs64 N HH.out [] (List.replicate ys.length 0) (List.replicate (64 - ys.length) 0) ys HZ.out HLR.out 64 64 b o' m c' ?_ ?_ HMN.out HCR.out ?_); rfl; rfl; rfl; rfl; intro w2 HH2 HG2)
          go_returns
          refine ⟨rfl, ?_, grownBy_trans HG.out HG2.out⟩
          rw [HSP.out]
          exact HLS.out.fin (by rw [← HM.out]; omega) N (by rw [← HSP.out, List.length_append, HNN.out, HN.out, HL'.out]) HH2.out
end Go.Proofs.YtjcfndiceinkjabDoor
