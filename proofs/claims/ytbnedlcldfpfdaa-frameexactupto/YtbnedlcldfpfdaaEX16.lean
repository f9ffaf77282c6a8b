/- goes, walked. -/
import Derived.Test.YtbnedlcldfpfdaaEX16a
namespace Go.Proofs.Ytbnedlcldfpfdaa
set_option linter.unusedVariables false
set_option linter.unusedSimpArgs false
open Go.RowKit Go.Sort Go.Shelf
attribute [local go_sem] Oper.semAt_some

set_option maxRecDepth 40000 in
set_option maxHeartbeats 16000000 in
theorem goes_any : GoesC := by
  intro w vb vr at' s z xs hr hz hlx
  have HR := hide hr
  have HZ0 := hide hz
  have hzl := hz.lt
  obtain ⟨aor, cr, rfl, -⟩ := hr.slice
  have HRD : Hid (∀ W, Blk W z ((roomL xs).map u8c).toArray 5 → RdA W (.slice (some ⟨z, 0, none⟩) xs.length (xs.length + 70)) xs) := hide (fun W hW => RdA_head hW _ (fun i h => by rw [roomL_at xs i (by omega), roomAt_in xs i h]) (by omega) (by unfold maxLen; omega))
  clear hr hz
  unfold askC
  refine (callsIn_wide (n := 5)).1 ?_
  refine callsIn_of_wp_marks Try.func13 rfl trivial ?_ rfl
  refine wpIn_wide.2 ?_
  simp only [Try.ntmps13, List.size_toArray, List.length_cons, List.length_nil, Nat.reduceAdd, Nat.reduceSub, Array.replicate_succ, Array.replicate_zero, List.push_toArray, List.append_toArray, List.nil_append, List.cons_append]
  obtain ⟨w1, hw1⟩ : ∃ w1, w1 = w.alloc (.cells #[vb, .slice aor xs.length cr, .int .i64 at', .int .u32 (s : Int)] 25) := ⟨_, rfl⟩
  have HB1 : Hid (Below w.heap.size w w1) := hide (by rw [hw1]; exact (Below.refl _ _).alloc (Nat.le_refl _) _)
  have HK1 : Hid (Blk w1 w.heap.size #[vb, .slice aor xs.length cr, .int .i64 at', .int .u32 (s : Int)] 25) := hide (by rw [hw1]; exact Blk.made w _ _)
  have HRA := hide (rall_any w1 _ xs (HR.out.below HB1.out) (by omega))
  have g1 : w1.cell? ⟨w.heap.size, 1, none⟩ = some (.slice aor xs.length cr) := HK1.out.cell 1
  rw [hw1] at g1
  go_wp2_with fail
  rw [← hw1]
  refine HRA.out.mono ?_
  rintro e w2 ⟨N, vw, wvs, hk1, hk2, rfl, hW, hWr, hb2⟩
  obtain ⟨aw, cw, rfl⟩ := hW.slice
  have HN1 := hide (And.intro hk1 hk2)
  have HW2 := hide hW
  have HWr2 := hide hWr
  have HB2 := hide (Below.step HB1.out hb2)
  have HK2 := hide (HK1.out.below hb2 HK1.out.lt)
  have hs12 : w1.heap.size ≤ w2.heap.size := hb2.size
  have HS01 : Hid (w.heap.size < w1.heap.size) := hide HK1.out.lt
  have hNl : N ≤ 104858 := by
    have h1 := plc_ten N hk1
    have h2 := plc_le N hk1
    omega
  clear hk1 hk2 hW hWr hb2 g1 hw1 HRA HK1
  obtain ⟨w3, hw3⟩ : ∃ w3, w3 = w2.alloc (.cells #[.slice aw N cw] 54) := ⟨_, rfl⟩
  have hb3 : Below w2.heap.size w2 w3 := by rw [hw3]; exact (Below.refl _ _).alloc (Nat.le_refl _) _
  have HB3 := hide (Below.step HB2.out hb3)
  have HK3 := hide (HK2.out.below hb3 HK2.out.lt)
  have HV3 : Hid (Blk w3 w2.heap.size #[.slice aw N cw] 54) := hide (by rw [hw3]; exact Blk.made _ _ _)
  have HW3 := hide (HW2.out.below hb3)
  have HWr3 : Hid (∀ j, j < N → OwnsB w3 w1.heap.size (wvs j) (bodyR xs j)) := hide (fun j hj => (HWr2.out j hj).below hb3)
  have HE1 := hide (end_any w3 _ xs (HRD.out w3 (HZ0.out.below HB3.out HZ0.out.lt)) (by omega))
  have hs23 : w2.heap.size < w3.heap.size := HV3.out.lt
  clear hb3 HB2 HK2 HW2 HWr2
  go_wp2_with fail
  rw [← hw3]
  refine HE1.out.mono ?_
  rintro e w4 ⟨k4, h41, h42, rfl, hb4⟩
  obtain rfl : N = k4 := first_one HN1.out.1 HN1.out.2 h41 h42
  have HB4 := hide (Below.step HB3.out hb4)
  have HK4 := hide (HK3.out.below hb4 HK3.out.lt)
  have HV4 := hide (HV3.out.below hb4 HV3.out.lt)
  have HW4 := hide (HW3.out.below hb4)
  have HWr4 : Hid (∀ j, j < N → OwnsB w4 w1.heap.size (wvs j) (bodyR xs j)) := hide (fun j hj => (HWr3.out j hj).below hb4)
  have HE2 := hide (rend_any w4 _ xs (HR.out.below HB4.out) (by omega))
  have g1 : w4.cell? ⟨w.heap.size, 1, none⟩ = some (.slice aor xs.length cr) := HK4.out.cell 1
  have hs34 : w3.heap.size ≤ w4.heap.size := hb4.size
  obtain ⟨P, hP⟩ : ∃ P, P = plc xs N := ⟨_, rfl⟩
  obtain ⟨E, hE⟩ : ∃ E, E = endE xs N := ⟨_, rfl⟩
  rw [← hP, ← hE]
  have HPE := hide (And.intro hP hE)
  clear h41 h42 hb4 HB3 HK3 HV3 HW3 HWr3 HE1 hw3 hP hE
  go_wp2_with fail
  refine HE2.out.mono ?_
  rintro e w5 ⟨k5, h51, h52, rfl, hb5⟩
  obtain rfl : N = k5 := first_one HN1.out.1 HN1.out.2 h51 h52
  rw [← HPE.out.1, ← HPE.out.2]
  have HB5 := hide (Below.step HB4.out hb5)
  have HV5 := hide (HV4.out.below hb5 HV4.out.lt)
  have HW5 := hide (HW4.out.below hb5)
  have HWr5 : Hid (∀ j, j < N → OwnsB w5 w1.heap.size (wvs j) (bodyR xs j)) := hide (fun j hj => (HWr4.out j hj).below hb5)
  have hs45 : w4.heap.size ≤ w5.heap.size := hb5.size
  have HAl := hide (all_any w5 _ xs (HRD.out w5 (HZ0.out.below HB5.out HZ0.out.lt)) (by omega))
  clear h51 h52 hb5 HB4 HK4 HV4 HW4 HWr4 HE2 g1
  go_wp2_with fail
  refine HAl.out.mono ?_
  rintro e w6 ⟨za, va, rfl, hza, hva, hzal, hb6⟩
  have HB6 := hide (Below.step HB5.out hb6)
  have HV6 := hide (HV5.out.below hb6 HV5.out.lt)
  have HW6 := hide (HW5.out.below hb6)
  have HWr6 : Hid (∀ j, j < N → OwnsB w6 w1.heap.size (wvs j) (bodyR xs j)) := hide (fun j hj => (HWr5.out j hj).below hb6)
  have HZ6 : Hid (Blk w6 z ((upL xs 0 0).map u8c).toArray 5) := hide (by rw [upL_none]; exact HZ0.out.below HB6.out HZ0.out.lt)
  have HZa6 := hide hza
  have HVa6 := hide hva
  have HZal := hide hzal
  have hs56 : w5.heap.size ≤ w6.heap.size := hb6.size
  unfold allV
  clear hza hva hzal hb6 HB5 HV5 HW5 HWr5 HAl HPE
  go_wp2
  go_loopw [11] (fun i wr => ∃ k : Nat, i = .int .i64 k ∧ k ≤ xs.length ∧ Blk wr z ((upL xs 0 k).map u8c).toArray 5 ∧ w6.grownBy wr (some z)) (fun i _ => xs.length - (intOf i).toNat)
  case atStart => exact ⟨0, rfl, by omega, HZ6.out, grownBy.of (Below.refl _ _) _⟩
  case round =>
    clear HZ6
    obtain ⟨k, rfl, hk, hZ, hG⟩ := hrel
    by_cases hlt : k < xs.length
    · have hki : (k : Int) < xs.length := by omega
      have hat := upL_at xs 0 k k (by omega)
      rw [if_neg (by omega)] at hat
      have HUP := hide (upL_up xs k (by omega))
      obtain ⟨x, hx'⟩ : ∃ x, x = roomAt xs k := ⟨_, rfl⟩
      rw [← hx'] at hat HUP
      have hc := hZ.atU k x hat
      have hf := hZ.frozen k
      have hup := up_add x
      have HZ2 := hide (hZ.setU k (x + 1))
      have HG2 := hide (grownBy.setZ hG k (.int .u8 ((x + 1).toNat : Int)))
      rw [← HUP.out] at HZ2
      obtain ⟨y, hy⟩ : ∃ y, y = x + 1 := ⟨_, rfl⟩
      rw [← hy] at hup HZ2 HG2
      clear hx' hat hZ hG hy
      go_wp2
      exact ⟨⟨k + 1, by go_num, by omega, HZ2.out, HG2.out⟩, by simp [intOf]; omega⟩
    · obtain rfl : k = xs.length := by omega
      have hki : ¬ (xs.length : Int) < xs.length := by omega
      obtain ⟨w7, rfl⟩ : ∃ w7, w7 = wr := ⟨_, rfl⟩
      have HZ7 := hide hZ
      have HG7 : Hid (w.grownBy w7 (some z)) := hide (grownBy_trans (grownBy_below HB6.out) hG)
      have HV7 := hide (HV6.out.grown hG (fun e => by have := Option.some.inj e; have := HS01.out; omega))
      have HW7 : Hid (OwnsRec w7 w1.heap.size (.slice aw N cw) xs wvs N) := hide (ownsS_grown HW6.out hG (fun g hg e => by have := ownsS_ge HW6.out g hg; have := Option.some.inj e; have := HS01.out; omega))
      have HWr7 : Hid (∀ j, j < N → OwnsB w7 w1.heap.size (wvs j) (bodyR xs j)) := hide (fun j hj => OwnsB.grown (HWr6.out j hj) hG (fun g hg e => by have := (OwnsB.blk_ge (HWr6.out j hj) g hg).1; have := Option.some.inj e; have := HS01.out; omega))
      have HZa7 := hide (HZa6.out.grown hG (fun e => by have := Option.some.inj e; have := HZal.out; have := HS01.out; omega))
      have HVa7 : Hid (OwnsB w7 w5.heap.size va xs) := hide (OwnsB.grown HVa6.out hG (fun g hg e => by have := (OwnsB.blk_ge HVa6.out g hg).1; have := Option.some.inj e; have := HS01.out; omega))
      have hs67 : w6.heap.size ≤ w7.heap.size := hG.size
      have hzaL : za < w6.heap.size := HZa6.out.lt
      have HSeq := hide (fun n => all_fit n w7 za w5.heap.size va xs HZa7.out HZal.out HVa7.out)
      obtain ⟨W9, hW9⟩ : ∃ W9, W9 = (w7.alloc (.cells #[.bool true] 4)).alloc (.cells #[.slice none 0 0] 31) := ⟨_, rfl⟩
      have hb9 : Below w7.heap.size w7 W9 := by rw [hW9]; exact ((Below.refl _ _).alloc (Nat.le_refl _) _).alloc (by simp) _
      have HG9 : Hid (GSt w7 W9 w7.heap.size (w7.heap.size + 1) (.slice none 0 0) 0 (fun _ => .slice none 0 0) (fun _ => [])) := hide ⟨by rw [hW9]; exact (Blk.made w7 _ _).alloc _, by
          have h := Blk.made (w7.alloc (.cells #[.bool true] 4)) #[.slice none 0 0] 31
          rw [World.size_alloc] at h
          rw [hW9]
          exact h, World.ownsRow_nil _ _ _ _, ⟨fun i hi => by omega, fun i j hi => by omega⟩, fun i hi => by omega, hb9⟩
      clear hZ hG hb9 HB6 HV6 HW6 HWr6 HZa6 HVa6 hki hlt
      go_wp2
      rw [← hW9]
      clear hW9
      have HA9 : Hid (AllD [] W9) := hide (fun D hD => by cases hD)
      refine wp_loop_rounds 3 ?_
      rw [rounds_succ]
      obtain ⟨q1, hq1⟩ : ∃ q, q = W9.heap.size := ⟨_, rfl⟩
      obtain ⟨V1, hV1⟩ : ∃ V, V = W9.alloc (.cells #[.int .i64 0] 3) := ⟨_, rfl⟩
      have hbV1 : Below W9.heap.size W9 V1 := by rw [hV1]; exact (Below.refl _ _).alloc (Nat.le_refl _) _
      have HGV1 := hide (HG9.out.below hbV1)
      have HAV1 : Hid (AllD [] V1) := hide (HA9.out.below hbV1)
      have HKV1 : Hid (Blk V1 q1 #[.int .i64 0] 3) := hide (by rw [hV1, hq1]; exact Blk.made _ _ _)
      have hq71 : w7.heap.size + 1 < q1 := by have := HG9.out.lbox.lt; omega
      have HDl1 : Hid (∀ D ∈ [], D < V1.heap.size) := hide (fun D hD => (Array.getElem?_eq_some_iff.1 (HAV1.out D hD)).1)
      have HV7L1 : Hid (w7.heap.size ≤ V1.heap.size) := hide HGV1.out.bel.size
      clear hbV1
      go_wp2
      rw [← hV1, ← hq1]
      clear hV1 hq1
      refine (wpIn_wide (n := 5)).1 ?_
      refine wpIn_rangeFit rfl (by omega) (gf := 34) (lb := #[.pointer (some ⟨za, 0, none⟩)]) rfl trivial (enters_of Try.func34 (by kernel_rfl) rfl) (HSeq.out (5 - 1)) HGV1.out.bel HV7L1.out (fun _ => rfl) (allFit_put xs)
        (fun pre W => Blk W q1 #[.int .i64 ((pre.length : Nat) : Int)] 3 ∧ (∃ vl lvs ys, GSt w7 W w7.heap.size (w7.heap.size + 1) vl (0 + pre.length) lvs ys) ∧ AllD [] W ∧ V1.heap.size ≤ W.heap.size) (fun _ _ _ => False)
        (OwnFrom.and (blk_ownFrom _ _ _ (fun pre : List Rec => #[.int .i64 ((pre.length : Nat) : Int)])) (OwnFrom.and (GSt.ownFrom (c := fun pre : List Rec => 0 + pre.length) HV7L1.out) (OwnFrom.and (AllD.ownFrom HDl1.out) (fun s A C row hs hg hr => Nat.le_trans hs hg.size))))
        (fun _ _ _ _ _ hs _ _ => hs) ⟨HKV1.out, ⟨_, _, _, HGV1.out⟩, HAV1.out, Nat.le_refl _⟩ ?round1 ?done1 ?stop1
      case round1 =>
        rintro l pre ⟨pq, bd, vx⟩ Wp W ⟨hkp, ⟨vl, lvs, ys, hGp⟩, hAp, hW4⟩ hbW ⟨f1, f2, f3, f4⟩
        dsimp only at f2 f3 f4
        have hj : pre.length < N := Nat.lt_of_not_le fun h => HN1.out.2 (f1 N h)
        subst f2 f3
        obtain ⟨vx1, cx1, rfl, -, -⟩ := f4.slice
        have hGW := hGp.below hbW
        have hkW := hkp.below hbW hkp.lt
        have hAW := hAp.below hbW
        have hMp : ∀ i, i < 0 + pre.length → ∀ g, (lvs i).ownBlock = some g → g < Wp.heap.size := fun i hi g hg => (OwnsB.blk_ge (hGp.ls.own i hi) g hg).2
        have h7p : w7.heap.size ≤ Wp.heap.size := hGp.bel.size
        obtain ⟨gw, hgw⟩ := HW7.out.form (by omega)
        subst hgw
        have hrec := OwnsRec.at (show OwnsRec W w1.heap.size (.slice (some ⟨gw, 0, none⟩) N cw) xs wvs N from ownsS_below HW7.out hGW.bel) pre.length hj
        have hwb := (HWr7.out pre.length hj).below hGW.bel
        obtain ⟨av, cv, hav, -, -⟩ := hwb.slice
        rw [hav] at hrec hwb
        have hc5 : W.cell? ⟨w2.heap.size, 0, none⟩ = some (.slice (some ⟨gw, 0, none⟩) N cw) := (HV7.out.below hGW.bel HV7.out.lt).cell 0
        have hc12 : W.cell? ⟨w7.heap.size, 0, none⟩ = some (.bool true) := hGW.okb.cell 0
        have hc15 : W.cell? ⟨q1, 0, none⟩ = some (.int .i64 ((pre.length : Nat) : Int)) := hkW.cell 0
        obtain ⟨hr0, hr1⟩ := hrec
        have HSame := hide (same_any W _ _ (bodyR xs pre.length) f4.rd hwb.rd)
        have HBl := hide (body_len xs pre.length)
        have HF4 := hide f4
        have HGW := hide hGW
        have HKW := hide hkW
        have HAW := hide hAW
        have HMp := hide hMp
        have HV4 := hide (Nat.le_trans hW4 hbW.size)
        obtain ⟨j, hjj⟩ : ∃ j, j = pre.length := ⟨_, rfl⟩
        obtain ⟨m, hm⟩ : ∃ m, m = (bodyR xs pre.length).length := ⟨_, rfl⟩
        obtain ⟨pl, hpl⟩ : ∃ pl, pl = plc xs pre.length := ⟨_, rfl⟩
        have HJJ := hide hjj
        have HM := hide hm
        rw [← hm] at hr1 HSame HF4 HBl ⊢
        rw [← hpl] at hr0
        rw [← hjj] at hr0 hr1 hc15 HKW HGW HMp
        have hji : (j : Int) < (N : Int) := by omega
        have hjN : ¬ (N : Int) < (j : Int) + 1 := by omega
        have hjb : (j : Int) ≤ 104858 := by omega
        have HPL := hide hpl
        clear f1 f4 hkp hGp hAp hW4 hbW hGW hkW hAW hMp hwb hav hm hjj hpl hj
        refine ⟨?aa1, ?asg1, ?bd1⟩
        case asg1 =>
          intro W0 K hK
          refine asg2 (x1 := .tmp 63) (x2 := .tmp 64) rfl rfl rfl rfl _ W0 K ?_
          exact hK
        case bd1 =>
          unfold recV
          simp only [List.zip_toArray, List.zip_cons_cons, List.zip_nil_right, List.foldl_toArray, List.foldl_cons, List.foldl_nil, List.setIfInBounds_toArray, List.set_cons_succ, List.set_cons_zero, Act.put, Act.eval]
          rw [← HPL.out]
          gi_wp2
          refine ⟨trivial, ?_⟩
          refine (CallsIn.inRound l (callsIn_wide.2 HSame.out)).mono ?_
          rintro e w10 ⟨rfl, hb10⟩
          obtain ⟨cc, hcc⟩ : ∃ cc, cc = 0 + j := ⟨_, rfl⟩
          rw [← hcc] at HGW HMp
          have HCC := hide hcc
          have hccb : cc ≤ 1000000 := by omega
          have hG10 := HGW.out.below hb10
          have f10 := HF4.out.below hb10
          have hk10 := HKW.out.below hb10 HKW.out.lt
          have hcs := hG10.okb.cell 0
          have hfs := hG10.okb.frozen 0
          obtain ⟨al, cl, rfl⟩ := row_form hG10.lists
          obtain ⟨W11, hW11⟩ : ∃ W, W = w10.setCell ⟨w7.heap.size, 0, none⟩ (.bool true) := ⟨_, rfl⟩
          have hg11 : w10.grownBy W11 (some w7.heap.size) := by rw [hW11]; exact grownBy_set _ _ _ _
          have hG11 : GSt w7 W11 w7.heap.size (w7.heap.size + 1) (.slice al cc cl) cc lvs ys := by rw [hW11]; exact hG10.setOk (by omega) (Nat.le_refl _)
          have f11 := OwnsB.grown f10 hg11 (fun g hg e => blk_own_ne hG10.okb f10 (by decide) g hg (Option.some.inj e))
          have hk11 := hk10.grown hg11 (fun e => by have := Option.some.inj e; omega)
          have hsz11 : W11.heap.size = w10.heap.size := by rw [hW11]; simp
          have hc13 : W11.cell? ⟨w7.heap.size + 1, 0, none⟩ = some (.slice al cc cl) := hG11.lbox.cell 0
          have HK11 : Hid (KeepsOthers W W11) := hide ((keeps_below hb10).trans (by rw [hW11]; exact KeepsOthers.setCell _ _ _))
          have HG11 := hide hG11
          have HF11 := hide f11
          have HKq11 := hide hk11
          rw [hW11] at hc13
          clear hG10 f10 hk10 hG11 f11 hk11 hg11 hb10 HSame hr0 hr1 hc5 hc12 hc15 hcc
          gi_wp2_with (gi_at_builtin; refine wpListIn_append_list rfl _ _ rfl w7.heap.size _ cc ((List.range cc).map lvs) rfl ?c11 w10.heap.size 1 rfl (.slice vx1 m cx1) rfl ?c21 ?c31 ?c41 ?_)
          case c11 => rw [← hW11]; exact owns_below HG11.out.lists ((Below.refl _ _).alloc (Nat.le_refl _) _)
          case c21 => rw [← hW11, ← hsz11]; exact (Blk.made _ _ _).cell 0
          case c31 => omega
          case c41 => have := HG11.out.bel.size; rw [← hW11]; simp; omega
          intro v' w12 HO' HG' HBk
          rw [← hW11] at HG'
          obtain ⟨al2, cl2, rfl⟩ := row_form HO'.out
          have hal : Below W11.heap.size W11 (W11.alloc (.cells #[.slice vx1 m cx1] 22)) := (Below.refl _ _).alloc (Nat.le_refl _) _
          have h1 := HG11.out.below hal
          have hG13 := HG11.out.add HF11.out HMp.out h7p (by rw [← HM.out]; exact HBl.out) (by omega) (by omega) HO'.out HG'.out
          have lb2 := h1.lbox.grown HG'.out (fun e => blk_own_ne h1.lbox h1.lists (by decide) (w7.heap.size + 1) e.symm rfl)
          have kq2 := (HKq11.out.alloc (.cells #[.slice vx1 m cx1] 22)).grown HG'.out (fun e => blk_own_ne (HKq11.out.alloc (.cells #[.slice vx1 m cx1] 22)) h1.lists (by decide) q1 e.symm rfl)
          have y0 : w12.cell? ⟨w7.heap.size + 1, 0, none⟩ = some (.slice al cc cl) := lb2.cell 0
          have y1 := lb2.frozen 0
          have hk13 : Blk (w12.setCell ⟨w7.heap.size + 1, 0, none⟩ (.slice al2 (cc + 1) cl2)) q1 #[.int .i64 (j : Int)] 3 := kq2.setOther _ _ (by show q1 ≠ w7.heap.size + 1; omega)
          have y2 : (w12.setCell ⟨w7.heap.size + 1, 0, none⟩ (.slice al2 (cc + 1) cl2)).cell? ⟨q1, 0, none⟩ = some (.int .i64 (j : Int)) := hk13.cell 0
          have y3 := hk13.frozen 0
          have hg14 := grownBy_set (w12.setCell ⟨w7.heap.size + 1, 0, none⟩ (.slice al2 (cc + 1) cl2)) q1 0 (.int .i64 ((j : Int) + 1))
          have HG14 := hide (hG13.other hg14 hk13 (by omega) (by omega) (by omega) (by decide) (by decide))
          have HKq14 := hide (hk13.set 0 (.int .i64 ((j : Int) + 1)))
          have y4 : ((w12.setCell ⟨w7.heap.size + 1, 0, none⟩ (.slice al2 (cc + 1) cl2)).setCell ⟨q1, 0, none⟩ (.int .i64 ((j : Int) + 1))).cell? ⟨w2.heap.size, 0, none⟩ = some (.slice (some ⟨gw, 0, none⟩) N cw) := (HV7.out.below HG14.out.bel HV7.out.lt).cell 0
          have HKo : Hid (KeepsOthers W ((w12.setCell ⟨w7.heap.size + 1, 0, none⟩ (.slice al2 (cc + 1) cl2)).setCell ⟨q1, 0, none⟩ (.int .i64 ((j : Int) + 1)))) := hide (((HK11.out.trans (keeps_below hal)).trans (keeps_own h1.lists HG'.out)).trans ((KeepsOthers.setCell _ _ _).trans (KeepsOthers.setCell _ _ _)))
          clear h1 hal lb2 kq2 hG13 hk13 hg14 HO' HG' HBk HG11 HF11 HKq11 hc13 hW11 hsz11 hcs hfs HK11
          gi_wp2
          have he : 0 + (pre ++ [(pl, bodyR xs pre.length, Value.slice vx1 m cx1)]).length = cc + 1 := by rw [snoc_len, ← HJJ.out, HCC.out]; omega
          refine ⟨HKo.out, keepR_of HGW.out.bel HG14.out.bel HKo.out.size, ?_, ⟨.slice al2 (cc + 1) cl2, (fun i => if i = cc then .slice vx1 m cx1 else lvs i), (fun i => if i = cc then bodyR xs pre.length else ys i), ?_⟩, HAW.out.keep HKo.out, Nat.le_trans HV4.out HKo.out.size⟩
          · rw [snoc_len, ← HJJ.out]
            exact HKq14.out
          · rw [he]
            exact HG14.out
      case done1 =>
        rintro D1 rs W hD1 ⟨hs1, hs2⟩ ⟨hkW, ⟨vl1, lvs1, ys1, hGW⟩, hAW, hVW⟩ hK
        have hxl : rs.length = N := (first_one HN1.out.1 HN1.out.2 hs1 hs2).symm
        rw [hxl] at hkW hGW
        have hc5 : W.cell? ⟨w2.heap.size, 0, none⟩ = some (.slice aw N cw) := (HV7.out.below hGW.bel HV7.out.lt).cell 0
        have hc12 : W.cell? ⟨w7.heap.size, 0, none⟩ = some (.bool true) := hGW.okb.cell 0
        have hf12 := hGW.okb.frozen 0
        have hc15 : W.cell? ⟨q1, 0, none⟩ = some (.int .i64 ((N : Nat) : Int)) := hkW.cell 0
        obtain ⟨Y1, hY1⟩ : ∃ Y, Y = W.setCell ⟨w7.heap.size, 0, none⟩ (.bool true) := ⟨_, rfl⟩
        have hkk : (((N : Nat) : Int) == ((N : Nat) : Int)) = true := beq_self_eq_true _
        have HGY1 : Hid (GSt w7 Y1 w7.heap.size (w7.heap.size + 1) vl1 (0 + N) lvs1 ys1) := hide (by rw [hY1]; exact hGW.setOk (by omega) (Nat.le_refl _))
        have HAY1 : Hid (AllD (D1 :: []) Y1) := hide (by
          rw [hY1]
          refine AllD.keep (fun D hD => ?_) (KeepsOthers.setCell W ⟨w7.heap.size, 0, none⟩ (.bool true))
          rcases List.mem_cons.1 hD with e | e
          · rw [e]; exact hK
          · exact hAW D e)
        have HDn1 : Hid (∀ D ∈ [], D ≠ D1) := hide (fun D hD => by have := HDl1.out D hD; omega)
        have HDw1 : Hid (w.heap.size ≤ D1) := hide (by have := HV7L1.out; have := HG7.out.size; omega)
        clear hs1 hs2 hkW hGW hAW hVW hK hxl hD1
        go_wp2
        rw [← hY1]
        clear hc5 hc12 hf12 hc15 hY1 hkk HGV1 HAV1 HKV1 HDl1 HV7L1
        rw [rounds_succ]
        obtain ⟨q2, hq2⟩ : ∃ q, q = Y1.heap.size := ⟨_, rfl⟩
        obtain ⟨V2, hV2⟩ : ∃ V, V = Y1.alloc (.cells #[.int .i64 0] 3) := ⟨_, rfl⟩
        have hbV2 : Below Y1.heap.size Y1 V2 := by rw [hV2]; exact (Below.refl _ _).alloc (Nat.le_refl _) _
        have HGV2 := hide (HGY1.out.below hbV2)
        have HAV2 : Hid (AllD [D1] V2) := hide (HAY1.out.below hbV2)
        have HKV2 : Hid (Blk V2 q2 #[.int .i64 0] 3) := hide (by rw [hV2, hq2]; exact Blk.made _ _ _)
        have hq72 : w7.heap.size + 1 < q2 := by have := HGY1.out.lbox.lt; omega
        have HDl2 : Hid (∀ D ∈ [D1], D < V2.heap.size) := hide (fun D hD => (Array.getElem?_eq_some_iff.1 (HAV2.out D hD)).1)
        have HV7L2 : Hid (w7.heap.size ≤ V2.heap.size) := hide HGV2.out.bel.size
        clear hbV2
        go_wp2
        rw [← hV2, ← hq2]
        clear hV2 hq2
        refine (wpIn_wide (n := 5)).1 ?_
        refine wpIn_rangeFit rfl (by omega) (gf := 34) (lb := #[.pointer (some ⟨za, 0, none⟩)]) rfl trivial (enters_of Try.func34 (by kernel_rfl) rfl) (HSeq.out (5 - 1)) HGV2.out.bel HV7L2.out (fun _ => rfl) (allFit_put xs)
          (fun pre W => Blk W q2 #[.int .i64 ((pre.length : Nat) : Int)] 3 ∧ (∃ vl lvs ys, GSt w7 W w7.heap.size (w7.heap.size + 1) vl ((0 + N) + pre.length) lvs ys) ∧ AllD [D1] W ∧ V2.heap.size ≤ W.heap.size) (fun _ _ _ => False)
          (OwnFrom.and (blk_ownFrom _ _ _ (fun pre : List Rec => #[.int .i64 ((pre.length : Nat) : Int)])) (OwnFrom.and (GSt.ownFrom (c := fun pre : List Rec => (0 + N) + pre.length) HV7L2.out) (OwnFrom.and (AllD.ownFrom HDl2.out) (fun s A C row hs hg hr => Nat.le_trans hs hg.size))))
          (fun _ _ _ _ _ hs _ _ => hs) ⟨HKV2.out, ⟨_, _, _, HGV2.out⟩, HAV2.out, Nat.le_refl _⟩ ?round2 ?done2 ?stop2
        case round2 =>
          rintro l pre ⟨pq, bd, vx⟩ Wp W ⟨hkp, ⟨vl, lvs, ys, hGp⟩, hAp, hW4⟩ hbW ⟨f1, f2, f3, f4⟩
          dsimp only at f2 f3 f4
          have hj : pre.length < N := Nat.lt_of_not_le fun h => HN1.out.2 (f1 N h)
          subst f2 f3
          obtain ⟨vx1, cx1, rfl, -, -⟩ := f4.slice
          have hGW := hGp.below hbW
          have hkW := hkp.below hbW hkp.lt
          have hAW := hAp.below hbW
          have hMp : ∀ i, i < (0 + N) + pre.length → ∀ g, (lvs i).ownBlock = some g → g < Wp.heap.size := fun i hi g hg => (OwnsB.blk_ge (hGp.ls.own i hi) g hg).2
          have h7p : w7.heap.size ≤ Wp.heap.size := hGp.bel.size
          obtain ⟨gw, hgw⟩ := HW7.out.form (by omega)
          subst hgw
          have hrec := OwnsRec.at (show OwnsRec W w1.heap.size (.slice (some ⟨gw, 0, none⟩) N cw) xs wvs N from ownsS_below HW7.out hGW.bel) pre.length hj
          have hwb := (HWr7.out pre.length hj).below hGW.bel
          obtain ⟨av, cv, hav, -, -⟩ := hwb.slice
          rw [hav] at hrec hwb
          have hc5 : W.cell? ⟨w2.heap.size, 0, none⟩ = some (.slice (some ⟨gw, 0, none⟩) N cw) := (HV7.out.below hGW.bel HV7.out.lt).cell 0
          have hc12 : W.cell? ⟨w7.heap.size, 0, none⟩ = some (.bool true) := hGW.okb.cell 0
          have hc15 : W.cell? ⟨q2, 0, none⟩ = some (.int .i64 ((pre.length : Nat) : Int)) := hkW.cell 0
          obtain ⟨hr0, hr1⟩ := hrec
          have HSame := hide (same_any W _ _ (bodyR xs pre.length) f4.rd hwb.rd)
          have HBl := hide (body_len xs pre.length)
          have HF4 := hide f4
          have HGW := hide hGW
          have HKW := hide hkW
          have HAW := hide hAW
          have HMp := hide hMp
          have HV4 := hide (Nat.le_trans hW4 hbW.size)
          obtain ⟨j, hjj⟩ : ∃ j, j = pre.length := ⟨_, rfl⟩
          obtain ⟨m, hm⟩ : ∃ m, m = (bodyR xs pre.length).length := ⟨_, rfl⟩
          obtain ⟨pl, hpl⟩ : ∃ pl, pl = plc xs pre.length := ⟨_, rfl⟩
          have HJJ := hide hjj
          have HM := hide hm
          rw [← hm] at hr1 HSame HF4 HBl ⊢
          rw [← hpl] at hr0
          rw [← hjj] at hr0 hr1 hc15 HKW HGW HMp
          have hji : (j : Int) < (N : Int) := by omega
          have hjN : ¬ (N : Int) < (j : Int) + 1 := by omega
          have hjb : (j : Int) ≤ 104858 := by omega
          have HPL := hide hpl
          clear f1 f4 hkp hGp hAp hW4 hbW hGW hkW hAW hMp hwb hav hm hjj hpl hj
          refine ⟨?aa2, ?asg2, ?bd2⟩
          case asg2 =>
            intro W0 K hK
            refine asg2 (x1 := .tmp 63) (x2 := .tmp 64) rfl rfl rfl rfl _ W0 K ?_
            exact hK
          case bd2 =>
            unfold recV
            simp only [List.zip_toArray, List.zip_cons_cons, List.zip_nil_right, List.foldl_toArray, List.foldl_cons, List.foldl_nil, List.setIfInBounds_toArray, List.set_cons_succ, List.set_cons_zero, Act.put, Act.eval]
            rw [← HPL.out]
            gi_wp2
            refine ⟨trivial, ?_⟩
            refine (CallsIn.inRound l (callsIn_wide.2 HSame.out)).mono ?_
            rintro e w10 ⟨rfl, hb10⟩
            obtain ⟨cc, hcc⟩ : ∃ cc, cc = (0 + N) + j := ⟨_, rfl⟩
            rw [← hcc] at HGW HMp
            have HCC := hide hcc
            have hccb : cc ≤ 1000000 := by omega
            have hG10 := HGW.out.below hb10
            have f10 := HF4.out.below hb10
            have hk10 := HKW.out.below hb10 HKW.out.lt
            have hcs := hG10.okb.cell 0
            have hfs := hG10.okb.frozen 0
            obtain ⟨al, cl, rfl⟩ := row_form hG10.lists
            obtain ⟨W11, hW11⟩ : ∃ W, W = w10.setCell ⟨w7.heap.size, 0, none⟩ (.bool true) := ⟨_, rfl⟩
            have hg11 : w10.grownBy W11 (some w7.heap.size) := by rw [hW11]; exact grownBy_set _ _ _ _
            have hG11 : GSt w7 W11 w7.heap.size (w7.heap.size + 1) (.slice al cc cl) cc lvs ys := by rw [hW11]; exact hG10.setOk (by omega) (Nat.le_refl _)
            have f11 := OwnsB.grown f10 hg11 (fun g hg e => blk_own_ne hG10.okb f10 (by decide) g hg (Option.some.inj e))
            have hk11 := hk10.grown hg11 (fun e => by have := Option.some.inj e; omega)
            have hsz11 : W11.heap.size = w10.heap.size := by rw [hW11]; simp
            have hc13 : W11.cell? ⟨w7.heap.size + 1, 0, none⟩ = some (.slice al cc cl) := hG11.lbox.cell 0
            have HK11 : Hid (KeepsOthers W W11) := hide ((keeps_below hb10).trans (by rw [hW11]; exact KeepsOthers.setCell _ _ _))
            have HG11 := hide hG11
            have HF11 := hide f11
            have HKq11 := hide hk11
            rw [hW11] at hc13
            clear hG10 f10 hk10 hG11 f11 hk11 hg11 hb10 HSame hr0 hr1 hc5 hc12 hc15 hcc
            gi_wp2_with (gi_at_builtin; refine wpListIn_append_list rfl _ _ rfl w7.heap.size _ cc ((List.range cc).map lvs) rfl ?c12 w10.heap.size 1 rfl (.slice vx1 m cx1) rfl ?c22 ?c32 ?c42 ?_)
            case c12 => rw [← hW11]; exact owns_below HG11.out.lists ((Below.refl _ _).alloc (Nat.le_refl _) _)
            case c22 => rw [← hW11, ← hsz11]; exact (Blk.made _ _ _).cell 0
            case c32 => omega
            case c42 => have := HG11.out.bel.size; rw [← hW11]; simp; omega
            intro v' w12 HO' HG' HBk
            rw [← hW11] at HG'
            obtain ⟨al2, cl2, rfl⟩ := row_form HO'.out
            have hal : Below W11.heap.size W11 (W11.alloc (.cells #[.slice vx1 m cx1] 22)) := (Below.refl _ _).alloc (Nat.le_refl _) _
            have h1 := HG11.out.below hal
            have hG13 := HG11.out.add HF11.out HMp.out h7p (by rw [← HM.out]; exact HBl.out) (by omega) (by omega) HO'.out HG'.out
            have lb2 := h1.lbox.grown HG'.out (fun e => blk_own_ne h1.lbox h1.lists (by decide) (w7.heap.size + 1) e.symm rfl)
            have kq2 := (HKq11.out.alloc (.cells #[.slice vx1 m cx1] 22)).grown HG'.out (fun e => blk_own_ne (HKq11.out.alloc (.cells #[.slice vx1 m cx1] 22)) h1.lists (by decide) q2 e.symm rfl)
            have y0 : w12.cell? ⟨w7.heap.size + 1, 0, none⟩ = some (.slice al cc cl) := lb2.cell 0
            have y1 := lb2.frozen 0
            have hk13 : Blk (w12.setCell ⟨w7.heap.size + 1, 0, none⟩ (.slice al2 (cc + 1) cl2)) q2 #[.int .i64 (j : Int)] 3 := kq2.setOther _ _ (by show q2 ≠ w7.heap.size + 1; omega)
            have y2 : (w12.setCell ⟨w7.heap.size + 1, 0, none⟩ (.slice al2 (cc + 1) cl2)).cell? ⟨q2, 0, none⟩ = some (.int .i64 (j : Int)) := hk13.cell 0
            have y3 := hk13.frozen 0
            have hg14 := grownBy_set (w12.setCell ⟨w7.heap.size + 1, 0, none⟩ (.slice al2 (cc + 1) cl2)) q2 0 (.int .i64 ((j : Int) + 1))
            have HG14 := hide (hG13.other hg14 hk13 (by omega) (by omega) (by omega) (by decide) (by decide))
            have HKq14 := hide (hk13.set 0 (.int .i64 ((j : Int) + 1)))
            have y4 : ((w12.setCell ⟨w7.heap.size + 1, 0, none⟩ (.slice al2 (cc + 1) cl2)).setCell ⟨q2, 0, none⟩ (.int .i64 ((j : Int) + 1))).cell? ⟨w2.heap.size, 0, none⟩ = some (.slice (some ⟨gw, 0, none⟩) N cw) := (HV7.out.below HG14.out.bel HV7.out.lt).cell 0
            have HKo : Hid (KeepsOthers W ((w12.setCell ⟨w7.heap.size + 1, 0, none⟩ (.slice al2 (cc + 1) cl2)).setCell ⟨q2, 0, none⟩ (.int .i64 ((j : Int) + 1)))) := hide (((HK11.out.trans (keeps_below hal)).trans (keeps_own h1.lists HG'.out)).trans ((KeepsOthers.setCell _ _ _).trans (KeepsOthers.setCell _ _ _)))
            clear h1 hal lb2 kq2 hG13 hk13 hg14 HO' HG' HBk HG11 HF11 HKq11 hc13 hW11 hsz11 hcs hfs HK11
            gi_wp2
            have he : (0 + N) + (pre ++ [(pl, bodyR xs pre.length, Value.slice vx1 m cx1)]).length = cc + 1 := by rw [snoc_len, ← HJJ.out, HCC.out]; omega
            refine ⟨HKo.out, keepR_of HGW.out.bel HG14.out.bel HKo.out.size, ?_, ⟨.slice al2 (cc + 1) cl2, (fun i => if i = cc then .slice vx1 m cx1 else lvs i), (fun i => if i = cc then bodyR xs pre.length else ys i), ?_⟩, HAW.out.keep HKo.out, Nat.le_trans HV4.out HKo.out.size⟩
            · rw [snoc_len, ← HJJ.out]
              exact HKq14.out
            · rw [he]
              exact HG14.out
        case done2 =>
          rintro D2 rs W hD2 ⟨hs1, hs2⟩ ⟨hkW, ⟨vl2, lvs2, ys2, hGW⟩, hAW, hVW⟩ hK
          have hxl : rs.length = N := (first_one HN1.out.1 HN1.out.2 hs1 hs2).symm
          rw [hxl] at hkW hGW
          have hc5 : W.cell? ⟨w2.heap.size, 0, none⟩ = some (.slice aw N cw) := (HV7.out.below hGW.bel HV7.out.lt).cell 0
          have hc12 : W.cell? ⟨w7.heap.size, 0, none⟩ = some (.bool true) := hGW.okb.cell 0
          have hf12 := hGW.okb.frozen 0
          have hc15 : W.cell? ⟨q2, 0, none⟩ = some (.int .i64 ((N : Nat) : Int)) := hkW.cell 0
          obtain ⟨Y2, hY2⟩ : ∃ Y, Y = W.setCell ⟨w7.heap.size, 0, none⟩ (.bool true) := ⟨_, rfl⟩
          have hkk : (((N : Nat) : Int) == ((N : Nat) : Int)) = true := beq_self_eq_true _
          have HGY2 : Hid (GSt w7 Y2 w7.heap.size (w7.heap.size + 1) vl2 ((0 + N) + N) lvs2 ys2) := hide (by rw [hY2]; exact hGW.setOk (by omega) (Nat.le_refl _))
          have HAY2 : Hid (AllD (D2 :: [D1]) Y2) := hide (by
            rw [hY2]
            refine AllD.keep (fun D hD => ?_) (KeepsOthers.setCell W ⟨w7.heap.size, 0, none⟩ (.bool true))
            rcases List.mem_cons.1 hD with e | e
            · rw [e]; exact hK
            · exact hAW D e)
          have HDn2 : Hid (∀ D ∈ [D1], D ≠ D2) := hide (fun D hD => by have := HDl2.out D hD; omega)
          have HDw2 : Hid (w.heap.size ≤ D2) := hide (by have := HV7L2.out; have := HG7.out.size; omega)
          clear hs1 hs2 hkW hGW hAW hVW hK hxl hD2
          go_wp2
          rw [← hY2]
          clear hc5 hc12 hf12 hc15 hY2 hkk HGV2 HAV2 HKV2 HDl2 HV7L2
          rw [rounds_succ]
          go_wp2
          have HZY : Hid (Blk Y2 z ((upL xs 0 xs.length).map u8c).toArray 5) := hide (HZ7.out.below HGY2.out.bel HZ7.out.lt)
          have hzw7 : z < w7.heap.size := HZ7.out.lt
          have HGwY : Hid (w.grownBy Y2 (some z)) := hide (grownBy_trans HG7.out (grownBy.lift HGY2.out.bel))
          go_loopw [18] (fun i wr => ∃ k : Nat, i = .int .i64 k ∧ k ≤ xs.length ∧ Blk wr z ((upL xs k xs.length).map u8c).toArray 5 ∧ Y2.grownBy wr (some z)) (fun i _ => xs.length - (intOf i).toNat)
          case atStart => exact ⟨0, rfl, by omega, HZY.out, grownBy.of (Below.refl _ _) _⟩
          case round =>
            obtain ⟨k, rfl, hk, hZ, hG⟩ := hrel
            by_cases hlt : k < xs.length
            · have hki : (k : Int) < xs.length := by omega
              have hat := upL_at xs k xs.length k (by omega)
              rw [if_pos (by omega)] at hat
              have HUP := hide (upL_down xs k xs.length (by omega) hlt)
              obtain ⟨x, hx'⟩ : ∃ x, x = roomAt xs k := ⟨_, rfl⟩
              rw [← hx'] at hat HUP
              have hc := hZ.atU k (x + 1) hat
              have hf := hZ.frozen k
              have hup := up_sub x
              have HZ2 := hide (hZ.setU k x)
              have HG2 := hide (grownBy.setZ hG k (.int .u8 (x.toNat : Int)))
              rw [← HUP.out] at HZ2
              obtain ⟨y, hy⟩ : ∃ y, y = x + 1 := ⟨_, rfl⟩
              rw [← hy] at hup hc
              clear hx' hat hZ hG hy
              go_wp2
              exact ⟨⟨k + 1, by go_num, by omega, HZ2.out, HG2.out⟩, by simp [intOf]; omega⟩
            · obtain rfl : k = xs.length := by omega
              have hki : ¬ (xs.length : Int) < xs.length := by omega
              rw [upL_none] at hZ
              obtain ⟨w8, rfl⟩ : ∃ w8, w8 = wr := ⟨_, rfl⟩
              have HBw8 : Hid (Below w.heap.size w w8) := hide (grownBy.back (grownBy_trans HGwY.out hG) HZ0.out hZ)
              have HE8 := hide (HGY2.out.ge hG hzw7 (Nat.le_refl _) (by omega))
              have HA8 : Hid (AllD [D2, D1] w8) := hide (HAY2.out.keep (KeepsOthers.of_grownBy hG (fun j o e1 e2 => by
                cases e1
                have h := HZY.out
                unfold Blk at h
                rw [h] at e2
                cases e2
                rfl)))
              have HAl8 := hide (all_any w8 _ xs (HRD.out w8 hZ) (by omega))
              have hs7Y : w7.heap.size ≤ Y2.heap.size := HGY2.out.bel.size
              have hsY8 : Y2.heap.size ≤ w8.heap.size := hG.size
              clear hZ hG hki hlt HZY HGwY HGY2 HAY2
              go_wp2_with fail
              refine HAl8.out.mono ?_
              rintro e w10 ⟨zb, vb', rfl, hzb, hvb, hzbl, hb10⟩
              have HB10 := hide (Below.step HBw8.out hb10)
              have HE10 := hide (HE8.out.below hb10)
              have HA10 : Hid (AllD [D2, D1] w10) := hide (HA8.out.below hb10)
              have HZb := hide hzb
              have HVb := hide hvb
              have HZbl := hide hzbl
              have hs810 : w8.heap.size ≤ w10.heap.size := hb10.size
              have hfn := funcNotNil zb
              have hfg := funcGuard zb
              unfold allV
              clear hzb hvb hzbl hb10 HAl8 HE8 HA8 HBw8
              go_wp2
              clear hfn hfg
              have HDl3 : Hid (∀ D ∈ [D2, D1], D < w10.heap.size) := hide (fun D hD => (Array.getElem?_eq_some_iff.1 (HA10.out D hD)).1)
              refine (wpIn_wide (n := 5)).1 ?_
              refine wpIn_rangeFit rfl (by omega) (gf := 34) (lb := #[.pointer (some ⟨zb, 0, none⟩)]) rfl trivial (enters_of Try.func34 (by kernel_rfl) rfl) (all_fit (5 - 1) w10 zb w8.heap.size vb' xs HZb.out HZbl.out HVb.out) (Below.refl _ _) (Nat.le_refl _) (fun _ => rfl) (allFit_put xs)
                (fun _ W => GE w7.heap.size W w7.heap.size (w7.heap.size + 1) vl2 (0 + N + N) lvs2 ys2 ∧ AllD [D2, D1] W ∧ Below w.heap.size w W) (fun c _ W => c = Code.exit 8 ∧ GE w7.heap.size W w7.heap.size (w7.heap.size + 1) vl2 (0 + N + N) lvs2 ys2 ∧ AllD [D2, D1] W ∧ Below w.heap.size w W)
                (OwnFrom.and GE.ownFrom (OwnFrom.and (AllD.ownFrom HDl3.out) (ownFrom_below (Nat.le_refl _) HB10.out.size)))
                (fun c => OwnFrom.and (fun _ _ _ _ hs _ _ => hs) (OwnFrom.and GE.ownFrom (OwnFrom.and (AllD.ownFrom HDl3.out) (ownFrom_below (Nat.le_refl _) HB10.out.size)))) ⟨HE10.out, HA10.out, HB10.out⟩ ?round3 ?done3 ?stop3
              case round3 =>
                rintro l pre x Wp W ⟨hE, hA, hB⟩ hbW _
                have hE' := hE.below hbW
                have hA' := hA.below hbW
                have hB' := Below.step hB hbW
                refine ⟨?aa3, ?asg3, ?bd3⟩
                case asg3 =>
                  intro W0 K hK
                  refine wpIn_skip ?_
                  exact hK
                case bd3 =>
                  refine wpIn_block (wpIn_exit ?_)
                  exact ⟨KeepsOthers.refl _, rfl, hE', hA', hB'⟩
              case done3 =>
                rintro D3 rs W hD3 - ⟨hE, hA, hB⟩ hK
                obtain ⟨n2, hn2⟩ : ∃ n2, n2 = 0 + N + N := ⟨_, rfl⟩
                rw [← hn2] at hE
                have hn2b : n2 ≤ 300000 := by omega
                clear hn2
                obtain ⟨al, cl, rfl⟩ := row_form hE.lists
                obtain ⟨R, hLR⟩ := hE.lrow
                have hc12 : W.cell? ⟨w7.heap.size, 0, none⟩ = some (.bool true) := hE.okb.cell 0
                have hc13 : W.cell? ⟨w7.heap.size + 1, 0, none⟩ = some (.slice al n2 cl) := hE.lbox.cell 0
                have HOwn := hide (own_keeps W w7.heap.size R n2 al cl lvs2 ys2 (fun i => (ys2 i).length) (fun _ _ => rfl) hE.ls hLR (Nat.le_of_lt hE.okb.lt) (by omega) (fun i hi => Nat.le_trans (hE.len i hi) (by omega)))
                have HAW : Hid (AllD [D3, D2, D1] W) := hide (fun D hD => by
                  rcases List.mem_cons.1 hD with e | e
                  · rw [e]; exact hK
                  · exact hA D e)
                have HBW := hide hB
                have HD3 : Hid (∀ D ∈ [D2, D1], D ≠ D3) := hide (fun D hD => by have := HDl3.out D hD; omega)
                have HD3w : Hid (w.heap.size ≤ D3) := hide (by have := HB10.out.size; omega)
                have HW7s : Hid (w.heap.size ≤ w7.heap.size) := hide HG7.out.size
                clear hE hA hB hK hLR hD3 HE10 HA10 HDl3
                go_wp2_with fail
                refine HOwn.out.mono ?_
                rintro e w11 ⟨rfl, hb11, hk11⟩
                have HB11 := hide (HBW.out.trans (hb11.mono HW7s.out))
                have HA11 := hide (HAW.out.keep hk11)
                clear hb11 hk11 HBW HAW hc12 hc13
                go_wp2
                exact leave3 rfl HA11.out (HDn2.out D1 (by simp)) (HD3.out D1 (by simp)) (HD3.out D2 (by simp)) rfl HB11.out HDw1.out HDw2.out HD3w.out
              case stop3 =>
                rintro D3 c pre W hD3 ⟨rfl, hE, hA, hB⟩ hK
                obtain ⟨n2, hn2⟩ : ∃ n2, n2 = 0 + N + N := ⟨_, rfl⟩
                rw [← hn2] at hE
                have hn2b : n2 ≤ 300000 := by omega
                clear hn2
                obtain ⟨al, cl, rfl⟩ := row_form hE.lists
                obtain ⟨R, hLR⟩ := hE.lrow
                have hc12 : W.cell? ⟨w7.heap.size, 0, none⟩ = some (.bool true) := hE.okb.cell 0
                have hc13 : W.cell? ⟨w7.heap.size + 1, 0, none⟩ = some (.slice al n2 cl) := hE.lbox.cell 0
                have HOwn := hide (own_keeps W w7.heap.size R n2 al cl lvs2 ys2 (fun i => (ys2 i).length) (fun _ _ => rfl) hE.ls hLR (Nat.le_of_lt hE.okb.lt) (by omega) (fun i hi => Nat.le_trans (hE.len i hi) (by omega)))
                have HAW : Hid (AllD [D3, D2, D1] W) := hide (fun D hD => by
                  rcases List.mem_cons.1 hD with e | e
                  · rw [e]; exact hK
                  · exact hA D e)
                have HBW := hide hB
                have HD3 : Hid (∀ D ∈ [D2, D1], D ≠ D3) := hide (fun D hD => by have := HDl3.out D hD; omega)
                have HD3w : Hid (w.heap.size ≤ D3) := hide (by have := HB10.out.size; omega)
                have HW7s : Hid (w.heap.size ≤ w7.heap.size) := hide HG7.out.size
                clear hE hA hB hK hLR hD3 HE10 HA10 HDl3
                refine wpIn_exit (inBlock_exit 8 ?_)
                go_wp2_with fail
                refine HOwn.out.mono ?_
                rintro e w11 ⟨rfl, hb11, hk11⟩
                have HB11 := hide (HBW.out.trans (hb11.mono HW7s.out))
                have HA11 := hide (HAW.out.keep hk11)
                clear hb11 hk11 HBW HAW hc12 hc13
                go_wp2
                exact leave3 rfl HA11.out (HDn2.out D1 (by simp)) (HD3.out D1 (by simp)) (HD3.out D2 (by simp)) rfl HB11.out HDw1.out HDw2.out HD3w.out
        case stop2 =>
          rintro D c pre W _ h _
          exact h.elim
      case stop1 =>
        rintro D c pre W _ h _
        exact h.elim
end Go.Proofs.Ytbnedlcldfpfdaa
