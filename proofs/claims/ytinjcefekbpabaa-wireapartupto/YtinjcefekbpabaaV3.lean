/- WireApart: the walk. -/
import Derived.Test.YtinjcefekbpabaaV2
namespace Go.Proofs.Ytinjcefekbpabaa
set_option linter.unusedVariables false
set_option linter.unusedSimpArgs false
open Go.RowKit

theorem own_formB {w : World} {base : Nat} {v : Value} {n : Nat} {ys : List Value} {e : TypeId} (h : w.ownsRow base e 1 v n ys) : ∃ ao cap, v = .slice ao n cap ∧ (0 < n → ∃ g, ao = some ⟨g, 0, none⟩) := by
  obtain ⟨_, ⟨rfl, rfl⟩ | ⟨g, cap, cur, rfl, _⟩⟩ := h
  · exact ⟨none, 0, rfl, fun h => absurd h (by omega)⟩
  · exact ⟨_, cap, rfl, fun _ => ⟨g, rfl⟩⟩
theorem u8_allB (xs : List UInt8) : ∀ y ∈ xs.map u8c, ∃ q, y = .int .u8 q := by
  intro y hy; obtain ⟨u, _, rfl⟩ := List.mem_map.1 hy; exact ⟨_, rfl⟩

set_option maxRecDepth 20000 in
set_option maxHeartbeats 6400000 in
theorem wireApart_any (w : World) (aa ab ac : Option Addr) (ca cb cc : Nat) (ra rb rc : List AddR) (hA : AddsR w aa ra) (hB : AddsR w ab rb) (hC : AddsR w ac rc) (hb : totR ra + totR rb + totR rc ≤ 1099511627776) :
    Calls Try.prog 7 #[.slice aa ra.length ca, .slice ab rb.length cb, .slice ac rc.length cc] w fun e w' => e = .returned (.bool true) ∧ Below w.heap.size w w' := by
  have KA := hide hA.at
  have KB := hide hB.at
  have KC := hide hC.at
  have hna : ra.length ≤ 9223372036854775807 := hA.1
  have hnb : rb.length ≤ 9223372036854775807 := hB.1
  have hnc : rc.length ≤ 9223372036854775807 := hC.1
  have H1 := hide (W1.start w w.heap.size)
  have HB0 : Hid (Below w.heap.size w (w.alloc (.cells Try.zeroCells27 27))) := hide ((Below.refl _ _).alloc (Nat.le_refl _) _)
  clear hA hB hC
  obtain ⟨na, ha⟩ : ∃ n, ra.length = n := ⟨_, rfl⟩
  obtain ⟨nb, hbb⟩ : ∃ n, rb.length = n := ⟨_, rfl⟩
  obtain ⟨nc, hc⟩ : ∃ n, rc.length = n := ⟨_, rfl⟩
  rw [ha] at hna ⊢
  rw [hbb] at hnb ⊢
  rw [hc] at hnc ⊢
  go_enter Try.func7, Try.ntmps7
  go_wp2_with fail
  obtain ⟨z, hz⟩ : ∃ z, w.heap.size = z := ⟨_, rfl⟩
  have HZ := hide hz
  generalize hX0 : (fun b => b = w.heap.size) = X0 at H1
  rw [hz] at H1 ⊢
  clear hz hX0
  go_loopw [8, 11] (fun sl i wr => ∃ (va : Value) (k : Nat) (X : Nat → Prop), va = sl ∧ i = .int .i64 k ∧ k ≤ na ∧ W1 z wr X z (catB (ra.take k)) va (catB (ra.take k)) ∧ Below w.heap.size w wr) (fun _ i _ => na - (intOf i).toNat)
  case atStart => exact ⟨_, 0, X0, rfl, rfl, Nat.zero_le _, by simpa [catB] using H1.out, HB0.out⟩
  case round =>
    obtain ⟨va, k, X, rfl, rfl, hk, hw1, hbw⟩ := hrel
    have HW := hide hw1
    have HB := hide hbw
    clear hw1 hbw
    by_cases hlt : k < na
    · obtain ⟨aB, ao, cs, bv, rfl, hab, hai, hr, hbv⟩ := KA.out k (by omega)
      have HR := hide (rangeAt_below hr HB.out hab)
      have HSZ := hide hai.size
      have htot := KA.out.tot1 k (by omega)
      have HP := hide (put_enc wr X z (catB (ra.take k)) cs bv ra[k] (hai.below HB.out) HW.out.e1 (fun b o l c e hc => by have := hbv b o l c e hc; have := HZ.out; omega) (by omega))
      have HN := hide (catB_next ra k (by omega))
      have HL := hide (fun W hb => laid_st W cs bv ra[k] (hai.below hb) (by omega))
      have HR0 := hide (fun W hb => rangeAt_below (w' := W) hr hb hab)
      have hadd := addB_le ra[k] hai.kl
      have HLEN : Hid ((catB (ra.take k)).length + (addB ra[k]).length ≤ 140737488355000) := hide (by omega)
      clear hai hr hbv htot hadd
      generalize addB ra[k] = yk at HP HN HL HLEN
      generalize catB (ra.take k) = xk at HP HN HW HLEN
      go_wp2_with ((with_reducible refine wpList_load_add ?_ (.tmp 26) ?_ aB (ao + k * 36) ?_ cs HR.out HSZ.out ?_); rfl; rfl; rfl)
      refine (HP.out).mono ?_
      rintro e w2 ⟨rfl, h1, h2⟩
      have HW2 := hide (HW.out.put h1 h2)
      have HB2 : Hid (Below w.heap.size w w2) := hide (HB.out.trans (below_grownBy h2 (by have := HZ.out; omega) HB.out.size))
      have HR2 := hide (HR0.out w2 HB2.out)
      have HL2 := hide (HL.out w2 HB2.out)
      clear h1 h2 HP HR HL HR0
      go_wp2_with ((with_reducible refine wpList_load_add ?_ (.tmp 32) ?_ aB (ao + k * 36) ?_ cs HR2.out HSZ.out ?_); rfl; rfl; rfl)
      refine (HL2.out).mono ?_
      rintro e w3 ⟨u, rfl, ho3, hb3⟩
      have HW3 := hide (HW2.out.below hb3)
      have HB3 : Hid (Below w.heap.size w w3) := hide (HB2.out.trans (hb3.mono HB2.out.size))
      have HU : Hid (RdA w3 u yk) := hide (.inl (Rd_owned ho3))
      clear ho3 hb3 HL2 HR2
      go_wp2_with (at_builtin; refine wpList_append_rdX rfl _ _ rfl z _ u xk yk rfl HW3.out.ra rfl HU.out HLEN.out ?c2 ?_)
      case c2 => have := HB3.out.size; have := HZ.out; omega
      intro v' w4 ho4 hg4 hl4
      have HW4 := hide (HW3.out.row ho4.out hg4.out hl4.out)
      have HB4 : Hid (Below w.heap.size w w4) := hide (row_below HB3.out (HZ.out ▸ HW3.out.ra) hg4.out HB3.out.size)
      clear ho4 hg4 hl4
      go_wp2
      go_roundw
      case rel => exact ⟨_, k + 1, _, rfl, by go_num, by omega, by rw [HN.out]; exact HW4.out, HB4.out⟩
      case measure => simp [intOf]; omega
    · obtain rfl : k = na := by omega
      have HWF : Hid (W1 z wr X z (catB ra) va (catB ra)) := hide (by have := HW.out; rwa [← ha, List.take_length] at this)
      have hla := KA.out.tot k
      rw [← ha, List.take_length] at hla
      generalize catB ra = xa at HWF hla
      clear HW
      obtain ⟨cs, hcs, hone, hblk, hcopy⟩ := HWF.out.e1.cells
      have HBK := hide hblk
      have HCP := hide hcopy
      have HCS := hide hcs
      have HON := hide hone
      clear hcs hone hblk hcopy
      go_wp2_with (first | ((with_reducible refine wpList_load_enc ?_ (.tmp 7) ?_ z ?_ cs 27 HBK.out HCS.out ?_); rfl; rfl; rfl) | (refine wpList_store_blk rfl 27 (.tmp 12) (.tmp 36) rfl wr.heap.size 258 Try.zeroCells27 cs 27 HCS.out zeroEnc_size rfl rfl (Blk.made wr _ _) infoEnc HON.out ?_))
      intro w2 hk2 hg2
      have hba : Below wr.heap.size wr w2 := ((Below.refl _ _).alloc (Nat.le_refl _) _).trans (below_grownBy hg2 (Nat.le_refl _) (by simp))
      have HW2 := hide (HWF.out.copy wr.heap.size (Nat.le_refl _) hba (HCP.out w2 wr.heap.size (Nat.le_refl _) hk2.lt hba hk2))
      have HB2 : Hid (Below w.heap.size w w2) := hide (HB.out.trans (hba.mono HB.out.size))
      have HZL : Hid (w.heap.size ≤ z) := hide (by have := HZ.out; omega)
      have HZ2' : Hid (w.heap.size ≤ wr.heap.size) := hide HB.out.size
      clear hk2 hg2 hba HCP HBK HCS HON HWF
      obtain ⟨z2, hz2⟩ : ∃ z2, wr.heap.size = z2 := ⟨_, rfl⟩
      generalize hX2 : (fun b => X b ∨ b = wr.heap.size) = X2 at HW2
      rw [hz2] at HW2 HZ2' ⊢
      have HZ2 := HZ2'
      clear hz2 hX2 HZ2' HB HB0 H1
      go_wp2_with fail
      go_loopw [9, 10, 13] (fun s1 s2 i wq => ∃ (v1 v2 : Value) (k : Nat) (X : Nat → Prop), v1 = s1 ∧ v2 = s2 ∧ i = .int .i64 k ∧ (k ≤ nb ∨ k ≤ nc) ∧ WP z wq X z z2 (xa ++ catB (rb.take k)) (xa ++ catB (rc.take k)) va xa v1 (catB (rb.take k)) v2 (catB (rc.take k)) ∧ Below w.heap.size w wq) (fun _ _ i _ => (nb + nc) - (intOf i).toNat)
      case atStart => exact ⟨_, _, 0, X2, rfl, rfl, rfl, .inl (Nat.zero_le _), by simpa [catB] using HW2.out, HB2.out⟩
      case round =>
        obtain ⟨v1, v2, k, X, rfl, rfl, rfl, hk, hwk, hbw⟩ := hrel
        have HWk := hide hwk
        have HBk := hide hbw
        clear hwk hbw HW2 HB2
        by_cases h1 : k < nb
        · by_cases h2 : k < nc
          · skip
            obtain ⟨aBb, aob, csb, bvb, rfl, habb, haib, hrb, hbvb⟩ := KB.out k (by omega)
            have HSZb := hide haib.size
            have htotb := KB.out.tot1 k (by omega)
            have HPFb := hide (fun W X' (h : EncSt W X' z (xa ++ catB (rb.take k))) hb => put_enc W X' z (xa ++ catB (rb.take k)) csb bvb rb[k] (haib.below hb) h (fun b o l c e hc => by have := hbvb b o l c e hc; have := HZL.out; omega) (by rw [List.length_append]; omega))
            have HNb := hide (catB_next rb k (by omega))
            have HLb := hide (fun W hb => laid_st W csb bvb rb[k] (haib.below hb) (by omega))
            have HR0b := hide (fun W hb => rangeAt_below (w' := W) hrb hb habb)
            have haddb := addB_le rb[k] haib.kl
            have HLENb : Hid ((catB (rb.take k)).length + (addB rb[k]).length ≤ 140737488355000) := hide (by omega)
            clear haib hrb hbvb htotb haddb
            generalize addB rb[k] = yb at HPFb HNb HLb HLENb
            generalize catB (rb.take k) = xb at HPFb HNb HLENb HWk
            obtain ⟨aBc, aoc, csc, bvc, rfl, habc, haic, hrc, hbvc⟩ := KC.out k (by omega)
            have HSZc := hide haic.size
            have htotc := KC.out.tot1 k (by omega)
            have HPFc := hide (fun W X' (h : EncSt W X' z2 (xa ++ catB (rc.take k))) hb => put_enc W X' z2 (xa ++ catB (rc.take k)) csc bvc rc[k] (haic.below hb) h (fun b o l c e hc => by have := hbvc b o l c e hc; have := HZ2.out; omega) (by rw [List.length_append]; omega))
            have HNc := hide (catB_next rc k (by omega))
            have HLc := hide (fun W hb => laid_st W csc bvc rc[k] (haic.below hb) (by omega))
            have HR0c := hide (fun W hb => rangeAt_below (w' := W) hrc hb habc)
            have haddc := addB_le rc[k] haic.kl
            have HLENc : Hid ((catB (rc.take k)).length + (addB rc[k]).length ≤ 140737488355000) := hide (by omega)
            clear haic hrc hbvc htotc haddc
            generalize addB rc[k] = yc at HPFc HNc HLc HLENc
            generalize catB (rc.take k) = xc at HPFc HNc HLENc HWk
            have HRb := hide (HR0b.out _ HBk.out)
            have HPb := hide (HPFb.out _ _ (HWk.out.e1) HBk.out)
            go_wp2_with ((with_reducible refine wpList_load_add ?_ (.tmp 55) ?_ aBb (aob + k * 36) ?_ csb HRb.out HSZb.out ?_); rfl; rfl; rfl)
            refine (HPb.out).mono ?_
            rintro e u2b ⟨rfl, h1, h2⟩
            have HW2b := hide (HWk.out.put1 h1 h2)
            have HB2b : Hid (Below w.heap.size w u2b) := hide (HBk.out.trans (below_grownBy h2 HZL.out HBk.out.size))
            have HR2b := hide (HR0b.out _ HB2b.out)
            have HL2b := hide (HLb.out _ HB2b.out)
            clear h1 h2 HPb HRb
            go_wp2_with ((with_reducible refine wpList_load_add ?_ (.tmp 61) ?_ aBb (aob + k * 36) ?_ csb HR2b.out HSZb.out ?_); rfl; rfl; rfl)
            refine (HL2b.out).mono ?_
            rintro e u3b ⟨ub, rfl, ho3, hb3⟩
            have HW3b := hide (HW2b.out.below hb3)
            have HB3b : Hid (Below w.heap.size w u3b) := hide (HB2b.out.trans (hb3.mono HB2b.out.size))
            have HUb : Hid (RdA u3b ub yb) := hide (.inl (Rd_owned ho3))
            clear ho3 hb3 HL2b HR2b
            go_wp2_with (at_builtin; refine wpList_append_rdX rfl _ _ rfl z _ ub xb yb rfl HW3b.out.r1 rfl HUb.out HLENb.out ?c2 ?_)
            case c2 => have := HB3b.out.size; have := HZ.out; omega
            intro vb' u4b ho4 hg4 hl4
            have HW4b := hide (HW3b.out.row1 ho4.out hg4.out hl4.out)
            have HB4b : Hid (Below w.heap.size w u4b) := hide (row_below HB3b.out (HZ.out ▸ HW3b.out.r1) hg4.out HB3b.out.size)
            clear ho4 hg4 hl4 HW2b HW3b HB2b HB3b HUb
            have HRc := hide (HR0c.out _ HB4b.out)
            have HPc := hide (HPFc.out _ _ (HW4b.out.e2) HB4b.out)
            go_wp2_with ((with_reducible refine wpList_load_add ?_ (.tmp 71) ?_ aBc (aoc + k * 36) ?_ csc HRc.out HSZc.out ?_); rfl; rfl; rfl)
            refine (HPc.out).mono ?_
            rintro e u2c ⟨rfl, h1, h2⟩
            have HW2c := hide (HW4b.out.put2 h1 h2)
            have HB2c : Hid (Below w.heap.size w u2c) := hide (HB4b.out.trans (below_grownBy h2 HZ2.out HB4b.out.size))
            have HR2c := hide (HR0c.out _ HB2c.out)
            have HL2c := hide (HLc.out _ HB2c.out)
            clear h1 h2 HPc HRc
            go_wp2_with ((with_reducible refine wpList_load_add ?_ (.tmp 77) ?_ aBc (aoc + k * 36) ?_ csc HR2c.out HSZc.out ?_); rfl; rfl; rfl)
            refine (HL2c.out).mono ?_
            rintro e u3c ⟨uc, rfl, ho3, hb3⟩
            have HW3c := hide (HW2c.out.below hb3)
            have HB3c : Hid (Below w.heap.size w u3c) := hide (HB2c.out.trans (hb3.mono HB2c.out.size))
            have HUc : Hid (RdA u3c uc yc) := hide (.inl (Rd_owned ho3))
            clear ho3 hb3 HL2c HR2c
            go_wp2_with (at_builtin; refine wpList_append_rdX rfl _ _ rfl z _ uc xc yc rfl HW3c.out.r2 rfl HUc.out HLENc.out ?c2 ?_)
            case c2 => have := HB3c.out.size; have := HZ.out; omega
            intro vc' u4c ho4 hg4 hl4
            have HW4c := hide (HW3c.out.row2 ho4.out hg4.out hl4.out)
            have HB4c : Hid (Below w.heap.size w u4c) := hide (row_below HB3c.out (HZ.out ▸ HW3c.out.r2) hg4.out HB3c.out.size)
            clear ho4 hg4 hl4 HW2c HW3c HB2c HB3c HUc
            go_wp2
            go_roundw
            case rel => exact ⟨_, _, k + 1, _, rfl, rfl, by go_num, by omega, by rw [HNb.out, HNc.out]; simpa only [List.append_assoc] using HW4c.out, HB4c.out⟩
            case measure => simp [intOf]; omega
          · skip
            obtain ⟨aBb, aob, csb, bvb, rfl, habb, haib, hrb, hbvb⟩ := KB.out k (by omega)
            have HSZb := hide haib.size
            have htotb := KB.out.tot1 k (by omega)
            have HPFb := hide (fun W X' (h : EncSt W X' z (xa ++ catB (rb.take k))) hb => put_enc W X' z (xa ++ catB (rb.take k)) csb bvb rb[k] (haib.below hb) h (fun b o l c e hc => by have := hbvb b o l c e hc; have := HZL.out; omega) (by rw [List.length_append]; omega))
            have HNb := hide (catB_next rb k (by omega))
            have HLb := hide (fun W hb => laid_st W csb bvb rb[k] (haib.below hb) (by omega))
            have HR0b := hide (fun W hb => rangeAt_below (w' := W) hrb hb habb)
            have haddb := addB_le rb[k] haib.kl
            have HLENb : Hid ((catB (rb.take k)).length + (addB rb[k]).length ≤ 140737488355000) := hide (by omega)
            clear haib hrb hbvb htotb haddb
            generalize addB rb[k] = yb at HPFb HNb HLb HLENb
            generalize catB (rb.take k) = xb at HPFb HNb HLENb HWk
            have HNc : Hid (catB (rc.take (k + 1)) = catB (rc.take k)) := hide (by rw [List.take_of_length_le (by omega), List.take_of_length_le (by omega)])
            generalize catB (rc.take k) = xc at HNc HWk
            have HRb := hide (HR0b.out _ HBk.out)
            have HPb := hide (HPFb.out _ _ (HWk.out.e1) HBk.out)
            go_wp2_with ((with_reducible refine wpList_load_add ?_ (.tmp 55) ?_ aBb (aob + k * 36) ?_ csb HRb.out HSZb.out ?_); rfl; rfl; rfl)
            refine (HPb.out).mono ?_
            rintro e u2b ⟨rfl, h1, h2⟩
            have HW2b := hide (HWk.out.put1 h1 h2)
            have HB2b : Hid (Below w.heap.size w u2b) := hide (HBk.out.trans (below_grownBy h2 HZL.out HBk.out.size))
            have HR2b := hide (HR0b.out _ HB2b.out)
            have HL2b := hide (HLb.out _ HB2b.out)
            clear h1 h2 HPb HRb
            go_wp2_with ((with_reducible refine wpList_load_add ?_ (.tmp 61) ?_ aBb (aob + k * 36) ?_ csb HR2b.out HSZb.out ?_); rfl; rfl; rfl)
            refine (HL2b.out).mono ?_
            rintro e u3b ⟨ub, rfl, ho3, hb3⟩
            have HW3b := hide (HW2b.out.below hb3)
            have HB3b : Hid (Below w.heap.size w u3b) := hide (HB2b.out.trans (hb3.mono HB2b.out.size))
            have HUb : Hid (RdA u3b ub yb) := hide (.inl (Rd_owned ho3))
            clear ho3 hb3 HL2b HR2b
            go_wp2_with (at_builtin; refine wpList_append_rdX rfl _ _ rfl z _ ub xb yb rfl HW3b.out.r1 rfl HUb.out HLENb.out ?c2 ?_)
            case c2 => have := HB3b.out.size; have := HZ.out; omega
            intro vb' u4b ho4 hg4 hl4
            have HW4b := hide (HW3b.out.row1 ho4.out hg4.out hl4.out)
            have HB4b : Hid (Below w.heap.size w u4b) := hide (row_below HB3b.out (HZ.out ▸ HW3b.out.r1) hg4.out HB3b.out.size)
            clear ho4 hg4 hl4 HW2b HW3b HB2b HB3b HUb
            go_wp2
            go_roundw
            case rel => exact ⟨_, _, k + 1, _, rfl, rfl, by go_num, by omega, by rw [HNb.out, HNc.out]; simpa only [List.append_assoc] using HW4b.out, HB4b.out⟩
            case measure => simp [intOf]; omega
        · by_cases h2 : k < nc
          · skip
            obtain ⟨aBc, aoc, csc, bvc, rfl, habc, haic, hrc, hbvc⟩ := KC.out k (by omega)
            have HSZc := hide haic.size
            have htotc := KC.out.tot1 k (by omega)
            have HPFc := hide (fun W X' (h : EncSt W X' z2 (xa ++ catB (rc.take k))) hb => put_enc W X' z2 (xa ++ catB (rc.take k)) csc bvc rc[k] (haic.below hb) h (fun b o l c e hc => by have := hbvc b o l c e hc; have := HZ2.out; omega) (by rw [List.length_append]; omega))
            have HNc := hide (catB_next rc k (by omega))
            have HLc := hide (fun W hb => laid_st W csc bvc rc[k] (haic.below hb) (by omega))
            have HR0c := hide (fun W hb => rangeAt_below (w' := W) hrc hb habc)
            have haddc := addB_le rc[k] haic.kl
            have HLENc : Hid ((catB (rc.take k)).length + (addB rc[k]).length ≤ 140737488355000) := hide (by omega)
            clear haic hrc hbvc htotc haddc
            generalize addB rc[k] = yc at HPFc HNc HLc HLENc
            generalize catB (rc.take k) = xc at HPFc HNc HLENc HWk
            have HNb : Hid (catB (rb.take (k + 1)) = catB (rb.take k)) := hide (by rw [List.take_of_length_le (by omega), List.take_of_length_le (by omega)])
            generalize catB (rb.take k) = xb at HNb HWk
            have HRc := hide (HR0c.out _ HBk.out)
            have HPc := hide (HPFc.out _ _ (HWk.out.e2) HBk.out)
            go_wp2_with ((with_reducible refine wpList_load_add ?_ (.tmp 71) ?_ aBc (aoc + k * 36) ?_ csc HRc.out HSZc.out ?_); rfl; rfl; rfl)
            refine (HPc.out).mono ?_
            rintro e u2c ⟨rfl, h1, h2⟩
            have HW2c := hide (HWk.out.put2 h1 h2)
            have HB2c : Hid (Below w.heap.size w u2c) := hide (HBk.out.trans (below_grownBy h2 HZ2.out HBk.out.size))
            have HR2c := hide (HR0c.out _ HB2c.out)
            have HL2c := hide (HLc.out _ HB2c.out)
            clear h1 h2 HPc HRc
            go_wp2_with ((with_reducible refine wpList_load_add ?_ (.tmp 77) ?_ aBc (aoc + k * 36) ?_ csc HR2c.out HSZc.out ?_); rfl; rfl; rfl)
            refine (HL2c.out).mono ?_
            rintro e u3c ⟨uc, rfl, ho3, hb3⟩
            have HW3c := hide (HW2c.out.below hb3)
            have HB3c : Hid (Below w.heap.size w u3c) := hide (HB2c.out.trans (hb3.mono HB2c.out.size))
            have HUc : Hid (RdA u3c uc yc) := hide (.inl (Rd_owned ho3))
            clear ho3 hb3 HL2c HR2c
            go_wp2_with (at_builtin; refine wpList_append_rdX rfl _ _ rfl z _ uc xc yc rfl HW3c.out.r2 rfl HUc.out HLENc.out ?c2 ?_)
            case c2 => have := HB3c.out.size; have := HZ.out; omega
            intro vc' u4c ho4 hg4 hl4
            have HW4c := hide (HW3c.out.row2 ho4.out hg4.out hl4.out)
            have HB4c : Hid (Below w.heap.size w u4c) := hide (row_below HB3c.out (HZ.out ▸ HW3c.out.r2) hg4.out HB3c.out.size)
            clear ho4 hg4 hl4 HW2c HW3c HB2c HB3c HUc
            go_wp2
            go_roundw
            case rel => exact ⟨_, _, k + 1, _, rfl, rfl, by go_num, by omega, by rw [HNb.out, HNc.out]; simpa only [List.append_assoc] using HW4c.out, HB4c.out⟩
            case measure => simp [intOf]; omega
          · obtain ⟨wp, rfl⟩ : ∃ w0, w0 = wr := ⟨_, rfl⟩
            have hx1 : (xa ++ catB rb).length ≤ 1099511627776 := by
              have := KB.out.tot nb
              rw [← hbb, List.take_length] at this
              rw [List.length_append]; omega
            have hx2 : (xa ++ catB rc).length ≤ 1099511627776 := by
              have := KC.out.tot nc
              rw [← hc, List.take_length] at this
              rw [List.length_append]; omega
            rw [List.take_of_length_le (by omega : rb.length ≤ k), List.take_of_length_le (by omega : rc.length ≤ k)] at HWk
            generalize catB rb = xb at HWk hx1
            generalize catB rc = xc at HWk hx2
            have HX12 := hide (And.intro hx1 hx2)
            have HBY := hide (ebytes_enc wp X z (xa ++ xb) HWk.out.e1 (by omega))
            go_wp2_with fail
            refine (HBY.out).mono ?_
            rintro e w5 ⟨vb, rfl, hown5, hb5⟩
            have HO5 := hide hown5
            have HB5 := hide hb5
            have HBY2 := hide (ebytes_enc w5 X z2 (xa ++ xc) (HWk.out.e2.below hb5) (by omega))
            clear hown5 hb5 HBY
            go_wp2_with fail
            refine (HBY2.out).mono ?_
            rintro e w6 ⟨vc, rfl, hown6, hb6⟩
            have HO6 := hide hown6
            have HBB : Hid (Below wp.heap.size wp w6) := hide (HB5.out.trans (hb6.mono HB5.out.size))
            have HO56 : Hid (w6.ownsRow wp.heap.size 5 1 vb (xa ++ xb).length ((xa ++ xb).map u8c)) := hide (owns_below HO5.out hb6)
            have HW6 := hide (HWk.out.below HBB.out)
            have cvb := conv_rd w6 vb (xa ++ xb) (Rd_owned HO56.out)
            have cvc := conv_rd w6 vc (xa ++ xc) (Rd_owned hown6)
            have cva := conv_rd w6 va xa (Rd_owned HW6.out.ra)
            have cv1 := conv_rd w6 v1 xb (Rd_owned HW6.out.r1)
            have cv2 := conv_rd w6 v2 xc (Rd_owned HW6.out.r2)
            rw [← str_add] at cvb cvc
            obtain ⟨sa, hsa⟩ : ∃ s : ByteArray, s = ⟨xa.toArray⟩ := ⟨_, rfl⟩
            obtain ⟨s1, hs1⟩ : ∃ s : ByteArray, s = ⟨xb.toArray⟩ := ⟨_, rfl⟩
            obtain ⟨s2, hs2⟩ : ∃ s : ByteArray, s = ⟨xc.toArray⟩ := ⟨_, rfl⟩
            have q1 : ¬ 9223372036854775807 < sa.size + s1.size := by
              rw [hsa, hs1]; show ¬ 9223372036854775807 < xa.length + xb.length; rw [List.length_append] at hx1; omega
            have q2 : ¬ 9223372036854775807 < sa.size + s2.size := by
              rw [hsa, hs2]; show ¬ 9223372036854775807 < xa.length + xc.length; rw [List.length_append] at hx2; omega
            rw [← hsa] at cva cvb cvc
            rw [← hs1] at cv1 cvb
            rw [← hs2] at cv2 cvc
            obtain ⟨n, hn⟩ : ∃ n, (xa ++ xb).length = n := ⟨_, rfl⟩
            have hall := u8_allB (xa ++ xb)
            obtain ⟨ys0, hys⟩ : ∃ ys, (xa ++ xb).map u8c = ys := ⟨_, rfl⟩
            rw [hn, hys] at HO56
            rw [hys] at hall
            obtain ⟨ao, cap, rfl, hnn⟩ := own_formB HO56.out
            have HNN := hide hnn
            have HALL := hide hall
            have HAP : Hid (∀ g, ao = some ⟨g, 0, none⟩ → vc.ownBlock ≠ some g) := hide (fun g e e2 => by
              subst e
              have h1 := (owns_lt HO5.out g rfl).2
              have h2 := (owns_lt HO6.out g e2).1
              omega)
            have HLEN : Hid (n ≤ 1099511627776) := hide (by omega)
            have hn63 : n ≤ 9223372036854775807 := by omega
            clear hown6 hb6 HBY2 hsa hs1 hs2 hn hys hnn hall HO5 HB5 HW6
            go_wp2_with fail
            clear cva cvb cvc cv1 cv2 q1 q2
            go_loopw [16] (fun i wq => ∃ (k : Nat) (ys : List Value), i = .int .i64 k ∧ k ≤ n ∧ wq.ownsRow wp.heap.size 5 1 (.slice ao n cap) n ys ∧ (∀ y ∈ ys, ∃ q, y = .int .u8 q) ∧ OwnsB wq w5.heap.size vc (xa ++ xc) ∧ Below wp.heap.size wp wq) (fun i _ => n - (intOf i).toNat)
            case atStart => exact ⟨0, ys0, rfl, Nat.zero_le _, HO56.out, HALL.out, HO6.out, HBB.out⟩
            case round =>
              obtain ⟨k, ys, rfl, hk, hown, hall, hoc, hbq⟩ := hrel
              by_cases hlt : k < n
              · obtain ⟨g, rfl⟩ := HNN.out (by omega)
                obtain ⟨⟨q, hq⟩, hf, hbg⟩ := own_cell hown hall k hlt
                have HS := hide (own_set hown hall k hlt)
                have HOC := hide hoc
                have HBQ := hide hbq
                clear hown hall hoc hbq
                go_wp2
                go_roundw
                case rel =>
                  obtain ⟨ys2, h1, h2⟩ := HS.out _
                  exact ⟨k + 1, ys2, by go_num, by omega, h1, h2, owns_grown HOC.out (grownBy_set _ _ _ _) (fun g' e e2 => HAP.out g rfl (by rw [e, Option.some.inj e2])), HBQ.out.setCell hbg _⟩
                case measure => simp [intOf]; omega
              · have HO := hide hown
                have HOC := hide hoc
                have HBQ := hide hbq
                clear hown hall hoc hbq
                go_wp2_with fail
                go_loopw [14, 17] (fun sb i wq => ∃ (vb : Value) (k : Nat) (zs : List Value), vb = sb ∧ i = .int .i64 k ∧ k ≤ 80 ∧ wq.ownsRow wp.heap.size 5 1 vb (n + k) zs ∧ (∀ g, vb.ownBlock = some g → vc.ownBlock ≠ some g) ∧ OwnsB wq w5.heap.size vc (xa ++ xc) ∧ Below wp.heap.size wp wq) (fun _ i _ => 80 - (intOf i).toNat)
                case atStart => exact ⟨_, 0, ys, rfl, rfl, by omega, HO.out, (fun g e => by
                  cases ao with
                  | none => cases e
                  | some a =>
                    obtain ⟨b, o, s⟩ := a
                    rcases Nat.eq_zero_or_pos n with h0 | h0
                    · obtain ⟨_, ⟨h, _⟩ | ⟨g', cap', cur, h, _⟩⟩ := HO.out
                      · cases h
                      · cases h; cases e; exact HAP.out _ rfl
                    · obtain ⟨g', h⟩ := HNN.out h0
                      cases h; cases e; exact HAP.out _ rfl), HOC.out, HBQ.out⟩
                case round =>
                  obtain ⟨vb, k2, zs, rfl, rfl, hk2, hown, hap, hoc, hbq⟩ := hrel
                  have hsz := hbq.size
                  have hL := HLEN.out
                  by_cases hlt2 : k2 < 80
                  · obtain ⟨i0, hi, hz0, hz1, hz2⟩ := info_parts infoU8
                    go_wp2_with (at_builtin; refine wpList_append_own_at _ rfl _ _ 28 rfl _ 5 i0 (.int .u8 0) 1 1 Try.underlying28 hi hz0 hz1 hz2 rfl (by decide) _ _ _ rfl (hown.alloc _) ⟨wr.heap.size, 0, none⟩ 1 1 [.int .u8 238] rfl rfl (cell_one_new _ _ _) ?c2 ?c3 ?c4 ?c5 ?_)
                    case c2 => intro u hu; simp at hu; subst hu; rfl
                    case c3 => unfold maxLen; omega
                    case c4 => omega
                    case c5 => simp; omega
                    intro v' w7 hown' hgrow _ hat
                    have hb' := own_below (hbq.alloc hsz _) (hown.alloc _) (by simp; omega) hgrow
                    have hc' := owns_grown (owns_below hoc ((Below.refl _ _).alloc (Nat.le_refl _) _)) hgrow (fun g e e2 => hap g e2.symm e)
                    have hap' : ∀ g, v'.ownBlock = some g → vc.ownBlock ≠ some g := by
                      intro g e e2
                      rcases hat with e3 | e3
                      · exact hap g (e3 ▸ e) e2
                      · rw [e3] at e
                        have h1 := (owns_lt hoc g e2).2
                        have := Option.some.inj e
                        omega
                    clear hown hgrow hbq hoc hap hat
                    go_wp2
                    go_roundw
                    case rel => exact ⟨_, k2 + 1, _, rfl, by go_num, by omega, hown', hap', hc', hb'⟩
                    case measure => simp [intOf]; omega
                  · have HOC2 := hide hoc
                    have HBQ2 := hide hbq
                    clear hown hap hoc hbq
                    have HWF := hide (HWk.out.below HBQ2.out)
                    have hx12 := HX12.out
                    go_wp2_with fail
                    refine v30_walk _ (fun _ _ _ _ _ h => h) wr X z z2 xa xb xc va v1 v2 vc HWF.out.e1 HWF.out.e2 (by omega) (by omega) (.inl (Rd_owned HWF.out.ra)) (.inl (Rd_owned HWF.out.r1)) (.inl (Rd_owned HWF.out.r2)) (.inl (Rd_owned HOC2.out)) _ (Nat.lt_of_sub_pos (by exact Nat.succ_pos _)) rfl rfl rfl rfl rfl rfl ?_
                    intro vb9 v9 w9 hb9
                    simp only [Act.put, List.setIfInBounds_toArray, List.set_cons_zero, List.set_cons_succ]
                    go_wp2
                    go_ret
                    exact ⟨rfl, HBk.out.trans ((HBQ2.out.trans (hb9.mono HBQ2.out.size)).mono HBk.out.size)⟩
end Go.Proofs.Ytinjcefekbpabaa
