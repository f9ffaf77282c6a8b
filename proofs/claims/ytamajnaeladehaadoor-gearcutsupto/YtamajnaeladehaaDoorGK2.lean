/- GearCuts, walked. -/
import Derived.Test.YtamajnaeladehaaDoorGK3
namespace Go.Proofs.YtamajnaeladehaaDoor
set_option linter.unusedVariables false
set_option linter.unusedSimpArgs false
open Go.RowKit

set_option maxRecDepth 20000 in
set_option maxHeartbeats 8000000 in
theorem cuts_law (w : World) (hT : Tabs w) (mn me mx : Int) (dv : Value) (X : List UInt8) (hd : RdA w dv X) (h1 : X.length ≤ 17592186043000 - 100) :
    Calls Tryd.prog 3 #[askV mn me mx dv] w fun e w' => e = .returned (.bool true) ∧ Below w.heap.size w w' := by
  unfold askV
  obtain ⟨W0, hW0⟩ : ∃ W0, W0 = w.alloc (.cells #[.int .i64 mn, .int .i64 me, .int .i64 mx, dv] 26) := ⟨_, rfl⟩
  have HB00 : Hid (Below w.heap.size w W0) := hide (by rw [hW0]; exact (Below.refl w.heap.size w).alloc (Nat.le_refl _) _)
  have HA0 : Hid (AskAt W0 w.heap.size mn me mx dv) := hide (by rw [hW0]; exact Blk.made w _ _)
  have HS0 : Hid (W0.heap.size = w.heap.size + 1) := hide (by rw [hW0]; simp)
  have HT0 := hide (hT.below HB00.out hT.size)
  have HD0 := hide (hd.below HB00.out)
  obtain ⟨da, dc, rfl, hdl⟩ := hd.slice
  have HUP := hide (fun (w' : World) (hb : Below (w.heap.size + 1) W0 w') => (show Below W0.heap.size W0 w' from by rw [HS0.out]; exact hb))
  clear hT hd
  have hW0' : w.alloc (.cells #[.int .i64 mn, .int .i64 me, .int .i64 mx, .slice da X.length dc] 26) = W0 := hW0.symm
  have c0 : W0.cell? ⟨w.heap.size, 0, none⟩ = some (.int .i64 mn) := HA0.out.cell 0
  have c1 : W0.cell? ⟨w.heap.size, 1, none⟩ = some (.int .i64 me) := HA0.out.cell 1
  have c2 : W0.cell? ⟨w.heap.size, 2, none⟩ = some (.int .i64 mx) := HA0.out.cell 2
  have c3 : W0.cell? ⟨w.heap.size, 3, none⟩ = some (.slice da X.length dc) := HA0.out.cell 3
  clear hW0
  obtain ⟨fn, hfn⟩ : ∃ fn, fn = (firstP mn me mx X).1 := ⟨_, rfl⟩
  obtain ⟨ff, hff⟩ : ∃ ff, ff = (firstP mn me mx X).2 := ⟨_, rfl⟩
  have HPr : Hid (pairV (firstP mn me mx X) = .tuple #[.int .i64 (fn : Int), .bool ff]) := hide (by rw [hfn, hff]; rfl)
  obtain ⟨kd, hcc⟩ : ∃ kd, kd = chk mn me mx := ⟨_, rfl⟩
  obtain ⟨Wc, hWc⟩ : ∃ Wc, Wc = cutR mn me mx X := ⟨_, rfl⟩
  have HWc := hide hWc
  have HCc := hide hcc
  have HWl : Hid (Wc.length ≤ X.length) := hide (by
    rw [hWc]; unfold cutR
    split
    · rename_i hm; exact cutL_len hm _ X (Nat.le_refl _)
    · simp)
  clear hfn hff hcc hWc
  go_enter Tryd.func3, Tryd.ntmps3
  go_wp2_with fail
  refine (rfirst_any W0 mn me mx _ X HD0.out (by omega)).mono ?_
  rintro e w1 ⟨rfl, hb1⟩
  rw [HPr.out]
  rw [HS0.out] at hb1
  have HB1 := hide hb1
  have HA1 := hide (HA0.out.below hb1 (by omega))
  have HD1 := hide (HD0.out.below (HUP.out _ hb1))
  have hz1 : w.heap.size + 1 ≤ w1.heap.size := by have := hb1.size; rw [HS0.out] at this; exact this
  clear hb1 c0 c1 c2 c3
  have c0 : w1.cell? ⟨w.heap.size, 0, none⟩ = some (.int .i64 mn) := HA1.out.cell 0
  have c1 : w1.cell? ⟨w.heap.size, 1, none⟩ = some (.int .i64 me) := HA1.out.cell 1
  have c2 : w1.cell? ⟨w.heap.size, 2, none⟩ = some (.int .i64 mx) := HA1.out.cell 2
  have c3 : w1.cell? ⟨w.heap.size, 3, none⟩ = some (.slice da X.length dc) := HA1.out.cell 3
  go_wp2_with fail
  refine (rcut_any w1 mn me mx _ X HD1.out (by omega)).mono ?_
  rintro e w2 ⟨vw, rfl, hO2, hb2⟩
  rw [← HCc.out]
  rw [← HWc.out] at hO2
  have HOw2 := hide hO2
  have HB2 := hide (HB1.out.trans (hb2.mono hz1))
  have HA2 := hide (HA0.out.below HB2.out (by omega))
  have HD2 := hide (HD0.out.below (HUP.out _ HB2.out))
  have hz2 : w1.heap.size ≤ w2.heap.size := hb2.size
  obtain ⟨wa, wc, hvw, -⟩ := hO2.form
  obtain ⟨nl, hnl⟩ : ∃ nl, nl = Wc.length := ⟨_, rfl⟩
  rw [← hnl] at hvw
  subst hvw
  have HNl := hide hnl
  have hnlX : nl ≤ X.length := by rw [hnl]; exact HWl.out
  clear hb2 hO2 c0 c1 c2 c3 hnl HB1 HA1 HD1
  have c0 : w2.cell? ⟨w.heap.size, 0, none⟩ = some (.int .i64 mn) := HA2.out.cell 0
  have c1 : w2.cell? ⟨w.heap.size, 1, none⟩ = some (.int .i64 me) := HA2.out.cell 1
  have c2 : w2.cell? ⟨w.heap.size, 2, none⟩ = some (.int .i64 mx) := HA2.out.cell 2
  have c3 : w2.cell? ⟨w.heap.size, 3, none⟩ = some (.slice da X.length dc) := HA2.out.cell 3
  go_wp2_with fail
  refine (lent_any w2 _ X HD2.out (by omega)).mono ?_
  rintro e w3 ⟨g, cap, rfl, hO3, h80, hcap, hb3⟩
  have HOl3 := hide hO3
  have HB3 := hide (HB2.out.trans (hb3.mono (Nat.le_trans hz1 hz2)))
  have HA3 := hide (HA0.out.below HB3.out (by omega))
  have HOw3 := hide (HOw2.out.below hb3)
  have hz3 : w2.heap.size ≤ w3.heap.size := hb3.size
  clear hb3 hO3 c0 c1 c2 c3 HB2 HA2 HD2
  have HRl := hide (fun (w' : World) (B : Nat) (h : OwnsB w' B (.slice (some ⟨g, 0, none⟩) (X.length + 80) cap) (padL X 80)) => (show RdA w' (.slice (some ⟨g, 0, none⟩) X.length cap) X from .inl (by
    have := Rd.owned_take h (m := X.length) (c0 := cap) (by rw [padL_len]; omega) (by omega) (by unfold maxLen; omega)
    rwa [padL_take] at this)))
  have c0 : w3.cell? ⟨w.heap.size, 0, none⟩ = some (.int .i64 mn) := HA3.out.cell 0
  have c1 : w3.cell? ⟨w.heap.size, 1, none⟩ = some (.int .i64 me) := HA3.out.cell 1
  have c2 : w3.cell? ⟨w.heap.size, 2, none⟩ = some (.int .i64 mx) := HA3.out.cell 2
  have c3 : w3.cell? ⟨w.heap.size, 3, none⟩ = some (.slice da X.length dc) := HA3.out.cell 3
  go_wp2_with fail
  refine (first_any w3 (HT0.out.below (HUP.out _ HB3.out) HT0.out.size) mn me mx _ X (HRl.out _ _ HOl3.out)).mono ?_
  rintro e w4 ⟨rfl, hb4⟩
  rw [HPr.out]
  have HOl4 := hide (owns_below HOl3.out hb4)
  have HB4 := hide (HB3.out.trans (hb4.mono (by omega)))
  have HA4 := hide (HA0.out.below HB4.out (by omega))
  have HOw4 := hide (HOw3.out.below hb4)
  have hz4 : w3.heap.size ≤ w4.heap.size := hb4.size
  clear hb4 c0 c1 c2 c3 HB3 HA3
  have c0 : w4.cell? ⟨w.heap.size, 0, none⟩ = some (.int .i64 mn) := HA4.out.cell 0
  have c1 : w4.cell? ⟨w.heap.size, 1, none⟩ = some (.int .i64 me) := HA4.out.cell 1
  have c2 : w4.cell? ⟨w.heap.size, 2, none⟩ = some (.int .i64 mx) := HA4.out.cell 2
  have c3 : w4.cell? ⟨w.heap.size, 3, none⟩ = some (.slice da X.length dc) := HA4.out.cell 3
  go_wp2_with fail
  refine (cut_any w4 (HT0.out.below (HUP.out _ HB4.out) HT0.out.size) mn me mx _ X (HRl.out _ _ HOl4.out) (by omega)).mono ?_
  rintro e w5 ⟨va, rfl, hO, hb⟩
  rw [← HCc.out]
  rw [← HWc.out] at hO
  have HOa5 := hide hO
  have HOl5 := hide (owns_below HOl4.out hb)
  have HB5 := hide (HB4.out.trans (hb.mono (by omega)))
  have HA5 := hide (HA0.out.below HB5.out (by omega))
  have HOw5 := hide (HOw4.out.below hb)
  have hz5 : w4.heap.size ≤ w5.heap.size := hb.size
  obtain ⟨aa, ac, hvv, -⟩ := hO.form
  rw [← HNl.out] at hvv
  subst hvv
  clear hb hO c0 c1 c2 c3
  have c0 : w5.cell? ⟨w.heap.size, 0, none⟩ = some (.int .i64 mn) := HA5.out.cell 0
  have c1 : w5.cell? ⟨w.heap.size, 1, none⟩ = some (.int .i64 me) := HA5.out.cell 1
  have c2 : w5.cell? ⟨w.heap.size, 2, none⟩ = some (.int .i64 mx) := HA5.out.cell 2
  have c3 : w5.cell? ⟨w.heap.size, 3, none⟩ = some (.slice da X.length dc) := HA5.out.cell 3
  go_wp2_with fail
  refine (cut_any w5 (HT0.out.below (HUP.out _ HB5.out) HT0.out.size) mn me mx _ X (HRl.out _ _ HOl5.out) (by omega)).mono ?_
  rintro e w6 ⟨vb, rfl, hO, hb⟩
  rw [← HCc.out]
  rw [← HWc.out] at hO
  have HOb6 := hide hO
  have HOl6 := hide (owns_below HOl5.out hb)
  have HB6 := hide (HB5.out.trans (hb.mono (by omega)))
  have HA6 := hide (HA0.out.below HB6.out (by omega))
  have HOw6 := hide (HOw5.out.below hb)
  have HOa6 := hide (HOa5.out.below hb)
  have hz6 : w5.heap.size ≤ w6.heap.size := hb.size
  obtain ⟨ba, bc, hvv, -⟩ := hO.form
  rw [← HNl.out] at hvv
  subst hvv
  clear hb hO c0 c1 c2 c3
  have c0 : w6.cell? ⟨w.heap.size, 0, none⟩ = some (.int .i64 mn) := HA6.out.cell 0
  have c1 : w6.cell? ⟨w.heap.size, 1, none⟩ = some (.int .i64 me) := HA6.out.cell 1
  have c2 : w6.cell? ⟨w.heap.size, 2, none⟩ = some (.int .i64 mx) := HA6.out.cell 2
  have c3 : w6.cell? ⟨w.heap.size, 3, none⟩ = some (.slice da X.length dc) := HA6.out.cell 3
  go_wp2_with fail
  refine (cut_any w6 (HT0.out.below (HUP.out _ HB6.out) HT0.out.size) mn me mx _ X (HRl.out _ _ HOl6.out) (by omega)).mono ?_
  rintro e w7 ⟨vc, rfl, hO, hb⟩
  rw [← HCc.out]
  rw [← HWc.out] at hO
  have HOc7 := hide hO
  have HOl7 := hide (owns_below HOl6.out hb)
  have HB7 := hide (HB6.out.trans (hb.mono (by omega)))
  have HA7 := hide (HA0.out.below HB7.out (by omega))
  have HOw7 := hide (HOw6.out.below hb)
  have HOa7 := hide (HOa6.out.below hb)
  have HOb7 := hide (HOb6.out.below hb)
  have hz7 : w6.heap.size ≤ w7.heap.size := hb.size
  obtain ⟨ca, cc, hvv, -⟩ := hO.form
  rw [← HNl.out] at hvv
  subst hvv
  clear hb hO c0 c1 c2 c3
  have c0 : w7.cell? ⟨w.heap.size, 0, none⟩ = some (.int .i64 mn) := HA7.out.cell 0
  have c1 : w7.cell? ⟨w.heap.size, 1, none⟩ = some (.int .i64 me) := HA7.out.cell 1
  have c2 : w7.cell? ⟨w.heap.size, 2, none⟩ = some (.int .i64 mx) := HA7.out.cell 2
  have c3 : w7.cell? ⟨w.heap.size, 3, none⟩ = some (.slice da X.length dc) := HA7.out.cell 3
  have HIw7 := hide HOw7.out.rd
  have HIa7 := hide HOa7.out.rd
  have HIb7 := hide HOb7.out.rd
  have HIc7 := hide HOc7.out.rd
  have HD7 := hide (HD0.out.below (HUP.out _ HB7.out))
  go_wp2_with fail
  refine (sameInts_any w7 _ _ Wc HIa7.out HIw7.out).mono ?_
  rintro e w8 ⟨rfl, hb8⟩
  have HB78 := hide hb8
  clear hb8
  go_wp2_with fail
  refine (sameInts_any w8 _ _ Wc (HIb7.out.below HB78.out) (HIw7.out.below HB78.out)).mono ?_
  rintro e w9 ⟨rfl, hb9⟩
  have HB79 := hide (HB78.out.trans (hb9.mono HB78.out.size))
  clear hb9 HB78
  go_wp2_with fail
  refine (sameInts_any w9 _ _ Wc (HIc7.out.below HB79.out) (HIw7.out.below HB79.out)).mono ?_
  rintro e w10 ⟨rfl, hb10⟩
  have HB710 := hide (HB79.out.trans (hb10.mono HB79.out.size))
  have HA10 := hide (HA7.out.below HB710.out (by omega))
  clear hb10 HB79 c0 c1 c2 c3
  have c3 : w10.cell? ⟨w.heap.size, 3, none⟩ = some (.slice da X.length dc) := HA10.out.cell 3
  go_wp2_with fail
  refine (left_any w10 _ g cap _ X (owns_below HOl7.out HB710.out) (by omega) hcap (HD7.out.below HB710.out)).mono ?_
  rintro e wA ⟨rfl, hb11⟩
  have hbA : Below w7.heap.size w7 wA := HB710.out.trans (hb11.mono HB710.out.size)
  have HzA : Hid (w7.heap.size ≤ wA.heap.size) := hide hbA.size
  have HOwA := hide (HOw7.out.below hbA)
  have HOlA := hide (owns_below HOl7.out hbA)
  have HOaA := hide (HOa7.out.below hbA)
  have HObA := hide (HOb7.out.below hbA)
  have HOcA := hide (HOc7.out.below hbA)
  have HBA := hide (HB7.out.trans (hbA.mono (by omega)))
  have Lw : Hid (∀ g, Value.ownBlock (.slice wa nl wc) = some g → g < w2.heap.size) := hide (fun g e => (owns_lt HOw2.out g e).2)
  have Ll : Hid (w2.heap.size ≤ g ∧ g < w3.heap.size) := hide (owns_lt HOl3.out g rfl)
  have La : Hid (∀ g, Value.ownBlock (.slice aa nl ac) = some g → w4.heap.size ≤ g ∧ g < w5.heap.size) := hide (fun g e => owns_lt HOa5.out g e)
  have Lb : Hid (∀ g, Value.ownBlock (.slice ba nl bc) = some g → w5.heap.size ≤ g ∧ g < w6.heap.size) := hide (fun g e => owns_lt HOb6.out g e)
  have Lc : Hid (∀ g, Value.ownBlock (.slice ca nl cc) = some g → w6.heap.size ≤ g ∧ g < w7.heap.size) := hide (fun g e => owns_lt HOc7.out g e)
  have HzA4 : Hid (w4.heap.size ≤ wA.heap.size) := hide (by have := HzA.out; omega)
  clear hb11 hbA HB710 HA10 c3 HIw7 HIa7 HIb7 HIc7 HD7 HOw2 HOw3 HOw4 HOw5 HOw6 HOw7 HOl3 HOl4 HOl5 HOl6 HOl7 HOa5 HOa6 HOa7 HOb6 HOb7 HOc7 HA4 HA5 HA6 HA7 HB4 HB5 HB6 HB7
  go_wp2
  go_loopw [16] (fun i wr => ∃ k : Nat, i = .int .i64 k ∧ k ≤ nl ∧ OwnsI wr w4.heap.size (.slice aa nl ac) (List.replicate k (-1) ++ Wc.drop k) ∧ wA.grownBy wr (Value.ownBlock (.slice aa nl ac))) (fun i _ => nl - (intOf i).toNat)
  case atStart => exact ⟨0, rfl, by omega, by simpa using HOaA.out, grownBy_refl _ _⟩
  case round =>
    obtain ⟨k, rfl, hk, hO, hG⟩ := hrel
    by_cases hlt : k < nl
    · have hki : (k : Int) < nl := by omega
      have hWl : k < Wc.length := by rw [← HNl.out]; exact hlt
      have hll : (List.replicate k (-1) ++ Wc.drop k).length = nl := by simp; have := HNl.out; omega
      obtain ⟨ao', c', e, hpos⟩ := hO.form
      obtain ⟨g', rfl⟩ := hpos (by rw [hll]; omega)
      obtain ⟨rfl, -, rfl⟩ := (Value.slice.injEq ..).mp e
      have hc := hO.at k (by rw [hll]; exact hlt)
      have hf := hO.frozen k
      obtain ⟨q, hq⟩ : ∃ q, q = (List.replicate k (-1) ++ Wc.drop k)[k]'(by rw [hll]; exact hlt) := ⟨_, rfl⟩
      rw [← hq] at hc
      have HS := hide (hO.set k (-1))
      rw [fillI Wc k (-1) hWl] at HS
      have HG := hide (grownBy_trans hG (grownBy_set wr g' k (.int .i64 (-1))))
      clear hq hO hG e
      go_wp2
      exact ⟨⟨k + 1, by go_num, by omega, HS.out, HG.out⟩, by simp [intOf]; omega⟩
    · have hki : ¬ (k : Int) < nl := by omega
      obtain rfl : nl = k := by omega
      have HOaN : Hid (OwnsI wr w4.heap.size (.slice aa nl ac) (List.replicate nl (-1))) := hide (by
        have := hO
        rwa [List.drop_of_length_le (by rw [← HNl.out]; exact Nat.le_refl _), List.append_nil] at this)
      have HGB := hide hG
      obtain ⟨wB, hwB⟩ : ∃ w0, w0 = wr := ⟨_, rfl⟩
      subst hwB
      clear hO hG hk hlt
      have HObB := hide (HObA.out.grown HGB.out (fun g e1 e2 => by have := (Lb.out g e1).1; have := (La.out g e2.symm).2; omega))
      have HOcB := hide (HOcA.out.grown HGB.out (fun g e1 e2 => by have := (Lc.out g e1).1; have := (La.out g e2.symm).2; omega))
      have HBB1 := hide (below_grown' (B := w4.heap.size) HGB.out (fun z e => (La.out z e).1) HzA4.out)
      have HzB4 : Hid (w4.heap.size ≤ wB.heap.size) := hide (Nat.le_trans HzA4.out HGB.out.size)
      have HzB7 : Hid (w7.heap.size ≤ wB.heap.size) := hide (Nat.le_trans HzA.out HGB.out.size)
      clear HGB HOaA HObA HOcA
      go_wp2
      go_loopw [17] (fun i wr => ∃ k : Nat, i = .int .i64 k ∧ k ≤ nl ∧ OwnsI wr w5.heap.size (.slice ba nl bc) (List.replicate k (-2) ++ Wc.drop k) ∧ wB.grownBy wr (Value.ownBlock (.slice ba nl bc))) (fun i _ => nl - (intOf i).toNat)
      case atStart => exact ⟨0, rfl, by omega, by simpa using HObB.out, grownBy_refl _ _⟩
      case round =>
        obtain ⟨k, rfl, hk, hO, hG⟩ := hrel
        by_cases hlt : k < nl
        · have hki : (k : Int) < nl := by omega
          have hWl : k < Wc.length := by rw [← HNl.out]; exact hlt
          have hll : (List.replicate k (-2) ++ Wc.drop k).length = nl := by simp; have := HNl.out; omega
          obtain ⟨ao', c', e, hpos⟩ := hO.form
          obtain ⟨g', rfl⟩ := hpos (by rw [hll]; omega)
          obtain ⟨rfl, -, rfl⟩ := (Value.slice.injEq ..).mp e
          have hc := hO.at k (by rw [hll]; exact hlt)
          have hf := hO.frozen k
          obtain ⟨q, hq⟩ : ∃ q, q = (List.replicate k (-2) ++ Wc.drop k)[k]'(by rw [hll]; exact hlt) := ⟨_, rfl⟩
          rw [← hq] at hc
          have HS := hide (hO.set k (-2))
          rw [fillI Wc k (-2) hWl] at HS
          have HG := hide (grownBy_trans hG (grownBy_set wr g' k (.int .i64 (-2))))
          clear hq hO hG e
          go_wp2
          exact ⟨⟨k + 1, by go_num, by omega, HS.out, HG.out⟩, by simp [intOf]; omega⟩
        · have hki : ¬ (k : Int) < nl := by omega
          obtain rfl : nl = k := by omega
          have HObN : Hid (OwnsI wr w5.heap.size (.slice ba nl bc) (List.replicate nl (-2))) := hide (by
            have := hO
            rwa [List.drop_of_length_le (by rw [← HNl.out]; exact Nat.le_refl _), List.append_nil] at this)
          have HGB := hide hG
          obtain ⟨wC, hwB⟩ : ∃ w0, w0 = wr := ⟨_, rfl⟩
          subst hwB
          clear hO hG hk hlt
          have HOaC := hide (HOaN.out.grown HGB.out (fun g e1 e2 => by have := (La.out g e1).2; have := (Lb.out g e2.symm).1; omega))
          have HOcC := hide (HOcB.out.grown HGB.out (fun g e1 e2 => by have := (Lc.out g e1).1; have := (Lb.out g e2.symm).2; omega))
          have HBC := hide (HBB1.out.trans (below_grown' (B := w4.heap.size) HGB.out (fun z e => by have := (Lb.out z e).1; omega) HzB4.out))
          have HzC4 : Hid (w4.heap.size ≤ wC.heap.size) := hide (Nat.le_trans HzB4.out HGB.out.size)
          have HTr : Hid (Tri wC w4.heap.size (.slice aa nl ac) (.slice ba nl bc) (.slice ca nl cc) (List.replicate nl (-1)) (List.replicate nl (-2)) Wc) := hide ⟨HOaC.out, own_base HObN.out (by omega), own_base HOcC.out (by omega), fun g e1 e2 => by have := (La.out g e1).2; have := (Lb.out g e2).1; omega, fun g e1 e2 => by have := (La.out g e1).2; have := (Lc.out g e2).1; omega, fun g e1 e2 => by have := (Lb.out g e1).2; have := (Lc.out g e2).1; omega⟩
          have HRd : Hid (Reads wC (.slice aa nl ac) (.slice ba nl bc) (.slice ca nl cc) (List.replicate nl (-1)) (List.replicate nl (-2)) Wc) := hide ⟨HOaC.out.rd, HObN.out.rd, HOcC.out.rd⟩
          have hWn : Wc.length = nl := HNl.out.symm
          clear HGB HOaN HObB HOcB HObN HOaC HOcC HBB1 HzB4
          go_wp2
          go_loopw [18, 19, 20, 21] (fun pv qv sv i wr => ∃ (vp vq vs : Value) (k : Nat), vp = pv ∧ vq = qv ∧ vs = sv ∧ i = .int .i64 k ∧ k ≤ 40 ∧ Tri wr w4.heap.size vp vq vs (List.replicate (nl + k) (-1)) (List.replicate (nl + k) (-2)) (Wc ++ List.replicate k (-3)) ∧ Reads wr (.slice aa nl ac) (.slice ba nl bc) (.slice ca nl cc) (List.replicate nl (-1)) (List.replicate nl (-2)) Wc ∧ Below w4.heap.size wC wr) (fun _ _ _ i _ => 40 - (intOf i).toNat)
          case atStart => exact ⟨_, _, _, 0, rfl, rfl, rfl, rfl, by omega, by simpa using HTr.out, HRd.out, Below.refl _ _⟩
          case round =>
            clear HTr HRd
            obtain ⟨vp, vq, vs, k, rfl, rfl, rfl, rfl, hk, hTr, hRd, hBr⟩ := hrel
            have HTr := hide hTr
            have HRd := hide hRd
            have HBr := hide hBr
            have hzr : w4.heap.size ≤ wr.heap.size := Nat.le_trans HzC4.out hBr.size
            clear hTr hRd hBr
            by_cases hlt : k < 40
            · have hki : (k : Int) < 40 := by omega
              have hs1 := fun (v : Int) => ((Below.refl wr.heap.size wr).alloc (Nat.le_refl _) (.cells #[.int .i64 v] 3))
              have HTa := hide (HTr.out.below (hs1 (-1)))
              have HRa := hide (HRd.out.below (hs1 (-1)))
              have HBa := hide (HBr.out.alloc hzr (.cells #[.int .i64 (-1)] 3))
              clear hs1
              go_wp2_with (at_builtin; refine wpList_append_keep rfl _ _ rfl w4.heap.size _ (List.replicate (nl + k) (-1)) rfl HTa.out.hp wr.heap.size 1 rfl (-1) (-1) rfl ?e1 ?e2 ?e3 ?_)
              case e1 => exact (Blk.made wr _ _).cell 0
              case e2 => rw [List.length_replicate]; omega
              case e3 => simp; omega
              intro vp' wp HO HG HX HK
              have HT1 := hide (HTa.out.row HO.out HG.out (by rw [World.size_alloc]; exact HX.out))
              have HR1 := hide (HRa.out.keep HK.out (by simp only [List.length_replicate, List.length_append, hWn]; omega) (by simp only [List.length_replicate, List.length_append, hWn]; omega) (by simp only [List.length_replicate, List.length_append, hWn]; omega))
              have HB1' := hide (own_below HBa.out HTa.out.hp (by simp; omega) HG.out)
              have hzp : w4.heap.size ≤ wp.heap.size := Nat.le_trans HzC4.out HB1'.out.size
              clear HO HG HX HK HTa HRa HBa HTr HRd HBr
              have hs1 := fun (v : Int) => ((Below.refl wp.heap.size wp).alloc (Nat.le_refl _) (.cells #[.int .i64 v] 3))
              have HTa := hide (HT1.out.below (hs1 (-2))).rot
              have HRa := hide (HR1.out.below (hs1 (-2)))
              have HBa := hide (HB1'.out.alloc hzp (.cells #[.int .i64 (-2)] 3))
              clear hs1
              go_wp2_with (at_builtin; refine wpList_append_keep rfl _ _ rfl w4.heap.size _ (List.replicate (nl + k) (-2)) rfl HTa.out.hp wp.heap.size 1 rfl (-2) (-2) rfl ?e1 ?e2 ?e3 ?_)
              case e1 => exact (Blk.made wp _ _).cell 0
              case e2 => rw [List.length_replicate]; omega
              case e3 => simp; omega
              intro vq' wq HO HG HX HK
              have HT2 := hide (HTa.out.row HO.out HG.out (by rw [World.size_alloc]; exact HX.out))
              have HR2 := hide (HRa.out.keep HK.out (by simp only [List.length_replicate, List.length_append, hWn]; omega) (by simp only [List.length_replicate, List.length_append, hWn]; omega) (by simp only [List.length_replicate, List.length_append, hWn]; omega))
              have HB2' := hide (own_below HBa.out HTa.out.hp (by simp; omega) HG.out)
              have hzq : w4.heap.size ≤ wq.heap.size := Nat.le_trans HzC4.out HB2'.out.size
              clear HO HG HX HK HTa HRa HBa HT1 HR1 HB1'
              have hs1 := fun (v : Int) => ((Below.refl wq.heap.size wq).alloc (Nat.le_refl _) (.cells #[.int .i64 v] 3))
              have HTa := hide (HT2.out.below (hs1 (-3))).rot
              have HRa := hide (HR2.out.below (hs1 (-3)))
              have HBa := hide (HB2'.out.alloc hzq (.cells #[.int .i64 (-3)] 3))
              clear hs1
              go_wp2_with (at_builtin; refine wpList_append_keep rfl _ _ rfl w4.heap.size _ (Wc ++ List.replicate k (-3)) rfl HTa.out.hp wq.heap.size 1 rfl (-3) (-3) rfl ?e1 ?e2 ?e3 ?_)
              case e1 => exact (Blk.made wq _ _).cell 0
              case e2 => rw [List.length_append, List.length_replicate, hWn]; omega
              case e3 => simp; omega
              intro vs' ws HO HG HX HK
              have HT3 := hide (HTa.out.row HO.out HG.out (by rw [World.size_alloc]; exact HX.out)).rot
              have HR3 := hide (HRa.out.keep HK.out (by simp only [List.length_replicate, List.length_append, hWn]; omega) (by simp only [List.length_replicate, List.length_append, hWn]; omega) (by simp only [List.length_replicate, List.length_append, hWn]; omega))
              have HB3' := hide (own_below HBa.out HTa.out.hp (by simp; omega) HG.out)
              clear HO HG HX HK HTa HRa HBa HT2 HR2 HB2'
              go_wp2
              refine ⟨⟨_, _, _, k + 1, rfl, rfl, rfl, by go_num, by omega, ?_, HR3.out, HB3'.out⟩, by simp [intOf]; omega⟩
              have h := HT3.out
              simp only [List.append_assoc, ← List.replicate_succ'] at h
              exact h
            · have hki : ¬ (k : Int) < 40 := by omega
              obtain rfl : k = 40 := by omega
              obtain ⟨wD, hwD⟩ : ∃ w0, w0 = wr := ⟨_, rfl⟩
              subst hwD
              have HBwd := hide (HBC.out.trans (HBr.out.mono (Nat.le_refl _)))
              have HBD := hide (HBA.out.trans (HBwd.out.mono (by omega)))
              have HIwD := hide (HOwA.out.rd.under HBwd.out (fun g e => by have := Lw.out g e; omega))
              have HOlD := hide (ownsB_under HOlA.out HBwd.out (by have := Ll.out.2; omega))
              have HAD := hide (HA0.out.below HBD.out (by omega))
              have HIp := hide HTr.out.hp.rd
              have HIq := hide HTr.out.hq.rd
              obtain ⟨sa, sc, hvs, -⟩ := HTr.out.hs.form
              rw [List.length_append, List.length_replicate, hWn] at hvs
              have hzD : w.heap.size + 1 ≤ wD.heap.size := by have := HBD.out.size; rw [HS0.out] at this; exact this
              clear HTr HBr HBwd HOwA HOlA HBA HBC Lw La Lb Lc
              subst hvs
              go_wp2_with fail
              refine (all_any wD _ _ (-1) HIp.out (fun x hx => (List.mem_replicate.1 hx).2)).mono ?_
              rintro e w' ⟨rfl, rfl⟩
              go_wp2_with fail
              refine (all_any w' _ _ (-2) HIq.out (fun x hx => (List.mem_replicate.1 hx).2)).mono ?_
              rintro e w'' ⟨rfl, rfl⟩
              go_wp2_with fail
              refine (all_any w'' _ _ (-1) HRd.out.1 (fun x hx => (List.mem_replicate.1 hx).2)).mono ?_
              rintro e w3' ⟨rfl, rfl⟩
              go_wp2_with fail
              refine (all_any w3' _ _ (-2) HRd.out.2.1 (fun x hx => (List.mem_replicate.1 hx).2)).mono ?_
              rintro e w4' ⟨rfl, rfl⟩
              go_wp2_with fail
              refine (sameInts_any w4' _ _ Wc HRd.out.2.2 HIwD.out).mono ?_
              rintro e wE ⟨rfl, hbE⟩
              have HBE := hide (HBD.out.trans (hbE.mono hzD))
              have HOlE := hide (owns_below HOlD.out hbE)
              have hzE : w.heap.size + 1 ≤ wE.heap.size := Nat.le_trans hzD hbE.size
              clear hbE HIp HIq HIwD HOlD HRd HBD HAD
              go_wp2
              go_loopw [22] (fun i wr => ∃ k : Nat, i = .int .i64 k ∧ k ≤ X.length ∧ OwnsB wr w2.heap.size (.slice (some ⟨g, 0, none⟩) (X.length + 80) cap) (turnL X k) ∧ wE.grownBy wr (some g)) (fun i _ => X.length - (intOf i).toNat)
              case atStart => exact ⟨0, rfl, by omega, by rw [turnL_zero]; exact HOlE.out, grownBy_refl _ _⟩
              case round =>
                obtain ⟨k, rfl, hk, hO, hG⟩ := hrel
                by_cases hlt : k < X.length
                · have hki : (k : Int) < X.length := by omega
                  obtain ⟨hc, hf, -⟩ := hO.at k (by rw [turnL_len X k (by omega)]; omega)
                  rw [turnL_at X k hlt] at hc
                  obtain ⟨x, hx⟩ : ∃ x, x = X[k] := ⟨_, rfl⟩
                  have hfl := flip_int' x
                  have HS := hide (hO.set k (flip X[k]))
                  rw [turnL_set X k hlt, ← hx] at HS
                  rw [← hx] at hc
                  have HG := hide (grownBy_trans hG (grownBy_set wr g k (u8c (flip x))))
                  unfold u8c at HG HS
                  clear hx hO hG
                  go_wp2
                  exact ⟨⟨k + 1, by go_num, by omega, HS.out, HG.out⟩, by simp [intOf]; omega⟩
                · have hki : ¬ (k : Int) < X.length := by omega
                  obtain rfl : k = X.length := by omega
                  obtain ⟨wF, hwF⟩ : ∃ w0, w0 = wr := ⟨_, rfl⟩
                  subst hwF
                  have HBF := hide (HBE.out.trans (below_grown' hG (fun z e => by have := Option.some.inj e; have := Ll.out.1; omega) hzE))
                  have HRF : Hid (RdA wF (.slice (some ⟨g, 0, none⟩) X.length cap) (X.map flip)) := hide (.inl (by
                    have := Rd.owned_take hO (m := X.length) (c0 := cap) (by rw [turnL_len X _ (Nat.le_refl _)]; omega) (by omega) (by unfold maxLen; omega)
                    rwa [turnL_all] at this))
                  have HAF := hide (HA0.out.below HBF.out (by omega))
                  have hzF : w.heap.size + 1 ≤ wF.heap.size := by have := HBF.out.size; rw [HS0.out] at this; exact this
                  have hml : (X.map flip).length = X.length := List.length_map ..
                  clear hO hG HOlE HBE
                  have c0 : wF.cell? ⟨w.heap.size, 0, none⟩ = some (.int .i64 mn) := HAF.out.cell 0
                  have c1 : wF.cell? ⟨w.heap.size, 1, none⟩ = some (.int .i64 me) := HAF.out.cell 1
                  have c2 : wF.cell? ⟨w.heap.size, 2, none⟩ = some (.int .i64 mx) := HAF.out.cell 2
                  go_wp2_with fail
                  refine (rcut_any wF mn me mx _ (X.map flip) HRF.out (by rw [hml]; omega)).mono ?_
                  rintro e wG ⟨vn, rfl, hOn, hbG⟩
                  have HBG := hide (HBF.out.trans (hbG.mono hzF))
                  have HRG := hide (HRF.out.below hbG)
                  have HIn := hide hOn.rd
                  have HAG := hide (HA0.out.below HBG.out (by omega))
                  have hzG : w.heap.size + 1 ≤ wG.heap.size := Nat.le_trans hzF hbG.size
                  clear hbG hOn c0 c1 c2 HBF HRF HAF
                  have c0 : wG.cell? ⟨w.heap.size, 0, none⟩ = some (.int .i64 mn) := HAG.out.cell 0
                  have c1 : wG.cell? ⟨w.heap.size, 1, none⟩ = some (.int .i64 me) := HAG.out.cell 1
                  have c2 : wG.cell? ⟨w.heap.size, 2, none⟩ = some (.int .i64 mx) := HAG.out.cell 2
                  go_wp2_with fail
                  refine (cut_any wG (HT0.out.below (HUP.out _ HBG.out) HT0.out.size) mn me mx _ (X.map flip) HRG.out (by rw [hml]; omega)).mono ?_
                  rintro e wH ⟨vd, rfl, hOd, hbH⟩
                  have HBH := hide (HBG.out.trans (hbH.mono hzG))
                  have HIn2 := hide (HIn.out.below hbH)
                  have HId := hide hOd.rd
                  have hzH : w.heap.size + 1 ≤ wH.heap.size := Nat.le_trans hzG hbH.size
                  clear hbH hOd c0 c1 c2 HBG HRG HIn HAG
                  go_wp2_with fail
                  refine (sameInts_any wH vd vn _ HId.out HIn2.out).mono ?_
                  rintro e wI ⟨rfl, hbI⟩
                  have HBI := hide (HBH.out.trans (hbI.mono hzH))
                  clear hbI HBH
                  go_wp2_with fail
                  refine (lives_any wI (HT0.out.below (HUP.out _ HBI.out) HT0.out.size)).mono ?_
                  rintro e wJ ⟨rfl, hbJ⟩
                  have HBJ := hide (HBI.out.trans (hbJ.mono (by have := HBI.out.size; rw [HS0.out] at this; exact this)))
                  clear hbJ HBI
                  go_wp2
                  go_ret
                  exact ⟨rfl, HB00.out.trans (HBJ.out.mono (by omega))⟩
end Go.Proofs.YtamajnaeladehaaDoor
