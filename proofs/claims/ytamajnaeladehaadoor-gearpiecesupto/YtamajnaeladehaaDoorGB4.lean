/- GearBack, walked. -/
import Derived.Test.YtamajnaeladehaaDoorGB3
namespace Go.Proofs.YtamajnaeladehaaDoor
set_option linter.unusedVariables false
set_option linter.unusedSimpArgs false
open Go.RowKit

def AskAt (w : World) (z : Nat) (mn me mx : Int) (dv : Value) : Prop := Blk w z #[.int .i64 mn, .int .i64 me, .int .i64 mx, dv] 26
theorem AskAt.below {w w' : World} {z : Nat} {mn me mx : Int} {dv : Value} {B : Nat} (h : AskAt w z mn me mx dv) (hb : Below B w w') (hz : z < B) : AskAt w' z mn me mx dv := (hb.block z hz).trans h
theorem Tabs.under {B : Nat} {w w' : World} (h : Tabs w) (hb : Below B w w') (hB : 1 < B) : Tabs w' := h.below hb hB
theorem OwnsB.rd {w : World} {base : Nat} {v : Value} {xs : List UInt8} (h : OwnsB w base v xs) : RdA w v xs := .inl (Rd_owned h)
theorem below_none {w w' : World} {B : Nat} (h : w.grownBy w' none) : Below B w w' ∨ True := .inr True.intro
theorem grown_none {w w' : World} (h : w.grownBy w' none) : Below w.heap.size w w' := ⟨h.os, h.tape, h.output, h.size, fun k hk => h.block k hk (by simp)⟩
theorem chk_may {mn me mx : Int} (h : mayB mn me mx = true) : chk mn me mx = 0 := by simp [chk, h]
theorem chk_mayn {mn me mx : Int} (h : mayB mn me mx = false) : chk mn me mx = 50 := by simp [chk, h]
set_option maxRecDepth 20000 in
set_option maxHeartbeats 4000000 in
theorem back_law (w : World) (hT : Tabs w) (mn me mx : Int) (dv ov tv : Value) (X Y T : List UInt8) (hd : RdA w dv X) (ho : RdA w ov Y) (ht : RdA w tv T) (h1 : X.length + T.length ≤ 17592186043000) (h2 : Y.length + T.length ≤ 17592186043000) :
    Calls Tryd.prog 7 #[askV mn me mx dv, ov, tv] w fun e w' => e = .returned (.bool true) ∧ Below w.heap.size w w' := by
  unfold askV
  obtain ⟨W0, hW0⟩ : ∃ W0, W0 = w.alloc (.cells #[.int .i64 mn, .int .i64 me, .int .i64 mx, dv] 26) := ⟨_, rfl⟩
  have HB00 : Hid (Below w.heap.size w W0) := hide (by rw [hW0]; exact (Below.refl w.heap.size w).alloc (Nat.le_refl _) _)
  have HA0 : Hid (AskAt W0 w.heap.size mn me mx dv) := hide (by rw [hW0]; exact Blk.made w _ _)
  have HS0 : Hid (W0.heap.size = w.heap.size + 1) := hide (by rw [hW0]; simp)
  have HT0 := hide (hT.below HB00.out hT.size)
  have HT1 := hide hT.size
  have HD0 := hide (hd.below HB00.out)
  have HO0 := hide (ho.below HB00.out)
  have HTl0 := hide (ht.below HB00.out)
  obtain ⟨da, dc, rfl, hdl⟩ := hd.slice
  obtain ⟨oa, oc, rfl, hol⟩ := ho.slice
  obtain ⟨ta, tc, rfl, htl⟩ := ht.slice
  have HUP := hide (fun (w' : World) (hb : Below (w.heap.size + 1) W0 w') => (show Below W0.heap.size W0 w' from by rw [HS0.out]; exact hb))
  clear hT hd ho ht
  have hW0' : w.alloc (.cells #[.int .i64 mn, .int .i64 me, .int .i64 mx, .slice da X.length dc] 26) = W0 := hW0.symm
  clear hW0
  go_enter Tryd.func7, Tryd.ntmps7
  go_wp2_with fail
  refine (lives_any W0 HT0.out).mono ?_
  rintro e w1 ⟨rfl, hb1⟩
  rw [HS0.out] at hb1
  have HB1 := hide hb1
  have HA1 := hide (HA0.out.below hb1 (by omega))
  have HD1 := hide (HD0.out.below (HUP.out _ hb1))
  have hz1 : w.heap.size + 1 ≤ w1.heap.size := by have := hb1.size; rw [HS0.out] at this; exact this
  have c3 : w1.cell? ⟨w.heap.size, 3, none⟩ = some (.slice da X.length dc) := HA1.out.cell 3
  clear hb1
  go_wp2_with (at_builtin; refine wpList_append_rdX rfl _ _ rfl (w.heap.size + 1) _ _ [] X rfl (World.ownsRow_nil _ _ _ _) rfl HD1.out ?a1 ?a2 ?_)
  case a1 => rw [List.length_nil]; omega
  case a2 => exact hz1
  intro va w2 HO2 HG2 HX2
  have hb2 := grown_none (show w1.grownBy w2 none from HG2.out)
  have HB2 := hide (HB1.out.trans (hb2.mono hz1))
  have HTl2 := hide (HTl0.out.below (HUP.out _ HB2.out))
  have hz2 : w.heap.size + 1 ≤ w2.heap.size := Nat.le_trans hz1 hb2.size
  clear HG2 HX2 hb2 c3 HA1 HD1 HB1
  go_wp2_with (at_builtin; refine wpList_append_rdX rfl _ _ rfl (w.heap.size + 1) _ _ X T rfl HO2.out rfl HTl2.out ?b1 ?b2 ?_)
  case b1 => omega
  case b2 => exact hz2
  intro va3 w3 HO3 HG3 HX3
  have HB3 := hide (own_below HB2.out HO2.out hz2 HG3.out)
  have hz3 : w.heap.size + 1 ≤ w3.heap.size := Nat.le_trans hz2 HG3.out.size
  have HOt3 := hide (HO0.out.below (HUP.out _ HB3.out))
  clear HG3 HX3 HO2 HB2 HTl2
  obtain ⟨aa, ac, hva, -⟩ := own_formB HO3.out
  have hAl : (X ++ T).length = X.length + T.length := List.length_append
  rw [hAl] at hva
  subst hva
  go_wp2_with (at_builtin; refine wpList_append_rdX rfl _ _ rfl w3.heap.size _ _ [] Y rfl (World.ownsRow_nil _ _ _ _) rfl HOt3.out ?d1 ?d2 ?_)
  case d1 => rw [List.length_nil]; omega
  case d2 => exact Nat.le_refl _
  intro vb w4 HO4 HG4 HX4
  have hb4 := grown_none (show w3.grownBy w4 none from HG4.out)
  have HB4 := hide (HB3.out.trans (hb4.mono hz3))
  have HVa4 := hide (owns_below HO3.out hb4)
  have HTl4 := hide (HTl0.out.below (HUP.out _ HB4.out))
  have hz4 : w3.heap.size ≤ w4.heap.size := hb4.size
  clear HG4 HX4 hb4 HOt3
  go_wp2_with (at_builtin; refine wpList_append_rdX rfl _ _ rfl w3.heap.size _ _ Y T rfl HO4.out rfl HTl4.out ?e1 ?e2 ?_)
  case e1 => omega
  case e2 => exact hz4
  intro vb5 w5 HO5 HG5 HX5
  have HB5 := hide (HB4.out.grown HG5.out (Nat.le_trans hz3 hz4) (fun k hk => Nat.le_trans hz3 (owns_lt HO4.out k hk).1))
  have HVa5 := hide (owns_grown HVa4.out HG5.out (fun g hg e => by
    have q1 := (owns_lt HO3.out g hg).2
    have q2 := (owns_lt HO4.out g e.symm).1
    omega))
  have hz5 : w.heap.size + 1 ≤ w5.heap.size := Nat.le_trans (Nat.le_trans hz3 hz4) HG5.out.size
  have HA5 := hide (HA0.out.below HB5.out (by omega))
  clear HG5 HX5 HO4 HVa4 HTl4 HB4 HO3 HB3
  obtain ⟨ba, bc, hvb, -⟩ := own_formB HO5.out
  have hBl : (Y ++ T).length = Y.length + T.length := List.length_append
  rw [hBl] at hvb
  subst hvb
  have HRa5 := hide (OwnsB.rd HVa5.out)
  have HRb5 := hide (OwnsB.rd HO5.out)
  have c0 : w5.cell? ⟨w.heap.size, 0, none⟩ = some (.int .i64 mn) := HA5.out.cell 0
  have c1 : w5.cell? ⟨w.heap.size, 1, none⟩ = some (.int .i64 me) := HA5.out.cell 1
  have c2 : w5.cell? ⟨w.heap.size, 2, none⟩ = some (.int .i64 mx) := HA5.out.cell 2
  go_wp2_with fail
  refine (cut_any w5 (HT0.out.below (HUP.out _ HB5.out) HT0.out.size) mn me mx _ (X ++ T) HRa5.out (by rw [hAl]; exact h1)).mono ?_
  rintro e w6 ⟨vl, rfl, hO6, hb6⟩
  have HB6 := hide (HB5.out.trans (hb6.mono hz5))
  have HRa6 := hide (HRa5.out.below hb6)
  have HRb6 := hide (HRb5.out.below hb6)
  have HI6 := hide hO6.rd
  have hz6 : w.heap.size + 1 ≤ w6.heap.size := Nat.le_trans hz5 hb6.size
  have HA6 := hide (HA0.out.below HB6.out (by omega))
  obtain ⟨la, lc, hvl, -⟩ := hO6.form
  obtain ⟨nl, hnl⟩ : ∃ nl, nl = (cutR mn me mx (X ++ T)).length := ⟨_, rfl⟩
  rw [← hnl] at hvl
  subst hvl
  clear hb6 hO6 c0 c1 c2 HVa5 HO5 HRa5 HRb5 HA5 HB5 hnl
  have c0 : w6.cell? ⟨w.heap.size, 0, none⟩ = some (.int .i64 mn) := HA6.out.cell 0
  have c1 : w6.cell? ⟨w.heap.size, 1, none⟩ = some (.int .i64 me) := HA6.out.cell 1
  have c2 : w6.cell? ⟨w.heap.size, 2, none⟩ = some (.int .i64 mx) := HA6.out.cell 2
  go_wp2_with fail
  refine (cut_any w6 (HT0.out.below (HUP.out _ HB6.out) HT0.out.size) mn me mx _ (Y ++ T) HRb6.out (by rw [hBl]; exact h2)).mono ?_
  rintro e w7 ⟨vm, rfl, hO7, hb7⟩
  have HB7 := hide (HB6.out.trans (hb7.mono hz6))
  have HRa7 := hide (HRa6.out.below hb7)
  have HRb7 := hide (HRb6.out.below hb7)
  have HI7 := hide (HI6.out.below hb7)
  have HJ7 := hide hO7.rd
  have hz7 : w.heap.size + 1 ≤ w7.heap.size := Nat.le_trans hz6 hb7.size
  have HA7 := hide (HA0.out.below HB7.out (by omega))
  clear hb7 hO7 c0 c1 c2 HRa6 HRb6 HI6 HA6 HB6
  have HBW := hide (HB00.out.trans (HB7.out.mono (by omega)))
  cases hm : mayB mn me mx with
  | false =>
    rw [chk_mayn hm]
    clear hm
    go_wp2
    go_ret
    exact ⟨rfl, HBW.out⟩
  | true =>
    rw [chk_may hm]
    have c0 : w7.cell? ⟨w.heap.size, 0, none⟩ = some (.int .i64 mn) := HA7.out.cell 0
    have c1 : w7.cell? ⟨w.heap.size, 1, none⟩ = some (.int .i64 me) := HA7.out.cell 1
    have c2 : w7.cell? ⟨w.heap.size, 2, none⟩ = some (.int .i64 mx) := HA7.out.cell 2
    have c3 : w7.cell? ⟨w.heap.size, 3, none⟩ = some (.slice da X.length dc) := HA7.out.cell 3
    have hcA : cutR mn me mx (X ++ T) = cutL mn me mx (X ++ T) := by simp [cutR, hm]
    have hcB : cutR mn me mx (Y ++ T) = cutL mn me mx (Y ++ T) := by simp [cutR, hm]
    rw [hcA] at HI7
    rw [hcB] at HJ7
    have HPL := hide (cut_pos hm _ (X ++ T) (Nat.le_refl _))
    have HPM := hide (cut_pos hm _ (Y ++ T) (Nat.le_refl _))
    have HAl := hide (cut_alike hm X Y T)
    have HAh := hide (fun p i => cut_ahead hm (X ++ T) (Y ++ T) p i)
    have HAL := hide hAl
    have HBL := hide hBl
    obtain ⟨Lc, hLc⟩ : ∃ Lc, Lc = cutL mn me mx (X ++ T) := ⟨_, rfl⟩
    obtain ⟨Mc, hMc⟩ : ∃ Mc, Mc = cutL mn me mx (Y ++ T) := ⟨_, rfl⟩
    rw [← hLc] at HPL HAl HI7
    rw [← hMc] at HPM HAl HJ7
    have HLc := hide hLc
    have HMc := hide hMc
    clear hm hcA hcB hLc hMc hAl hBl
    have HsL : Hid (suf Lc 0 ≤ 4611686018427387904 ∧ Lc.sum ≤ 4611686018427387904) := hide (by
      have := HPL.out.2
      rw [HAL.out] at this
      unfold suf
      rw [List.drop_zero]
      omega)
    have HsM : Hid (suf Mc 0 ≤ 4611686018427387904 ∧ Mc.sum ≤ 4611686018427387904) := hide (by
      have := HPM.out.2
      rw [HBL.out] at this
      unfold suf
      rw [List.drop_zero]
      omega)
    have HBe := hide (behind_any w7 mn me mx (.slice da X.length dc) _ vm Lc Mc ((X.length : Int) + T.length) ((Y.length : Int) + T.length) T.length HI7.out HJ7.out HPL.out.1 HPM.out.1 (by omega) (by omega) HsL.out.1 HsM.out.1 HAl.out)
    unfold askV at HBe
    go_wp2_with fail
    refine HBe.out.mono ?_
    rintro e w8 ⟨rfl, hb8⟩
    have HRa8 := hide (HRa7.out.below hb8)
    have HRb8 := hide (HRb7.out.below hb8)
    have HI8 := hide (HI7.out.below hb8)
    have HJ8 := hide (HJ7.out.below hb8)
    have HB8 := hide (HBW.out.trans (hb8.mono HBW.out.size))
    clear hb8 c0 c1 c2 c3 HBe
    go_wp2_with fail
    refine (ahead_any w8 _ _ _ vm (X ++ T) (Y ++ T) Lc Mc HRa8.out HRb8.out HI8.out HJ8.out HPL.out.1 HPM.out.1 HsL.out.2 HsM.out.2 (fun p i hp q1 q2 q3 q4 => ?_)).mono ?_
    · have e1 := HLc.out
      have e2 := HMc.out
      subst e1 e2
      exact HAh.out p i hp q1 q2 q3 q4
    rintro e w9 ⟨rfl, hb9⟩
    have HB9 := hide (HB8.out.trans (hb9.mono HB8.out.size))
    clear hb9
    go_wp2
    go_ret
    exact ⟨rfl, HB9.out⟩
end Go.Proofs.YtamajnaeladehaaDoor
