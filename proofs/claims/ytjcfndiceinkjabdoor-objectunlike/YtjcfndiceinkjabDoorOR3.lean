/- The document's bytes of an object: a tree. -/
import Derived.Test.YtjcfndiceinkjabDoorORm
import Derived.Test.YtjcfndiceinkjabDoorOC7
namespace Go.Proofs.YtjcfndiceinkjabDoor
set_option linter.unusedVariables false
set_option linter.unusedSimpArgs false
open Go.RowKit

set_option maxRecDepth 20000 in
set_option maxHeartbeats 4000000 in
theorem rlaid_3 (w : World) (o : ObjR) (v : ObjV) (hr : ObjRd w o v) (hkd : o.kind = 3) (hs : TxtSz o) (hn : o.items.length ≤ 128) (hnm : ∀ p ∈ o.items, p.1.length ≤ 64) : Calls Tryd.prog 39 #[.agg (objL o v).toArray] w (OwnC w (layO o)) := by
  have hA0 : ObjAt (w.alloc (.cells (objL o v).toArray 30)) w.heap.size o v := Blk.made w _ _
  have c0 := hA0.cKind
  have hk : o.kind ≤ 255 := by omega
  have RR := hide hr
  have b1 : ((o.kind : Int) == 1) = false := by simp; omega
  have b2 : ((o.kind : Int) == 2) = false := by simp; omega
  have b3 : ((o.kind : Int) == 3) = true := by simp; omega
  have HE : Hid (layO o = fixB 1 o.kind ++ (varB o.items.length ++ (o.items.map itemB).flatten)) := hide (by unfold layO; rw [if_neg (by omega), if_neg (by omega), if_pos hkd])
  have HS := hide hs
  obtain ⟨ao, c, ev, hpl⟩ := hr.i.slice
  rw [List.length_map] at ev hpl
  obtain ⟨n, hnn⟩ : ∃ n, n = o.items.length := ⟨_, rfl⟩
  rw [← hnn] at ev hpl HE hn
  have HN := hide hnn
  have EV := hide ev
  have hwn := wrapu_nat n hpl
  have FL : Hid (∀ k, k ≤ n → ((o.items.take k).map itemB).flatten.length ≤ 128 * 117) := hide (fun k hk => flat_take_le itemB 117 o.items (fun p hp => by
    have := varB_len p.1.length; have := varB_len p.2.2.1; have e : p.2.2.2.length = 32 := hr.ok.i p hp; have := hnm p hp; have := fixB_len 1 p.2.1
    unfold itemB; simp only [List.length_append]; omega) k (by omega))
  have HNM := hide hnm
  clear hs hnn ev hnm
  obtain ⟨W0, hW0⟩ : ∃ W, W = w.alloc (.cells (objL o v).toArray 30) := ⟨_, rfl⟩
  have HR0 : Hid (RL w (W0.alloc (.cells #[.int .u8 (o.kind : Int)] 5)) o v (.slice none 0 0) []) := hide (by
    have h0 : RL w W0 o v (.slice none 0 0) [] := by rw [hW0]; exact ⟨World.ownsRow_nil _ _ _ _, hA0, below_alloc w _⟩
    exact h0.below (below_alloc _ _))
  have RD0 := hide (rd_one o.kind hk W0)
  have RD0 : Hid (RdA ((w.alloc (.cells (objL o v).toArray 30)).alloc (.cells #[.int .u8 (o.kind : Int)] 5)) (.slice (some ⟨w.heap.size + 1, 0, none⟩) 1 1) (fixB 1 o.kind)) := hide (by have := RD0.out; rw [hW0] at this; simpa using this)
  have OW0 : Hid (((w.alloc (.cells (objL o v).toArray 30)).alloc (.cells #[.int .u8 (o.kind : Int)] 5)).ownsRow (w.heap.size + 1) 5 1 (.slice none 0 0) ([] : List UInt8).length (([] : List UInt8).map u8c)) := hide (World.ownsRow_nil _ _ _ _)
  have BS0 : Hid (w.heap.size + 1 ≤ ((w.alloc (.cells (objL o v).toArray 30)).alloc (.cells #[.int .u8 (o.kind : Int)] 5)).heap.size) := hide (by simp)
  have LN0 : Hid (([] : List UInt8).length + (fixB 1 o.kind).length ≤ 140737488355000) := hide (by rw [fixB_len]; simp)
  clear hr hA0 hkd
  go_enter Tryd.func39, Tryd.ntmps39
  go_wp2_with (first
    | ((with_reducible refine wpList_append_rdX ?_ (.tmp 7) (.tmp 10) ?_ (w.heap.size + 1) (.slice none 0 0) (.slice (some ⟨w.heap.size + 1, 0, none⟩) 1 1) [] (fixB 1 o.kind) ?_ OW0.out ?_ RD0.out LN0.out BS0.out ?_); rfl; rfl; rfl; rfl; intro va1 w1 O1 G1 E1; generalize hG : wpList _ _ _ _ _ _ = G))
  have HL1 : Hid (RL w w1 o v va1 (fixB 1 o.kind)) := hide (by rw [hW0] at HR0; exact HR0.out.app (by simpa using O1.out) G1.out)
  have hA1 := HL1.out.obj
  have c0 := hA1.cKind
  clear HR0 RD0 OW0 BS0 O1 G1 E1 hW0 hA1
  have c2 := HL1.out.obj.cI
  rw [EV.out] at c2
  obtain ⟨xs, hxs⟩ : ∃ x, x = fixB 1 o.kind := ⟨_, rfl⟩
  have HXL : Hid (xs.length = 1) := hide (by rw [hxs, fixB_len])
  have hvl := varB_len n
  rw [← hxs] at HL1 HE
  clear hxs
  subst hG
  go_wp2_with fail
  refine (rvarb w1 n (by omega)).mono ?_
  rintro e w2 ⟨vv2, rfl, o2, hb2⟩
  have HL2 := hide (HL1.out.below hb2)
  have RD3 : Hid (RdA w2 vv2 (varB n)) := hide (.inl (Rd_owned o2))
  clear o2 hb2
  have LN3 : Hid (xs.length + (varB n).length ≤ 140737488355000) := hide (by rw [HXL.out]; omega)
  go_wp2_with (first
    | ((with_reducible refine wpList_append_rdX ?_ (.tmp 55) (.tmp 60) ?_ (w.heap.size + 1) va1 vv2 xs (varB n) ?_ HL2.out.own ?_ RD3.out LN3.out HL2.out.size ?_); rfl; rfl; rfl; rfl; intro va3 w3 O3 G3 E3; generalize hG : wpList _ _ _ _ _ _ = G))
  have HL3 := hide (HL2.out.app O3.out G3.out)
  clear HL1 HL2 O3 G3 E3 RD3 LN3 c2
  have c2 := HL3.out.obj.cI
  rw [EV.out] at c2
  obtain ⟨pre, hpre⟩ : ∃ x, x = xs ++ varB n := ⟨_, rfl⟩
  rw [← hpre] at HL3
  have HPL : Hid (pre.length ≤ 11) := hide (by rw [hpre, List.length_append, HXL.out]; omega)
  have HPE : Hid (layO o = pre ++ (o.items.map itemB).flatten) := hide (by rw [HE.out, hpre]; simp)
  clear hpre HE hvl HXL
  subst hG
  go_wp2_with fail
  clear c2 b1 b2 b3 c0
  go_loopw [3, 5] (fun s3 sk wr => ∃ (k : Nat) (va : Value), va = s3 ∧ sk = .int .i64 k ∧ k ≤ n ∧ RL w wr o v va (pre ++ ((o.items.take k).map itemB).flatten)) (fun _ sk _ => n - (intOf sk).toNat)
  case atStart => exact ⟨0, _, rfl, rfl, by omega, by simpa using HL3.out⟩
  case round =>
    obtain ⟨k, va, hva, rfl, hk2, hL⟩ := hrel
    have HL := hide hL
    have c2 := hL.obj.cI
    rw [EV.out] at c2
    clear HL3
    by_cases hlt : k < n
    · have hki : (k : Int) < (n : Int) := by omega
      have k1 : k < o.items.length := by rw [← HN.out]; exact hlt
      obtain ⟨b, s, d, f1, r1⟩ := RR.out.i.at k (by rw [List.length_map]; exact k1)
      obtain ⟨g1, -, -⟩ := slice_of EV.out f1
      subst g1
      rw [List.getElem_map] at r1
      obtain ⟨p, hp⟩ : ∃ p, p = o.items[k] := ⟨_, rfl⟩
      have op : okI p := by rw [hp]; exact RR.out.ok.i _ (List.getElem_mem _)
      have HQ : Hid (p.2.2.1 ≤ 18446744073709551615) := hide (by rw [hp]; exact HS.out.s _ (List.getElem_mem _))
      have HM : Hid (p.2.1 ≤ 255) := hide (by rw [hp]; exact HS.out.m _ (List.getElem_mem _))
      have HNl : Hid (p.1.length ≤ 64) := hide (by rw [hp]; exact HNM.out _ (List.getElem_mem _))
      rw [← hp] at r1
      have HFl : Hid (((o.items.take (k + 1)).map itemB).flatten = ((o.items.take k).map itemB).flatten ++ itemB p) := hide (by rw [flat_succ itemB _ k k1, ← hp])
      obtain ⟨nm, mo, sz, ky⟩ := p
      have R0 := hide r1
      have OKl : Hid (ky.length = 32) := hide op
      simp only at HQ HM HNl
      obtain ⟨xs, hxs⟩ : ∃ x, x = pre ++ ((o.items.take k).map itemB).flatten := ⟨_, rfl⟩
      rw [← hxs] at HL
      have HXL : Hid (xs.length ≤ 11 + 14976) := hide (by have := FL.out k (by omega); have := HPL.out; rw [hxs, List.length_append]; omega)
      have HXE : Hid (pre ++ ((o.items.take (k + 1)).map itemB).flatten = xs ++ (varB nm.length ++ nm) ++ fixB 1 mo ++ varB sz ++ ky) := hide (by rw [HFl.out, hxs]; unfold itemB; simp)
      have HV1 : Hid ((varB nm.length).length ≤ 10) := hide (varB_len _)
      have HV2 : Hid ((varB sz).length ≤ 10) := hide (varB_len _)
      have HV3 : Hid ((fixB 1 mo).length = 1) := hide (fixB_len _ _)
      obtain ⟨d0, d1, d2⟩ := itemC_cells (rangeAt_below r1 hL.old)
      simp only at d0 d1 d2
      clear hL r1 f1 hp op hxs HFl
      subst hva
      go_wp2_with fail
      refine (rtextb wr nm (by have := HNl.out; omega)).mono ?_
      rintro e w4 ⟨vv4, rfl, o4, hb4⟩
      have HL4 := hide (HL.out.below hb4)
      have RD5 : Hid (RdA w4 vv4 (varB nm.length ++ nm)) := hide (.inl (Rd_owned o4))
      clear o4 hb4
      have LN5 : Hid (xs.length + (varB nm.length ++ nm).length ≤ 140737488355000) := hide (by have := HXL.out; have := HNl.out; have := HV1.out; rw [List.length_append]; omega)
      clear d0 d1 d2 c2
      go_wp2_with (first
        | ((with_reducible refine wpList_append_rdX ?_ (.tmp 69) (.tmp 76) ?_ (w.heap.size + 1) _ vv4 xs (varB nm.length ++ nm) ?_ HL4.out.own ?_ RD5.out LN5.out HL4.out.size ?_); rfl; rfl; rfl; rfl; intro va5 w5 O5 G5 E5; generalize hG : wpList _ _ _ _ _ _ = G))
      have HL5 := hide (HL4.out.app O5.out G5.out)
      obtain ⟨d0, d1, d2⟩ := itemC_cells (rangeAt_below R0.out HL5.out.old)
      simp only at d0 d1 d2
      have c2 := HL5.out.obj.cI
      rw [EV.out] at c2
      clear HL HL4 O5 G5 E5 RD5 LN5
      have HL6 : Hid (RL w (w5.alloc (.cells #[.int .u8 (mo : Int)] 5)) o v va5 (xs ++ (varB nm.length ++ nm))) := hide (HL5.out.below (below_alloc _ _))
      have RD7 := hide (rd_one mo HM.out w5)
      have LN7 : Hid ((xs ++ (varB nm.length ++ nm)).length + (fixB 1 mo).length ≤ 140737488355000) := hide (by have := HXL.out; have := HNl.out; have := HV1.out; have := HV3.out; simp only [List.length_append]; omega)
      subst hG
      go_wp2_with (first
        | ((with_reducible refine wpList_append_rdX ?_ (.tmp 78) (.tmp 85) ?_ (w.heap.size + 1) va5 (.slice (some ⟨w5.heap.size, 0, none⟩) 1 1) (xs ++ (varB nm.length ++ nm)) (fixB 1 mo) ?_ HL6.out.own ?_ RD7.out LN7.out HL6.out.size ?_); rfl; rfl; rfl; rfl; intro va7 w7 O7 G7 E7; generalize hG : wpList _ _ _ _ _ _ = G))
      have HL7 := hide (HL6.out.app O7.out G7.out)
      clear d0 d1 d2 c2
      obtain ⟨d0, d1, d2⟩ := itemC_cells (rangeAt_below R0.out HL7.out.old)
      simp only at d0 d1 d2
      have c2 := HL7.out.obj.cI
      rw [EV.out] at c2
      clear HL5 HL6 O7 G7 E7 RD7 LN7
      subst hG
      go_wp2_with fail
      refine (rvarb w7 sz HQ.out).mono ?_
      rintro e w8 ⟨vv8, rfl, o8, hb8⟩
      have HL8 := hide (HL7.out.below hb8)
      have RD9 : Hid (RdA w8 vv8 (varB sz)) := hide (.inl (Rd_owned o8))
      clear o8 hb8
      have LN9 : Hid ((xs ++ (varB nm.length ++ nm) ++ fixB 1 mo).length + (varB sz).length ≤ 140737488355000) := hide (by have := HXL.out; have := HNl.out; have := HV1.out; have := HV3.out; have := HV2.out; simp only [List.length_append]; omega)
      clear d0 d1 d2 c2
      go_wp2_with (first
        | ((with_reducible refine wpList_append_rdX ?_ (.tmp 87) (.tmp 94) ?_ (w.heap.size + 1) va7 vv8 (xs ++ (varB nm.length ++ nm) ++ fixB 1 mo) (varB sz) ?_ HL8.out.own ?_ RD9.out LN9.out HL8.out.size ?_); rfl; rfl; rfl; rfl; intro va9 w9 O9 G9 E9; generalize hG : wpList _ _ _ _ _ _ = G))
      have HL9 := hide (HL8.out.app O9.out G9.out)
      have c2 := HL9.out.obj.cI
      rw [EV.out] at c2
      have RD10 : Hid (RdA w9 (.slice (some ⟨b, s + k * 35 + 3, none⟩) 32 32) ky) := hide (rdA_key OKl.out (itemC_keyR (rangeAt_below R0.out HL9.out.old)))
      have LN10 : Hid ((xs ++ (varB nm.length ++ nm) ++ fixB 1 mo ++ varB sz).length + ky.length ≤ 140737488355000) := hide (by have := HXL.out; have := HNl.out; have := HV1.out; have := HV3.out; have := HV2.out; have := OKl.out; simp only [List.length_append]; omega)
      have hsk := sliceKey
      clear HL7 HL8 O9 G9 E9 RD9 LN9
      subst hG
      go_wp2_with (first
        | ((with_reducible refine wpList_append_rdX ?_ (.tmp 96) (.tmp 102) ?_ (w.heap.size + 1) va9 (.slice (some ⟨b, s + k * 35 + 3, none⟩) 32 32) (xs ++ (varB nm.length ++ nm) ++ fixB 1 mo ++ varB sz) ky ?_ HL9.out.own ?_ RD10.out LN10.out HL9.out.size ?_); rfl; rfl; rfl; rfl; intro va10 w10 O10 G10 E10; generalize hG : wpList _ _ _ _ _ _ = G))
      have HL10 := hide (HL9.out.app O10.out G10.out)
      clear HL9 O10 G10 E10 RD10 LN10 c2 hsk
      subst hG
      go_wp2
      exact ⟨⟨k + 1, va10, rfl, by go_num, by omega, by rw [HXE.out]; exact HL10.out⟩, by simp [intOf]; omega⟩
    · have hki : ¬ (k : Int) < (n : Int) := by omega
      have HE2 : Hid (layO o = pre ++ ((o.items.take k).map itemB).flatten) := hide (by rw [HPE.out, List.take_of_length_le (by rw [← HN.out]; omega)])
      clear hL
      subst hva
      go_wp2
      go_ret
      exact ⟨_, rfl, by rw [HE2.out]; exact own_baseB HL.out.own (by omega), HL.out.old⟩
end Go.Proofs.YtjcfndiceinkjabDoor
