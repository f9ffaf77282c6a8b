/- ShaChains, walked. -/
import Derived.Test.YtbohbkjkcpncfaaDoorSN1
import Derived.Test.YtbohbkjkcpncfaaDoorSK7
namespace Go.Proofs.YtbohbkjkcpncfaaDoor
set_option linter.unusedVariables false
set_option linter.unusedSimpArgs false
open Go.RowKit

theorem pad64_all (xs : List UInt8) (h : xs.length = 64) : pad64 64 xs = xs := by
  unfold pad64
  rw [List.take_of_length_le (by omega), h]; simp
set_option maxRecDepth 40000 in
set_option maxHeartbeats 4000000 in
theorem chains_any (w : World) (hT : Tabs w) (v : Value) (xs : List UInt8) (hv : RdA w v xs) (hlen : xs.length ≤ 140737488353000) : Calls Tryd.prog 7 #[v] w fun e w' => e = .returned (.bool true) ∧ Below w.heap.size w w' := by
  have hz3 := hT.sz
  have HV := hide hv
  have HT := hide hT
  obtain ⟨ao, c, rfl, hl63⟩ := hv.slice
  have HTL := hide (fun w => stail w xs.length (by omega))
  have htl := tailL_length xs.length
  have hwh := tailL_whole xs.length
  obtain ⟨L, hL⟩ : ∃ L, L = xs.length := ⟨_, rfl⟩
  have HL := hide hL
  rw [← hL] at hlen hl63 HTL HV htl hwh ⊢
  clear hv hT hL
  go_enter Tryd.func7, Tryd.ntmps7
  go_wp2_with fail
  refine (lives_any w HT.out).mono ?_
  rintro e w1 ⟨rfl, hb1⟩
  have HV1 := hide (HV.out.below hb1)
  go_wp2_with fail
  refine (HTL.out _).mono ?_
  rintro e w2 ⟨vt, rfl, hot, hb2⟩
  have HRT := hide (Rd_owned hot)
  have HV2 := hide (HV1.out.below hb2)
  have hbw2 := hb1.trans (hb2.mono hb1.size)
  obtain ⟨tg, tc, hvt, _⟩ := own_formB hot
  obtain ⟨tn, htn⟩ : ∃ tn, tn = (tailL L).length := ⟨_, rfl⟩
  rw [← htn] at hvt htl hwh
  subst hvt
  have ht9 : 9 ≤ tn := by omega
  have ht72 : tn ≤ 72 := by omega
  have HTN := hide htn
  clear hot hb2 hb1 HV1 HTL htn htl
  go_wp2_with (at_builtin; refine wpList_append_rdX rfl _ _ rfl w2.heap.size _ _ [] xs rfl (World.ownsRow_nil _ _ _ _) rfl HV2.out ?cb ?cc ?_)
  case cb => rw [List.length_nil, ← HL.out]; omega
  case cc => exact Nat.le_refl _
  intro va w3 HO3 HG3 HW3
  have hb3 : Below w2.heap.size w2 w3 := ⟨HG3.out.os, HG3.out.tape, HG3.out.output, HG3.out.size, fun k hk => HG3.out.block k hk (by simp [Value.ownBlock])⟩
  have HRT3 := hide (HRT.out.below hb3)
  have HV3 := hide (HV2.out.below hb3)
  have hbw3 := hbw2.trans (hb3.mono hbw2.size)
  have hN3 : w2.heap.size ≤ w3.heap.size := hb3.size
  clear HG3 HW3 HRT HV2
  go_wp2_with (at_builtin; refine wpList_append_rdX rfl _ _ rfl w2.heap.size _ _ xs (tailL L) rfl HO3.out rfl (.inl HRT3.out) ?da ?db ?_)
  case da => rw [← HL.out, ← HTN.out]; omega
  case db => exact hN3
  intro vb w4 HO4 HG4 HW4
  have hb34 : Below w2.heap.size w3 w4 := below_rowN HG4.out HO3.out hN3
  have hbw4 := hbw3.trans (hb34.mono hbw2.size)
  have hb24 := hb3.trans hb34
  obtain ⟨al, hal⟩ : ∃ al, al = xs ++ tailL L := ⟨_, rfl⟩
  have hall : al.length = L + tn := by rw [hal, List.length_append, ← HL.out, HTN.out]
  rw [← hal] at HO4
  obtain ⟨g, cap, hvb, hgl, hgs, hcl, hcm⟩ := HO4.out.form (by rw [hall]; omega)
  obtain ⟨T, hTt⟩ : ∃ T, T = al.length := ⟨_, rfl⟩
  obtain ⟨K, hK⟩ : ∃ K, K = T / 64 := ⟨_, rfl⟩
  have hTK : T = 64 * K := by omega
  have hT47 : T ≤ 140737488355000 := by omega
  rw [← hTt] at hvb hcl
  subst hvb
  unfold maxLen at hcm
  have HT4 := hide (HT.out.below hbw4)
  have HAL := hide hal
  have HTT := hide hTt
  have HTK := hide hTK
  have hT64 : (T : Int) % 64 = 0 := by omega
  have hT64' : T % 64 = 0 := by omega
  have hT63 : T ≤ 9223372036854775807 := by omega
  clear HO3 HRT3 HG4 HW4 hb34 hb3 hal hall hTt hTK hK hbw2 hbw3 hN3
  clear HV3
  go_wp2_with fail
  refine (start_any _).mono ?_
  rintro e w5 ⟨he, hb5⟩
  rw [val_st8] at he
  subst he
  have HO5 := hide (owns_below HO4.out hb5)
  have hbw5 := hbw4.trans (hb5.mono hbw4.size)
  have hg5 : g < w5.heap.size := Nat.lt_of_lt_of_le hgs hb5.size
  clear HO4 HT4 hb5
  have HOB := hide (all_oneCell_toArray (st8_one begin8))
  go_wp2_with ((with_reducible refine wpList_store_blk ?_ 33 (.tmp 5) (.tmp 37) ?_ w5.heap.size 8 _ (st8 begin8).toArray 33 ?_ ?_ ?_ ?_ (Blk.made w5 _ _) infoS8 HOB.out ?_); rfl; rfl; rfl; rfl; rfl; rfl; intro w6 hk6 hg6)
  have hb56 : Below w5.heap.size w5 w6 := below_grownBy (grownBy_trans (World.grownBy_alloc _ _ _) hg6) (Nat.le_refl _) (Nat.le_refl _)
  obtain ⟨z5, hz5⟩ : ∃ z5, z5 = w5.heap.size := ⟨_, rfl⟩
  rw [← hz5] at hk6 ⊢
  have HO6 : Hid (OwnsB w6 w2.heap.size (.slice (some ⟨g, 0, none⟩) T cap) al) := hide (owns_below HO5.out hb56)
  have hbw6 := hbw5.trans (hb56.mono hbw5.size)
  have hzg : g < z5 := by omega
  have hzN : w.heap.size ≤ z5 := by have := hbw5.size; omega
  have hz53 : 3 ≤ z5 := by omega
  have HS6 := hide hk6
  clear HO5 hb56 hg6 hk6 hbw5 hz5 hg5
  obtain ⟨B, hB⟩ : ∃ B, B = w2.heap.size := ⟨_, rfl⟩
  rw [← hB] at HO6
  clear hb24 hB hgl hgs
  go_loopw [6] (fun i wr => ∃ k : Nat, i = .int .i64 (64 * k : Nat) ∧ k ≤ K ∧ Blk wr z5 (st8 (chain begin8 k al)).toArray 33 ∧ OwnsB wr B (.slice (some ⟨g, 0, none⟩) T cap) al ∧ Below w.heap.size w wr) (fun i _ => T + 1 - (intOf i).toNat)
  case atStart => exact ⟨0, rfl, by omega, HS6.out, HO6.out, hbw6⟩
  case round =>
    clear HS6 HO6 hbw6
    obtain ⟨k, rfl, hk, hS, hO, hbel⟩ := hrel
    have hTK := HTK.out
    obtain ⟨a, ha⟩ : ∃ a, a = 64 * k := ⟨_, rfl⟩
    rw [← ha]
    by_cases hlt : k < K
    · have hal : T = al.length := HTT.out
      obtain ⟨bb, hbbd⟩ : ∃ bb, bb = (al.drop a).take 64 := ⟨_, rfl⟩
      have hbb : bb.length = 64 := by rw [hbbd, List.length_take, List.length_drop]; omega
      have hat : ∀ j, j < 64 → bb[j]? = al[a + j]? := by
        intro j h
        rw [hbbd, List.getElem?_take_of_lt h, List.getElem?_drop]
      obtain ⟨sv, hsv⟩ : ∃ sv, sv = chain begin8 k al := ⟨_, rfl⟩
      have hok : sv.ok := by rw [hsv]; exact chain_ok begin8_ok k al
      have hnx : chain begin8 (k + 1) al = blk sv bb := by rw [hsv, hbbd, ha]; exact chain_next begin8 k al (by omega)
      rw [← hsv] at hS
      have le1 : (a : Int) + 64 ≤ T := by omega
      have le2 : a + 64 ≤ T := by omega
      have HS := hide hS
      have HO := hide hO
      have HOK := hide hok
      have HNX := hide hnx
      have HBB := hide hbb
      have HAT := hide hat
      have HA := hide ha
      clear hS hO hok hnx hbbd hal ha hTK hsv hbb hat
      go_wp2
      obtain ⟨wp, rfl⟩ : ∃ w0, w0 = wr := ⟨_, rfl⟩
      have HS' := hide (HS.out.alloc (.cells ((pad64 0 bb).map u8c).toArray 34))
      go_loopw [8] (fun i wr => ∃ j : Nat, i = .int .i64 j ∧ j ≤ 64 ∧ Blk wr wp.heap.size ((pad64 j bb).map u8c).toArray 34 ∧ Below wp.heap.size wp wr) (fun i _ => 64 - (intOf i).toNat)
      case atStart =>
        exact ⟨0, rfl, by omega, Blk.made wp _ _, (Below.refl _ _).alloc (Nat.le_refl _) _⟩
      case round =>
        clear HS'
        obtain ⟨j, rfl, hj, hB, hbl⟩ := hrel
        have hbw : Below w.heap.size w wr := hbel.trans (hbl.mono hbel.size)
        by_cases hlt2 : j < 64
        · have hOr : OwnsB wr B (.slice (some ⟨g, 0, none⟩) T cap) al := owns_below HO.out hbl
          have hajl : a + j < al.length := by rw [← HTT.out]; omega
          have hjb : j < bb.length := by rw [HBB.out]; exact hlt2
          have hcell := (hOr.at (a + j) hajl).1
          have heq := HAT.out j hlt2
          rw [List.getElem?_eq_getElem hjb, List.getElem?_eq_getElem hajl] at heq
          rw [← Option.some.inj heq] at hcell
          have hset := pad64_set j bb hlt2 hjb
          have hz : ∃ q : Int, wr.cell? ⟨wp.heap.size, j, none⟩ = some (.int .u8 q) := by
            have hpl := pad64_len j bb hj
            exact ⟨_, blk_at hB (by rw [List.getElem?_map, List.getElem?_eq_getElem (by omega)]; rfl)⟩
          obtain ⟨q, hz⟩ := hz
          have pf := hB.frozen j
          have HBS := hide (blk_set hB j (u8c bb[j]))
          rw [← List.map_set, hset] at HBS
          obtain ⟨x, hx⟩ : ∃ x : Int, x = (bb[j].toNat : Int) := ⟨_, rfl⟩
          unfold u8c at HBS
          rw [← hx] at hcell HBS
          have hajT : a + j < T := by omega
          clear hB hset hx heq hajl hjb hOr
          go_wp2
          exact ⟨⟨j + 1, by go_num, by omega, HBS.out, hbl.setCell (Nat.le_refl _) _⟩, by simp [intOf]; omega⟩
        · have hj64 : j = 64 := by omega
          have hj2 : ¬ (j : Int) < 64 := by omega
          rw [hj64, pad64_all bb HBB.out] at hB
          have HB := hide hB
          have HSr := hide (Blk.below HS.out hbl (Blk.lt HS.out))
          have hOr : OwnsB wr B (.slice (some ⟨g, 0, none⟩) T cap) al := owns_below HO.out hbl
          have HOr := hide hOr
          have HTr := hide (HT.out.below hbw)
          obtain ⟨bc, hbc⟩ : ∃ bc, bc = (bb.map u8c).toArray := ⟨_, rfl⟩
          rw [← hbc] at HB
          have HBC := hide (show bc.size = 64 by rw [hbc]; simp [HBB.out])
          have HCALL := hide (block_any wr HTr.out sv HOK.out bb HBB.out)
          rw [← hbc, val_st8, val_st8] at HCALL
          have HST := hide (show (st8 sv).toArray.size = 8 from rfl)
          obtain ⟨r, hr⟩ : ∃ r, r = blk sv bb := ⟨_, rfl⟩
          rw [← hr] at HCALL HNX
          have HO1 := hide (all_oneCell_toArray (st8_one r))
          clear hB hj64 hlt2 hj hOr hbc HO HS hr
          go_wp2_with (first | ((with_reducible refine wpList_load_blk ?_ 33 _ Tryd.underlying33 ?_ 8 infoS8 (.tmp 5) ?_ z5 ?_ (st8 sv).toArray _ HSr.out HST.out ?_); rfl; rfl; rfl; rfl) | ((with_reducible refine wpList_load_blk ?_ 34 _ Tryd.underlying34 ?_ 64 infoB64 (.tmp 7) ?_ wp.heap.size ?_ bc _ HB.out HBC.out ?_); rfl; rfl; rfl; rfl))
          refine HCALL.out.mono ?_
          rintro e w7 ⟨rfl, hb7⟩
          have HS7 := hide (Blk.below HSr.out hb7 (Blk.lt HSr.out))
          have hO7 : OwnsB w7 B (.slice (some ⟨g, 0, none⟩) T cap) al := owns_below HOr.out hb7
          have HO7 := hide hO7
          have hbw7 := hbw.trans (hb7.mono hbw.size)
          clear HB HSr HOr HTr HCALL hO7 hb7 hbw hbl hbel
          have HRS := hide (show (st8 r).toArray.size = 8 from rfl)
          go_wp2_with ((with_reducible refine wpList_store_blk ?_ 33 (.tmp 5) (.tmp 59) ?_ z5 8 _ (st8 r).toArray 33 HRS.out HST.out ?_ ?_ HS7.out infoS8 HO1.out ?_); rfl; rfl; rfl; rfl; intro w8 hk8 hg8; have HK8 := hide hk8; clear hk8)
          have hO8 : OwnsB w8 B (.slice (some ⟨g, 0, none⟩) T cap) al := owns_grown HO7.out hg8 (fun g' e e2 => by have h1 : g = g' := Option.some.inj e; have h2 : g' = z5 := Option.some.inj e2; omega)
          refine ⟨⟨k + 1, ?_, by omega, ?_, hO8, hbw7.trans (below_grownBy hg8 hzN hbw7.size)⟩, by simp [intOf]; omega⟩
          · have := HA.out
            congr 1; omega
          · rw [HNX.out]; exact HK8.out
    · have hkK : k = K := by omega
      have hge : ¬ (a : Int) + 64 ≤ T := by omega
      have haT2 : a ≤ T := by omega
      obtain ⟨sv, hsv⟩ : ∃ sv, sv = chain begin8 k al := ⟨_, rfl⟩
      rw [← hsv] at hS
      have HSV := hide (show shaOf xs = bytes8 sv by
        have e1 := HAL.out
        have e2 := HTT.out
        have e3 := HL.out
        have e4 : K = T / 64 := by omega
        unfold shaOf
        rw [← e3, ← e1, hsv, hkK, e4, e2, e1, List.length_append, ← e3])
      have HSO := hide (show sv.ok by rw [hsv]; exact chain_ok begin8_ok k al)
      have HS := hide hS
      have HVr := hide (HV.out.below hbel)
      have HTr := hide (HT.out.below hbel)
      have hzlt : z5 < wr.heap.size := Blk.lt hS
      obtain ⟨wp, hwp⟩ : ∃ w0, w0 = wr := ⟨_, rfl⟩
      rw [← hwp] at hbel HS HVr HTr hzlt ⊢
      clear hS hO hkK hlt hk hsv ha hTK HTK hwp
      go_wp2_with fail
      refine (ssum_any wp HTr.out _ xs HVr.out (by rw [← HL.out]; omega)).mono ?_
      rintro e w7 ⟨rfl, hb7⟩
      rw [HSV.out]
      obtain ⟨ks, hks⟩ : ∃ ks, ks = bytes8 sv := ⟨_, rfl⟩
      rw [← hks]
      have HKL := hide (show ks.length = 32 by rw [hks]; exact bytes8_len sv)
      have HKS := hide hks
      have HS7 := hide (Blk.below HS.out hb7 (Blk.lt HS.out))
      have hbw7 := hbel.trans (hb7.mono hbel.size)
      clear HS HVr HTr hks hbel hb7
      go_wp2_with ((with_reducible refine wpList_put_key ?_ (.tmp 9) (.tmp 61) ?_ w7.heap.size ?_ w7 ?_ ?_ ks HKL.out ?_ ?_); rfl; rfl; rfl; rfl; rfl; rfl; intro w8 HK8 hb8)
      have HS8 := hide (Blk.below HS7.out hb8 (Blk.lt HS7.out))
      have hbw8 := hbw7.trans (hb8.mono hbw7.size)
      obtain ⟨z9, hz9⟩ : ∃ z9, z9 = w7.heap.size := ⟨_, rfl⟩
      rw [← hz9] at HK8 ⊢
      clear HS7 hb8 hbw7 hz9
      go_loopw [10] (fun i wr => ∃ n : Nat, i = .int .i64 n ∧ n ≤ 32 ∧ Below w8.heap.size w8 wr) (fun i _ => 32 - (intOf i).toNat)
      case atStart => exact ⟨0, rfl, by omega, Below.refl _ _⟩
      case round =>
        obtain ⟨n, rfl, hn, hbr⟩ := hrel
        by_cases hlt : n < 32
        · have hq4 : n / 4 < 8 := by omega
          have c1 := Blk8.at (Blk.below HS8.out hbr (Blk.lt HS8.out)) (n / 4) hq4
          have hx := nats_lt HSO.out (n / 4)
          have hkl := HKL.out
          have c2 := blk_at (HK8.out.below hbr).1 (i := n) (v := u8c (ks[n]'(by omega))) (by rw [List.getElem?_map, List.getElem?_eq_getElem (by omega)]; rfl)
          have hbyte := bytes8_at sv n hlt
          have hks := HKS.out
          have hkn : ks[n]'(by omega) = UInt8.ofNat (sv.nats[n / 4]?.getD 0 / 2 ^ (24 - 8 * (n % 4)) % 256) := by
            rw [← hbyte]
            simp only [hks]
          rw [hkn, byte_cell] at c2
          generalize sv.nats[n / 4]?.getD 0 = x at c1 hx c2
          obtain ⟨j, hj⟩ : ∃ j, j = n / 4 := ⟨_, rfl⟩
          obtain ⟨i, hi⟩ : ∃ i, i = 24 - 8 * (n % 4) := ⟨_, rfl⟩
          rw [← hj] at c1
          rw [← hi] at c2
          have e1 : (n : Int) / 4 = j := by omega
          have e2 : 24 - 8 * ((n : Int) % 4) = (i : Int) := by omega
          have hj8 : (j : Int) < 8 := by omega
          have hi24 : i ≤ 24 := by omega
          clear hbyte hks hkn hkl hj hi hq4
          go_wp2
          go_quiet (fail)
          go_wp2
          exact ⟨⟨n + 1, by go_num, by omega, hbr.trans ⟨rfl, rfl, rfl, Nat.le_refl _, fun _ _ => rfl⟩⟩, by simp [intOf]; omega⟩
        · have hn2 : ¬ (n : Int) < 32 := by omega
          go_wp2
          go_ret
          exact ⟨rfl, hbw8.trans (hbr.mono hbw8.size)⟩
end Go.Proofs.YtbohbkjkcpncfaaDoor
