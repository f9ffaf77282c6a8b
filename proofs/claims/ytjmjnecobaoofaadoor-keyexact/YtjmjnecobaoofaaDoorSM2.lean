/- The document's Sum, walked. -/
import Derived.Test.YtjmjnecobaoofaaDoorSM1
namespace Go.Proofs.YtjmjnecobaoofaaDoor
set_option linter.unusedVariables false
set_option linter.unusedSimpArgs false
open Go.RowKit

theorem below_rowN {w w' : World} {B : Nat} {v : Value} {xs : List UInt8} (hg : w.grownBy w' v.ownBlock) (ho : OwnsB w B v xs) (hB : B ≤ w.heap.size) : Below B w w' :=
  own_below (Below.refl _ _) ho hB hg
theorem chain_next (s : S8) (k : Nat) (xs : List UInt8) (h : 64 * (k + 1) ≤ xs.length) : chain s (k + 1) xs = blk (chain s k xs) ((xs.drop (64 * k)).take 64) := by
  have h1 := chain_take s (k + 1) xs (64 * (k + 1)) (Nat.le_refl _)
  have h2 := chain_take s k xs (64 * k) (Nat.le_refl _)
  have e : xs.take (64 * (k + 1)) = xs.take (64 * k) ++ (xs.drop (64 * k)).take 64 := by rw [Nat.mul_add, Nat.mul_one, List.take_add]
  rw [← h1, e, chain_succ s k _ _ (by rw [List.length_take]; omega) (by rw [List.length_take, List.length_drop]; omega), h2]
set_option maxRecDepth 40000 in
set_option maxHeartbeats 4000000 in
theorem rsum_any (w : World) (hT : Tabs w) (v : Value) (xs : List UInt8) (hv : RdA w v xs) (hlen : xs.length ≤ 140737488354000) : Calls Tryd.prog 21 #[v] w fun e w' => e = .returned (keyV (shaOf xs)) ∧ Below w.heap.size w w' := by
  have hz3 := hT.sz
  have HV := hide hv
  have HT := hide hT
  obtain ⟨ao, c, rfl, hl63⟩ := hv.slice
  have HTL := hide (fun w => rtail w xs.length (by omega))
  have htl := tailL_length xs.length
  have hwh := tailL_whole xs.length
  obtain ⟨kz, hkz⟩ : ∃ kz : Array Value, kz = keyZ := ⟨_, rfl⟩
  have HKZ := hide (show kz.size = 32 by rw [hkz]; rfl)
  obtain ⟨L, hL⟩ : ∃ L, L = xs.length := ⟨_, rfl⟩
  have HL := hide hL
  rw [← hL] at hlen hl63 HTL HV htl hwh ⊢
  clear hv hT hL
  go_enter Tryd.func21, Tryd.ntmps21
  go_wp2_with (at_builtin; refine wpList_append_rdX rfl _ _ rfl (w.heap.size + 1) _ _ [] xs rfl (World.ownsRow_nil _ _ _ _) rfl (HV.out.below ?ca) ?cb ?cc ?_)
  case ca => exact (Below.refl _ _).alloc (Nat.le_refl _) _
  case cb => rw [List.length_nil, ← HL.out]; omega
  case cc => simp
  intro va w1 HO1 HG1 HW1
  have hb01 : Below (w.heap.size + 1) (w.alloc (.cells kz 24)) w1 := by
    rw [hkz]
    exact ⟨HG1.out.os, HG1.out.tape, HG1.out.output, HG1.out.size, fun k hk => HG1.out.block k (by simpa using hk) (by simp [Value.ownBlock])⟩
  have HK1 : Hid (Blk w1 w.heap.size kz 24) := hide (Blk.below (Blk.made w kz 24) hb01 (Nat.lt_succ_self _))
  have hbw1 : Below w.heap.size w w1 := ((Below.refl _ _).alloc (Nat.le_refl _) _).trans (hb01.mono (Nat.le_succ _))
  have hN1 : w.heap.size + 1 ≤ w1.heap.size := by have := hb01.size; simpa using this
  clear HG1 HW1 hb01 hkz
  go_wp2_with fail
  refine (HTL.out _).mono ?_
  rintro e w2 ⟨vt, rfl, hot, hb2⟩
  have HO2 := hide (owns_below HO1.out hb2)
  have HRT := hide (Rd_owned hot)
  have HK2 := hide (Blk.below HK1.out hb2 (Blk.lt HK1.out))
  have hbw2 := hbw1.trans (hb2.mono hbw1.size)
  have hN2 := Nat.le_trans hN1 hb2.size
  clear HO1 HK1 hot hb2 hbw1 hN1 HTL
  go_wp2_with (at_builtin; refine wpList_append_rdX rfl _ _ rfl (w.heap.size + 1) _ _ xs (tailL L) rfl HO2.out rfl (.inl HRT.out) ?da ?db ?_)
  case da => rw [← HL.out]; omega
  case db => exact hN2
  intro vb w3 HO3 HG3 HW3
  have hb23 : Below (w.heap.size + 1) w2 w3 := below_rowN HG3.out HO2.out hN2
  have HK3 := hide (Blk.below HK2.out hb23 (Nat.lt_succ_self _))
  have hbw3 := hbw2.trans (hb23.mono (Nat.le_succ _))
  have hN3 := Nat.le_trans hN2 hb23.size
  obtain ⟨al, hal⟩ : ∃ al, al = xs ++ tailL L := ⟨_, rfl⟩
  have hall : al.length = L + (tailL L).length := by rw [hal, List.length_append, ← HL.out]
  rw [← hal] at HO3
  obtain ⟨g, cap, hvb, hgl, hgs, hcl, hcm⟩ := HO3.out.form (by rw [hall]; omega)
  obtain ⟨T, hTt⟩ : ∃ T, T = al.length := ⟨_, rfl⟩
  obtain ⟨K, hK⟩ : ∃ K, K = T / 64 := ⟨_, rfl⟩
  have hTK : T = 64 * K := by omega
  have hT47 : T ≤ 140737488355000 := by omega
  rw [← hTt] at hvb hcl
  subst hvb
  unfold maxLen at hcm
  have HT3 := hide (HT.out.below hbw3)
  have HAL := hide hal
  have HTT := hide hTt
  have HTK := hide hTK
  have hT63 : T ≤ 9223372036854775807 := by omega
  clear HO2 HRT HK2 HG3 HW3 hb23 hbw2 hN2 hal hall hTt HT hTK
  go_wp2_with fail
  refine (rstart_any _ HT3.out).mono ?_
  rintro e w4 ⟨he, hb4⟩
  rw [val_st8] at he
  subst he
  have HO4 := hide (owns_below HO3.out hb4)
  have HK4 := hide (Blk.below HK3.out hb4 (Blk.lt HK3.out))
  have HT4 := hide (HT3.out.below hb4)
  have hbw4 := hbw3.trans (hb4.mono hbw3.size)
  have hN4 := Nat.le_trans hN3 hb4.size
  have hg4 : g < w4.heap.size := Nat.lt_of_lt_of_le hgs hb4.size
  clear HO3 HK3 HT3 hb4 hbw3 hN3
  have HOB := hide (all_oneCell_toArray (st8_one begin8))
  go_wp2_with ((with_reducible refine wpList_store_blk ?_ 56 (.tmp 4) (.tmp 18) ?_ w4.heap.size 8 _ (st8 begin8).toArray 56 ?_ ?_ ?_ ?_ (Blk.made w4 _ _) infoS8 HOB.out ?_); rfl; rfl; rfl; rfl; rfl; rfl; intro w5 hk5 hg5)
  have hg45 : w4.grownBy w5 (some w4.heap.size) := grownBy_trans (World.grownBy_alloc _ _ _) hg5
  have hb45 : Below w4.heap.size w4 w5 := below_grownBy hg45 (Nat.le_refl _) (Nat.le_refl _)
  obtain ⟨z4, hz4⟩ : ∃ z4, z4 = w4.heap.size := ⟨_, rfl⟩
  rw [← hz4] at hk5 ⊢
  have HK5 := hide (Blk.below HK4.out hb45 (Blk.lt HK4.out))
  have HO5 := hide (owns_below HO4.out hb45)
  have HT5 := hide (HT4.out.below hb45)
  have hbw5 := hbw4.trans (hb45.mono hbw4.size)
  have hzg : g < z4 := by omega
  have hzN : w.heap.size < z4 := by omega
  have hz43 : 4 ≤ z4 := by omega
  have HS5 := hide hk5
  clear HO4 HK4 HT4 hb45 hg45 hg5 hk5 hbw4 hN4 hg4 hz4
  go_loopw [5] (fun i wr => ∃ k : Nat, i = .int .i64 (64 * k : Nat) ∧ k ≤ K ∧ Blk wr z4 (st8 (chain begin8 k al)).toArray 56 ∧ w5.grownBy wr (some z4)) (fun i _ => T + 1 - (intOf i).toNat)
  case atStart => exact ⟨0, rfl, by omega, HS5.out, ⟨rfl, rfl, rfl, Nat.le_refl _, fun _ _ _ => rfl⟩⟩
  case round =>
    obtain ⟨k, rfl, hk, hS, hgr⟩ := hrel
    have hTK := HTK.out
    obtain ⟨a, ha⟩ : ∃ a, a = 64 * k := ⟨_, rfl⟩
    rw [← ha]
    by_cases hlt : k < K
    · have hOr : OwnsB wr (w.heap.size + 1) (.slice (some ⟨g, 0, none⟩) T cap) al := owns_grown HO5.out hgr (fun g' e e2 => by have h1 : g = g' := Option.some.inj e; have h2 : g' = z4 := Option.some.inj e2; omega)
      have hTr := HT5.out.grown hgr (fun b e => by rw [← Option.some.inj e]; exact hz43)
      have hal : T = al.length := HTT.out
      have hbb : ((al.drop a).take 64).length = 64 := by rw [List.length_take, List.length_drop]; omega
      have hrdb : ∀ W, Below wr.heap.size wr W → Rd W (.slice (some ⟨g, a, none⟩) 64 (cap - a)) ((al.drop a).take 64) := by
        intro W hW
        have hO : OwnsB W (w.heap.size + 1) (.slice (some ⟨g, 0, none⟩) T cap) al := owns_below hOr hW
        refine ⟨_, cap - a, by rw [hbb], by rw [hbb]; omega, by unfold maxLen; omega, .inr ⟨_, _, rfl, fun i hi => ?_⟩⟩
        rw [hbb] at hi
        have := (hO.at (a + i) (by omega)).1
        rw [this]
        unfold u8c
        rw [List.getElem_take, List.getElem_drop]
      have hok := chain_ok begin8_ok k al
      have hnx : chain begin8 (k + 1) al = blk (chain begin8 k al) ((al.drop a).take 64) := by rw [ha]; exact chain_next begin8 k al (by omega)
      have le1 : (a : Int) + 64 ≤ T := by omega
      have HSr := hide hS
      have HGr := hide hgr
      have HHK := hide (show ∀ W', Below wr.heap.size wr W' → Calls Tryd.prog 32 #[.agg (st8 (chain begin8 k al)).toArray, .slice (some ⟨g, a, none⟩) 64 (cap - a)] W' fun e w' => e = .returned (.agg (st8 (blk (chain begin8 k al) ((al.drop a).take 64))).toArray) ∧ Below W'.heap.size W' w' from fun W' hW' => rblock_any W' (hTr.below hW') _ hok _ _ (hrdb W' hW') hbb)
      have HNX := hide hnx
      have HA := hide ha
      clear hS hOr hTr hrdb hok hnx hbb hal ha hTK hgr
      go_wp2_with fail
      refine m8_walk _ (fun _ _ _ _ _ h => h) wr z4 g T cap a _ _ HSr.out (by omega) hcl (by omega) HHK.out _ (Nat.lt_of_sub_pos (by exact Nat.succ_pos _)) rfl rfl rfl ?_
      intro w6 hb6 w7 hk7 hg7
      have HK7 := hide hk7
      have HG7 := hide (grownBy_trans (grownBy_trans HGr.out (grownBy_below hb6)) hg7)
      clear hk7 hg7 hb6 HHK HSr HGr
      simp only [Act.put, List.setIfInBounds_toArray, List.set_cons_zero, List.set_cons_succ]
      go_wp2
      refine ⟨⟨k + 1, ?_, by omega, ?_, HG7.out⟩, by simp [intOf]; omega⟩
      · have := HA.out
        congr 1; omega
      · rw [HNX.out]; exact HK7.out
    · have hkK : k = K := by omega
      have haT : a = T := by omega
      have hge : ¬ (a : Int) + 64 ≤ T := by omega
      have hw64 : IntKind.i64.wrap ((a : Int) + 64) = (a : Int) + 64 := by
        have e := wrapi64_nat (a + 64) (by omega)
        rwa [Int.natCast_add] at e
      have HS5 := hide hS
      have hKr := hide (HK5.out.grown hgr (fun e => by have := Option.some.inj e; omega))
      have hbr := hbw5.trans (below_grownBy hgr (by omega) hbw5.size)
      obtain ⟨sv, hsv⟩ : ∃ sv, sv = chain begin8 k al := ⟨_, rfl⟩
      rw [← hsv] at HS5
      have hsok : sv.ok := by rw [hsv]; exact chain_ok begin8_ok k al
      have HSV := hide (show shaOf xs = bytes8 sv by
        have e1 := HAL.out
        have e2 := HTT.out
        have e3 := HL.out
        unfold shaOf
        rw [← e3, ← e1, hsv, hkK, hK, e2, e1, List.length_append, ← e3])
      have HSO := hide hsok
      obtain ⟨wp, hwp⟩ : ∃ w0, w0 = wr := ⟨_, rfl⟩
      have hz4p : z4 < wp.heap.size := by rw [hwp]; exact Blk.lt hS
      rw [← hwp] at HS5 hKr hbr ⊢
      have HKK := hide hkK
      have haT2 : a ≤ T := by omega
      clear hS hgr hwp HTK ha hsv hsok haT hkK hlt hk hw64 hTK hK
      clear HO5 HT5 HK5
      go_wp2
      obtain ⟨z6, hz6⟩ : ∃ z6, z6 = wp.heap.size := ⟨_, rfl⟩
      have HS6 := hide (HS5.out.alloc (.cells keyZ 24))
      have HR6 := hide (hKr.out.alloc (.cells keyZ 24))
      have HZ6 := hide (show Blk (wp.alloc (.cells keyZ 24)) z6 ((keyK sv 0).map u8c).toArray 24 by rw [hz6]; exact Blk.made wp _ _)
      have hb6 : Below w.heap.size w (wp.alloc (.cells keyZ 24)) := hbr.alloc hbr.size _
      rw [← hz6] at hz4p ⊢
      clear HS5 hKr hz6
      go_loopw [7, 8] (fun i _ wr => ∃ k : Nat, i = .int .i64 k ∧ k ≤ 32 ∧ Blk8 wr z4 sv ∧ Blk wr w.heap.size kz 24 ∧ Blk wr z6 ((keyK sv k).map u8c).toArray 24 ∧ Below w.heap.size w wr) (fun i _ _ => 32 - (intOf i).toNat)
      case atStart => exact ⟨0, rfl, by omega, HS6.out, HR6.out, HZ6.out, hb6⟩
      case round =>
        obtain ⟨k, rfl, hk, h8, hZ, hK, hbel⟩ := hrel
        by_cases hlt : k < 32
        · have hq4 : k / 4 < 8 := by omega
          have c1 := Blk8.at h8 (k / 4) hq4
          have hx := nats_lt HSO.out (k / 4)
          obtain ⟨q, hq⟩ := keyK_next sv k hlt
          have c2 := blk_at hK hq
          have hf := hK.frozen k
          have hset := blk_set hK k (u8c (UInt8.ofNat (sv.nats[k / 4]?.getD 0 / 2 ^ (24 - 8 * (k % 4)) % 256)))
          rw [← List.map_set, keyK_set sv k hlt] at hset
          generalize sv.nats[k / 4]?.getD 0 = x at c1 hx hset
          obtain ⟨j, hj⟩ : ∃ j, j = k / 4 := ⟨_, rfl⟩
          obtain ⟨i, hi⟩ : ∃ i, i = 24 - 8 * (k % 4) := ⟨_, rfl⟩
          rw [← hj] at c1
          rw [← hi] at hset
          have e1 : (k : Int) / 4 = j := by omega
          have e2 : 8 * (3 - (k : Int) % 4) = (i : Int) := by omega
          have hj8 : (j : Int) < 8 := by omega
          have hi24 : i ≤ 24 := by omega
          have HSET := hide hset
          have H8 := hide h8
          have HZ := hide hZ
          have HP := hide (fun W => part_any W i (by omega))
          clear hset h8 hZ hK hq hj hi hq4
          go_wp2_with fail
          refine (HP.out _).mono ?_
          rintro e w7 ⟨rfl, rfl⟩
          have hp0 : 0 < 2 ^ i := Nat.two_pow_pos i
          have hp24 : 2 ^ i ≤ 2 ^ 24 := Nat.pow_le_pow_right (by omega) hi24
          generalize 2 ^ i = p at hp0 hp24 HSET
          have hxp : x / p < 4294967296 := Nat.lt_of_le_of_lt (Nat.div_le_self _ _) hx
          clear HP
          go_wp2
          have hv : (IntKind.u64.wrap ((x : Int) / (p : Int))).tmod 256 % 256 = ((x / p % 256 : Nat) : Int) := by
            rw [← Int.natCast_ediv]
            generalize x / p = y at hxp
            rw [wrap64_nat y (by omega), Int.tmod_eq_emod_of_nonneg (by omega)]
            omega
          rw [hv]
          refine ⟨⟨k + 1, by go_num, by omega, Blk.setOther H8.out ⟨z6, k, none⟩ _ (by show z4 ≠ z6; omega), HZ.out.setOther ⟨z6, k, none⟩ _ (by show w.heap.size ≠ z6; omega), ?_, hbel.setCell (by show w.heap.size ≤ z6; omega) _⟩, by simp [intOf]; omega⟩
          have h := HSET.out
          rw [byte_cell] at h
          exact h
        · have hk32 : k = 32 := by omega
          rw [hk32, keyK_all] at hK
          have hk2 : ¬ (k : Int) < 32 := by omega
          have HZ := hide hZ
          have HK := hide hK
          obtain ⟨kc, hkc⟩ : ∃ kc, kc = ((bytes8 sv).map u8c).toArray := ⟨_, rfl⟩
          rw [← hkc] at HK
          have HLc := hide (show kc.size = 32 by rw [hkc]; simp [bytes8_len])
          have HO := hide (show kc.all (·.oneCell') = true by rw [hkc]; exact all_oneCell_toArray (u8c_one (bytes8 sv)))
          have HKC := hide hkc
          clear hZ hK hkc h8 hk32 hlt hk
          go_wp2_with (first | ((with_reducible refine wpList_load_blk ?_ 24 _ Tryd.underlying24 ?_ 32 infoKey (.tmp 6) ?_ z6 ?_ kc _ HK.out HLc.out ?_); rfl; rfl; rfl; rfl) | ((with_reducible refine wpList_store_blk ?_ 24 (.tmp 2) (.tmp 53) ?_ w.heap.size 32 _ kc 24 HLc.out HKZ.out ?_ ?_ HZ.out infoKey HO.out ?_); rfl; rfl; rfl; rfl; intro w8 hk8 hg8))
          refine bodyPost_ret (results_cell rfl _ _ _ rfl _ (loadBlkT hk8 24 _ Tryd.underlying24 rfl 32 infoKey HLc.out)) rfl ?_
          refine ⟨by rw [HKC.out, HSV.out]; rfl, hbel.trans (below_grownBy hg8 (Nat.le_refl _) hbel.size)⟩
end Go.Proofs.YtjmjnecobaoofaaDoor
