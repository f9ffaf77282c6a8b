/- ShaSums, walked. -/
import Derived.Test.YtbohbkjkcpncfaaDoorSL2
namespace Go.Proofs.YtbohbkjkcpncfaaDoor
set_option linter.unusedVariables false
set_option linter.unusedSimpArgs false
open Go.RowKit

theorem padL_take (xs : List UInt8) (k : Nat) : (padL xs k).take xs.length = xs := by unfold padL; rw [List.take_left]
theorem RdA.pad {w : World} {B g cap : Nat} {xs : List UInt8} (h : OwnsB w B (.slice (some ⟨g, 0, none⟩) (xs.length + 80) cap) (padL xs 80)) (h1 : xs.length + 80 ≤ cap) (h2 : cap ≤ 9223372036854775807) : RdA w (.slice (some ⟨g, 0, none⟩) xs.length cap) xs := by
  have := Rd.owned_take h (m := xs.length) (c0 := cap) (by rw [padL_len]; omega) (by omega) (by unfold maxLen; omega)
  rw [padL_take] at this
  exact .inl this
theorem bits_byte (op : BinOp) (a b : Int) : ∃ y : UInt8, bits op .u8 a b = (y.toNat : Int) := by
  have h1 := (bits_within op .u8 a b).1
  have h2 := (bits_within op .u8 a b).2
  have h1' : (0 : Int) ≤ bits op .u8 a b := h1
  have h2' : bits op .u8 a b ≤ 255 := h2
  refine ⟨UInt8.ofNat (bits op .u8 a b).toNat, ?_⟩
  rw [UInt8.toNat_ofNat']
  omega
set_option maxRecDepth 40000 in
set_option maxHeartbeats 4000000 in
theorem sums_any (w : World) (hT : Tabs w) (v : Value) (xs : List UInt8) (hv : RdA w v xs) (hlen : xs.length ≤ 140737488353000) : Calls Tryd.prog 3 #[v] w fun e w' => e = .returned (.bool true) ∧ Below w.heap.size w w' := by
  have HV := hide hv
  have HT := hide hT
  obtain ⟨ao, c, rfl, hl63⟩ := hv.slice
  obtain ⟨L, hL⟩ : ∃ L, L = xs.length := ⟨_, rfl⟩
  have HL := hide hL
  rw [← hL] at hlen hl63 HV ⊢
  have HKL := hide (shaOf_len xs)
  obtain ⟨ks, hks⟩ : ∃ ks, ks = shaOf xs := ⟨_, rfl⟩
  rw [← hks] at HKL
  have HKS := hide hks
  clear hv hT hL hks
  go_enter Tryd.func3, Tryd.ntmps3
  go_wp2_with fail
  refine (rsum_any w HT.out _ xs HV.out (by rw [← HL.out]; omega)).mono ?_
  rintro e w1 ⟨rfl, hb1⟩
  rw [← HKS.out]
  have HV1 := hide (HV.out.below hb1)
  have HT1 := hide (HT.out.below hb1)
  clear HV
  go_wp2_with ((with_reducible refine wpList_put_key ?_ (.tmp 3) (.tmp 10) ?_ w1.heap.size ?_ w1 ?_ ?_ ks HKL.out ?_ ?_); rfl; rfl; rfl; rfl; rfl; rfl; intro w2 HK2 hb2)
  have hbw2 := hb1.trans (hb2.mono hb1.size)
  have HV2 := hide (HV1.out.below hb2)
  have HT2 := hide (HT1.out.below hb2)
  clear HV1 HT1
  go_wp2_with fail
  refine (lent_any w2 _ xs HV2.out (by rw [← HL.out]; exact hlen)).mono ?_
  rintro e w3 ⟨g, cap, rfl, hO3, hcl, hcap, hb3⟩
  have HK3 := hide (HK2.out.below hb3)
  have HV3 := hide (HV2.out.below hb3)
  have HT3 := hide (HT2.out.below hb3)
  have hbw3 := hbw2.trans (hb3.mono hbw2.size)
  have hg2 : w2.heap.size ≤ g := (owns_lt hO3 g rfl).1
  have hgw : w.heap.size ≤ g := Nat.le_trans hbw2.size hg2
  have HO3 := hide hO3
  have HP3 := hide (RdA.pad hO3 hcl hcap)
  rw [← HL.out] at HP3 hcl HO3 ⊢
  obtain ⟨B, hB⟩ : ∃ B, B = w2.heap.size := ⟨_, rfl⟩
  rw [← hB] at HO3 hg2
  clear hO3 hb3 HK2 HV2 HT2 hB
  go_wp2_with fail
  refine (ssum_any w3 HT3.out _ xs HP3.out (by rw [← HL.out]; omega)).mono ?_
  rintro e w4 ⟨rfl, hb4⟩
  rw [← HKS.out]
  have HK4 := hide (HK3.out.below hb4)
  have HV4 := hide (HV3.out.below hb4)
  have HT4 := hide (HT3.out.below hb4)
  have HO4 : Hid (OwnsB w4 B (.slice (some ⟨g, 0, none⟩) (L + 80) cap) (padL xs 80)) := hide (owns_below HO3.out hb4)
  have HP4 := hide (HP3.out.below hb4)
  have hbw4 := hbw3.trans (hb4.mono hbw3.size)
  clear HK3 HV3 HT3 HO3 HP3 hb4
  go_wp2_with ((with_reducible refine wpList_put_key ?_ (.tmp 5) (.tmp 14) ?_ w4.heap.size ?_ w4 ?_ ?_ ks HKL.out ?_ ?_); rfl; rfl; rfl; rfl; rfl; rfl; intro w5 HJ5 hb5)
  have HK5 := hide (HK4.out.below hb5)
  have HV5 := hide (HV4.out.below hb5)
  have HT5 := hide (HT4.out.below hb5)
  have HO5 : Hid (OwnsB w5 B (.slice (some ⟨g, 0, none⟩) (L + 80) cap) (padL xs 80)) := hide (owns_below HO4.out hb5)
  have HP5 := hide (HP4.out.below hb5)
  have hbw5 := hbw4.trans (hb5.mono hbw4.size)
  obtain ⟨z5, hz5⟩ : ∃ z5, z5 = w4.heap.size := ⟨_, rfl⟩
  rw [← hz5] at HJ5 ⊢
  clear HK4 HV4 HT4 HO4 HP4 hb5 hz5
  go_wp2_with fail
  refine (ssum_any w5 HT5.out _ xs HP5.out (by rw [← HL.out]; omega)).mono ?_
  rintro e w6 ⟨rfl, hb6⟩
  rw [← HKS.out]
  have HJ6 := hide (HJ5.out.below hb6)
  have HK6 := hide (HK5.out.below hb6)
  have HV6 := hide (HV5.out.below hb6)
  have HT6 := hide (HT5.out.below hb6)
  have HO6 : Hid (OwnsB w6 B (.slice (some ⟨g, 0, none⟩) (L + 80) cap) (padL xs 80)) := hide (owns_below HO5.out hb6)
  have hbw6 := hbw5.trans (hb6.mono hbw5.size)
  clear HJ5 HK5 HV5 HT5 HO5 HP5 hb6
  obtain ⟨z3, hz3⟩ : ∃ z3, z3 = w1.heap.size := ⟨_, rfl⟩
  rw [← hz3] at HK6 ⊢
  clear hz3
  have hg1 := keyGuard .neq ks
  have hn1 := keyNeq ks HKL.out
  go_wp2_with (first | ((with_reducible refine wpList_put_key ?_ (.tmp 6) (.tmp 16) ?_ w6.heap.size ?_ w6 ?_ ?_ ks HKL.out ?_ ?_); rfl; rfl; rfl; rfl; rfl; rfl; intro w7 HI7 hb7; have HJ7 := hide (HJ6.out.below hb7); have HK7 := hide (HK6.out.below hb7)) | ((with_reducible refine wpList_key (.tmp 5) z5 ks HJ7.out ?_ ?_ ?_ ?_); rfl; rfl; rfl) | ((with_reducible refine wpList_key (.tmp 3) z3 ks HK7.out ?_ ?_ ?_ ?_); rfl; rfl; rfl) | ((with_reducible refine wpList_key (.tmp 6) w6.heap.size ks HI7.out ?_ ?_ ?_ ?_); rfl; rfl; rfl))
  have HV7 := hide (HV6.out.below hb7)
  have HT7 := hide (HT6.out.below hb7)
  have HO7 : Hid (OwnsB w7 B (.slice (some ⟨g, 0, none⟩) (L + 80) cap) (padL xs 80)) := hide (owns_below HO6.out hb7)
  have hbw7 := hbw6.trans (hb7.mono hbw6.size)
  have hleft := left_any w7 B g cap (.slice ao L c) xs (by rw [← HL.out]; exact HO7.out) (by rw [← HL.out]; exact hcl) hcap HV7.out
  rw [← HL.out] at hleft
  refine hleft.mono ?_
  rintro e w8 ⟨rfl, hb8⟩
  have HT8 := hide (HT7.out.below hb8)
  have HO8 : Hid (OwnsB w8 B (.slice (some ⟨g, 0, none⟩) (L + 80) cap) (padL xs 80)) := hide (owns_below HO7.out hb8)
  have hbw8 := hbw7.trans (hb8.mono hbw7.size)
  have hpl : (padL xs 80).length = L + 80 := by rw [padL_len, ← HL.out]
  obtain ⟨z7, hz7⟩ : ∃ z7, z7 = w6.heap.size := ⟨_, rfl⟩
  rw [← hz7]
  clear hleft hb8 HV7 HT7 HO7 HJ7 HK7 HI7 HJ6 HK6 HV6 HT6 HO6 hb7 hz7 hbw7 hbw6 hbw5 hbw4 hbw3 hbw2 hb1 hb2
  go_wp2
  go_loopw [7] (fun i wr => ∃ (k : Nat) (zs : List UInt8), i = .int .i64 k ∧ k ≤ L ∧ zs.length = L + 80 ∧ OwnsB wr B (.slice (some ⟨g, 0, none⟩) (L + 80) cap) zs ∧ Below w.heap.size w wr) (fun i _ => L - (intOf i).toNat)
  case atStart => exact ⟨0, _, rfl, by omega, hpl, HO8.out, hbw8⟩
  case round =>
    clear hpl HO8 hbw8
    obtain ⟨k, zs, rfl, hk, hzl, hO, hbel⟩ := hrel
    by_cases hlt : k < L
    · obtain ⟨c1, c2, _⟩ := hO.at k (by omega)
      obtain ⟨x, hx⟩ : ∃ x : UInt8, x = zs[k]'(by omega) := ⟨_, rfl⟩
      rw [← hx] at c1
      obtain ⟨y, hy⟩ := bits_byte .xor (x.toNat : Int) 1
      have HSET := hide (hO.set k y)
      have HY := hide hy
      have hx256 : x.toNat < 256 := x.toNat_lt
      clear hx hO hy
      go_wp2
      rw [HY.out]
      exact ⟨⟨k + 1, zs.set k y, by go_num, by omega, by rw [List.length_set]; exact hzl, HSET.out, hbel.setCell (by show w.heap.size ≤ g; exact hgw) _⟩, by simp [intOf]; omega⟩
    · have hn2 : ¬ (k : Int) < L := by omega
      have htl : (zs.take L).length = L := by rw [List.length_take]; omega
      have hP := Rd.owned_take hO (m := L) (c0 := cap) (by omega) (by omega) (by unfold maxLen; omega)
      obtain ⟨ys, hys⟩ : ∃ ys, ys = zs.take L := ⟨_, rfl⟩
      rw [← hys] at hP htl
      have HPr : Hid (RdA wr (.slice (some ⟨g, 0, none⟩) L cap) ys) := hide (.inl hP)
      have HYL := hide htl
      have HTr := hide (HT.out.below hbel)
      clear hO hP htl hys hlt hk HT8 HT hg1 hn1 HKS HKL
      go_wp2_with fail
      refine (rsum_any wr HTr.out _ ys HPr.out (by rw [HYL.out]; omega)).mono ?_
      rintro e w9 ⟨rfl, hb9⟩
      obtain ⟨k2, hk2⟩ : ∃ k2, k2 = shaOf ys := ⟨_, rfl⟩
      have HK2L := hide (show k2.length = 32 by rw [hk2]; exact shaOf_len ys)
      rw [← hk2]
      have HK2 := hide hk2
      have HP9 := hide (HPr.out.below hb9)
      have HT9 := hide (HTr.out.below hb9)
      have hbw9 := hbel.trans (hb9.mono hbel.size)
      clear hk2 HPr HTr hb9 hbel
      go_wp2_with ((with_reducible refine wpList_put_key ?_ (.tmp 8) (.tmp 46) ?_ w9.heap.size ?_ w9 ?_ ?_ k2 HK2L.out ?_ ?_); rfl; rfl; rfl; rfl; rfl; rfl; intro w10 HM10 hb10)
      have HP10 := hide (HP9.out.below hb10)
      have HT10 := hide (HT9.out.below hb10)
      have hbw10 := hbw9.trans (hb10.mono hbw9.size)
      have HSS := hide (fun d os => ssum_any (Sort.grow (redrawn w10 d) os) (HT10.out.below (below_regrown w10 d os)) _ ys (HP10.out.below (below_regrown w10 d os)) (by rw [HYL.out]; omega))
      have HML := hide (fun d os => (HM10.out.below (below_regrown w10 d os)).load)
      rw [← HK2.out] at HSS
      clear HP9 HT9 hb10 HP10 HT10
      have hg1 := keyGuard .eql k2
      have hn1 := keyEql k2 HK2L.out
      refine wp_region_quiet_below (by kernel_rfl) (by kernel_rfl) ?_
      quiet_step (fail)
      quiet_step (exact Calls.regrown_of (HSS.out _ _))
      refine wpQuiet_val (keyV k2) rfl (fun w hw => ?_) ?_
      · obtain ⟨p, rfl⟩ := hw
        exact run_load rfl rfl (HML.out _ _)
      quiet_step (fail)
      quiet_step (fail)
      refine wpQuiet_nil ?_
      intro _ hw'
      obtain ⟨⟨dq, osq⟩, hw''⟩ := hw'
      subst hw''
      go_wp2
      go_ret
      exact ⟨rfl, hbw10.trans ((below_regrown w10 dq osq).mono hbw10.size)⟩
end Go.Proofs.YtbohbkjkcpncfaaDoor
