/- KeyExact, walked. -/
import Derived.Test.YtjmjnecobaoofaaDoorKX3
namespace Go.Proofs.YtjmjnecobaoofaaDoor
set_option linter.unusedVariables false
set_option linter.unusedSimpArgs false
open Go.RowKit

theorem loadAt_sl {w : World} {z o : Nat} {v : Value} (hc : w.cell? ⟨z, o, none⟩ = some v) : (Instr.loadAt 22 (.pointer (some ⟨z, o, none⟩))).run Tryd.prog w = .ok v w := by
  have := Tryd.underlying22
  simp [Instr.loadAt, Instr.sureAddr, go_sem, hc, this]
def ExC (w : World) (e : Ending) (w' : World) : Prop := e = .returned (.bool true) ∧ Below w.heap.size w w'
set_option maxRecDepth 20000 in
set_option maxHeartbeats 4000000 in
theorem exact_law (w : World) (hT : Tabs w) (vb : Value) (xs t a b : List UInt8) (hv : RdA w vb xs) (hlen : xs.length ≤ 140737488353000) (ha : a.length = 32) (hb : b.length = 32) (ht : t.length ≤ 9223372036854775807) : Calls Tryd.prog 3 #[askV vb t a b] w (ExC w) := by
  unfold askV
  have HA : Hid (AskAt (w.alloc (.cells (askL vb t a b).toArray 26)) w.heap.size vb t a b) := hide ⟨Blk.made w _ _, ha, hb⟩
  have HW : Hid (Below w.heap.size w (w.alloc (.cells (askL vb t a b).toArray 26))) := hide ((Below.refl _ _).alloc (Nat.le_refl _) _)
  have HV := hide (hv.below HW.out)
  have HT := hide (hT.below HW.out)
  have HLn := hide hlen
  have HAl := hide ha
  have HBl := hide hb
  have HTl := hide ht
  have cvb := HA.out.bytes
  clear hv hT hlen ha hb ht
  go_enter Tryd.func3, Tryd.ntmps3
  go_wp2_with fail
  refine (roomy_any _ vb xs HV.out HLn.out).mono ?_
  rintro e w1 ⟨rfl, hB1, hb1⟩
  obtain ⟨g, hg⟩ : ∃ g, g = (w.alloc (.cells (askL vb t a b).toArray 26)).heap.size := ⟨_, rfl⟩
  rw [← hg] at hB1 ⊢
  have HB1 := hide hB1
  have HA1 := hide (HA.out.below hb1)
  have HV1 := hide (HV.out.below hb1)
  have HT1 := hide (HT.out.below hb1)
  have HW1 := hide (HW.out.trans (hb1.mono HW.out.size))
  have HR1 := hide (RdA.room hB1 HLn.out)
  clear hB1 hb1 HA HV HT HW cvb hg
  have hww := below_regrown w1
  have Hwk := hide (fun d os => works_any (Sort.grow (redrawn w1 d) os))
  have Hof := hide (fun d os => of_any (Sort.grow (redrawn w1 d) os) (HT1.out.below (hww d os)) _ xs (HR1.out.below (hww d os)) HLn.out)
  have Hrof := hide (fun d os => rof_any (Sort.grow (redrawn w1 d) os) (HT1.out.below (hww d os)) _ xs (HV1.out.below (hww d os)) HLn.out)
  have Hhx := hide (fun d os => hex_any a HAl.out (Sort.grow (redrawn w1 d) os))
  have Hrhx := hide (fun d os => rhex_any a HAl.out (Sort.grow (redrawn w1 d) os))
  have Hcm := hide (fun d os => compare_any a b HAl.out HBl.out (Sort.grow (redrawn w1 d) os))
  have Hrcm := hide (fun d os => rcompare_any a b HAl.out HBl.out (Sort.grow (redrawn w1 d) os))
  have Hcs := hide (fun d os => compare_any a a HAl.out HAl.out (Sort.grow (redrawn w1 d) os))
  have Hla := hide (fun d os => loadAt_key HAl.out (HA1.out.below (hww d os)).ra)
  have Hlb := hide (fun d os => loadAt_key HBl.out (HA1.out.below (hww d os)).rb)
  have Hlv := hide (fun d os => loadAt_sl (HA1.out.below (hww d os)).bytes)
  rw [cmpK_self a] at Hcs
  obtain ⟨ks, hks⟩ : ∃ ks, ks = shaOf xs := ⟨_, rfl⟩
  have hksl : ks.length = 32 := by rw [hks]; exact shaOf_len xs
  rw [← hks] at Hof Hrof
  have hg1 := keyGuard .neq ks
  have hn1 := keyNeq ks hksl
  obtain ⟨cm, hcm⟩ : ∃ cm, cm = cmpK a b := ⟨_, rfl⟩
  rw [← hcm] at Hcm Hrcm
  obtain ⟨hx, hhx⟩ : ∃ hx, hx = hexOf a := ⟨_, rfl⟩
  rw [← hhx] at Hhx Hrhx
  clear hks hcm hhx hww
  go_wp2
  refine wp_region_quiet_below (by kernel_rfl) (by kernel_rfl) ?_
  quiet_step (exact Calls.regrown_of (Hwk.out _ _))
  quiet_step (fail)
  quiet_step (fail)
  quiet_step (fail)
  quiet_step (exact Calls.regrown_of (Hof.out _ _))
  quiet_step (fail)
  refine wpQuiet_val vb rfl (fun w hw => ?_) ?_
  · obtain ⟨p, rfl⟩ := hw
    exact run_load rfl rfl (Hlv.out _ _)
  quiet_step (exact Calls.regrown_of (Hrof.out _ _))
  quiet_step (fail)
  quiet_step (fail)
  quiet_step (fail)
  quiet_step (fail)
  refine wpQuiet_val (keyV a) rfl (fun w hw => ?_) ?_
  · obtain ⟨p, rfl⟩ := hw
    exact run_load rfl rfl (Hla.out _ _)
  quiet_step (exact Calls.regrown_of (Hhx.out _ _))
  quiet_step (fail)
  refine wpQuiet_val (keyV a) rfl (fun w hw => ?_) ?_
  · obtain ⟨p, rfl⟩ := hw
    exact run_load rfl rfl (Hla.out _ _)
  quiet_step (exact Calls.regrown_of (Hrhx.out _ _))
  quiet_step (fail)
  quiet_step (fail)
  quiet_step (fail)
  quiet_step (fail)
  refine wpQuiet_val (keyV a) rfl (fun w hw => ?_) ?_
  · obtain ⟨p, rfl⟩ := hw
    exact run_load rfl rfl (Hla.out _ _)
  quiet_step (fail)
  refine wpQuiet_val (keyV b) rfl (fun w hw => ?_) ?_
  · obtain ⟨p, rfl⟩ := hw
    exact run_load rfl rfl (Hlb.out _ _)
  quiet_step (exact Calls.regrown_of (Hcm.out _ _))
  quiet_step (fail)
  refine wpQuiet_val (keyV a) rfl (fun w hw => ?_) ?_
  · obtain ⟨p, rfl⟩ := hw
    exact run_load rfl rfl (Hla.out _ _)
  quiet_step (fail)
  refine wpQuiet_val (keyV b) rfl (fun w hw => ?_) ?_
  · obtain ⟨p, rfl⟩ := hw
    exact run_load rfl rfl (Hlb.out _ _)
  quiet_step (exact Calls.regrown_of (Hrcm.out _ _))
  quiet_step (fail)
  quiet_step (fail)
  quiet_step (fail)
  quiet_step (fail)
  refine wpQuiet_val (keyV a) rfl (fun w hw => ?_) ?_
  · obtain ⟨p, rfl⟩ := hw
    exact run_load rfl rfl (Hla.out _ _)
  quiet_step (fail)
  refine wpQuiet_val (keyV a) rfl (fun w hw => ?_) ?_
  · obtain ⟨p, rfl⟩ := hw
    exact run_load rfl rfl (Hla.out _ _)
  quiet_step (exact Calls.regrown_of (Hcs.out _ _))
  quiet_step (fail)
  quiet_step (fail)
  refine wpQuiet_nil ?_
  intro _ hw'
  obtain ⟨⟨dq, osq⟩, hw''⟩ := hw'
  have hbq := below_regrown w1 dq osq
  rw [← hw''] at hbq
  clear hw''
  rename_i w2
  have HB2 := hide (HB1.out.below hbq HB1.out.lt)
  have HA2 := hide (HA1.out.below hbq)
  have HV2 := hide (HV1.out.below hbq)
  have HR2 := hide (HR1.out.below hbq)
  have HW2 := hide (HW1.out.trans (hbq.mono HW1.out.size))
  clear Hwk Hof Hrof Hhx Hrhx Hcm Hrcm Hcs Hla Hlb Hlv HB1 HA1 HV1 HT1 HW1 HR1 hbq hg1 hn1
  have hzk := zero_key
  have HZS : Hid (keyZ.size = 32) := hide rfl
  go_wp2_with fail
  refine (kfrom_any w2 _ xs HR2.out).mono ?_
  rintro e w3 ⟨rfl, hb3⟩
  obtain ⟨fk, hfk⟩ : ∃ fk, fk = fromK xs := ⟨_, rfl⟩
  obtain ⟨fe, hfe⟩ : ∃ fe, fe = fromE xs := ⟨_, rfl⟩
  have HFK := hide hfk
  have HFE := hide hfe
  have HFL : Hid (fk.length = 32) := hide (by rw [hfk]; exact fromK_len xs)
  rw [← hfk, ← hfe]
  have HB3 := hide (HB2.out.below hb3 HB2.out.lt)
  have HA3 := hide (HA2.out.below hb3)
  have HV3 := hide (HV2.out.below hb3)
  have HW3 := hide (HW2.out.trans (hb3.mono HW2.out.size))
  clear HB2 HA2 HV2 HR2 HW2 hb3 hfk hfe
  go_wp2_with (first | ((with_reducible refine wpList_put_key ?_ (.tmp 4) (.tmp 54) ?_ w3.heap.size ?_ w3 ?_ ?_ fk HFL.out ?_ ?_); rfl; rfl; rfl; rfl; rfl; rfl; intro w4 HK4 hb4; have cvb := (HA3.out.below hb4).bytes))
  have HB4 := hide (HB3.out.below hb4 HB3.out.lt)
  have HA4 := hide (HA3.out.below hb4)
  have HV4 := hide (HV3.out.below hb4)
  have HW4 := hide (HW3.out.trans (hb4.mono HW3.out.size))
  obtain ⟨z4, hz4⟩ : ∃ z, z = w3.heap.size := ⟨_, rfl⟩
  have HZ4 : Hid (w.heap.size < z4) := hide (by rw [hz4]; exact HA3.out.blk.lt)
  rw [← hz4] at HK4 ⊢
  clear HB3 HA3 HV3 HW3 hb4 hz4 cvb
  refine (rfrom_any w4 _ xs HV4.out).mono ?_
  rintro e w5 ⟨rfl, hb5⟩
  rw [← HFK.out, ← HFE.out]
  have HB5 := hide (HB4.out.below hb5 HB4.out.lt)
  have HA5 := hide (HA4.out.below hb5)
  have HV5 := hide (HV4.out.below hb5)
  have HK5 := hide (HK4.out.below hb5)
  have HW5 := hide (HW4.out.trans (hb5.mono HW4.out.size))
  clear HB4 HA4 HV4 HW4 HK4 hb5
  have hg1 := keyGuard .neq fk
  have hn1 := keyNeq fk HFL.out
  go_wp2_with (first | ((with_reducible refine wpList_put_key ?_ (.tmp 6) (.tmp 60) ?_ w5.heap.size ?_ w5 ?_ ?_ fk HFL.out ?_ ?_); rfl; rfl; rfl; rfl; rfl; rfl; intro w6 HK6 hb6; have HK46 := hide (HK5.out.below hb6); have cvb := (HA5.out.below hb6).bytes) | ((with_reducible refine wpList_key (.tmp 4) z4 fk HK46.out ?_ ?_ ?_ ?_); rfl; rfl; rfl) | ((with_reducible refine wpList_key (.tmp 6) w5.heap.size fk HK6.out ?_ ?_ ?_ ?_); rfl; rfl; rfl))
  have HB6 := hide (HB5.out.below hb6 HB5.out.lt)
  have HA6 := hide (HA5.out.below hb6)
  have HV6 := hide (HV5.out.below hb6)
  have HW6 := hide (HW5.out.trans (hb6.mono HW5.out.size))
  obtain ⟨z6, hz6⟩ : ∃ z, z = w5.heap.size := ⟨_, rfl⟩
  have HZ6 : Hid (z4 < z6) := hide (by rw [hz6]; exact HK5.out.1.lt)
  rw [← hz6] at HK6 ⊢
  clear HB5 HA5 HV5 HW5 HK5 hb6 hz6 cvb hg1 hn1
  refine (kleft_any w6 g _ xs HB6.out HV6.out HLn.out).mono ?_
  rintro e w7 ⟨rfl, hb7⟩
  have HA7 := hide (HA6.out.below hb7)
  have HK47 := hide (HK46.out.below hb7)
  have HK7 := hide (HK6.out.below hb7)
  have HW7 := hide (HW6.out.trans (hb7.mono HW6.out.size))
  have ctx := HA7.out.text
  clear HB6 HA6 HV6 HW6 HK46 HK6 hb7
  go_wp2_with fail
  refine (parse_any t HTl.out w7).mono ?_
  rintro e w8 ⟨rfl, hb8⟩
  obtain ⟨pk, hpk⟩ : ∃ pk, pk = parseK t := ⟨_, rfl⟩
  obtain ⟨pe, hpe⟩ : ∃ pe, pe = parseE t := ⟨_, rfl⟩
  have HPK := hide hpk
  have HPE := hide hpe
  have HPL : Hid (pk.length = 32) := hide (by rw [hpk]; exact parseK_len t)
  have HPS : Hid ((pk.map u8c).toArray.size = 32) := hide (by simp [HPL.out])
  have HFS : Hid ((fk.map u8c).toArray.size = 32) := hide (by simp [HFL.out])
  have HP1 := hide (all_oneCell_toArray (u8c_one pk))
  rw [← hpk, ← hpe]
  have HA8 := hide (HA7.out.below hb8)
  have HK48 := hide (HK47.out.below hb8)
  have HK8 := hide (HK7.out.below hb8)
  have HW8 := hide (HW7.out.trans (hb8.mono HW7.out.size))
  have HB48 : Hid (Blk w8 z4 (fk.map u8c).toArray 24) := hide HK48.out.1
  clear HA7 HK47 HK7 HW7 hb8 hpk hpe ctx
  go_wp2_with (first | ((with_reducible refine wpList_store_blk ?_ 24 (.tmp 4) (.tmp 81) ?_ z4 32 (fk.map u8c).toArray (pk.map u8c).toArray 24 HPS.out HFS.out ?_ ?_ HB48.out infoKey HP1.out ?_); rfl; rfl; rfl; rfl; intro w9 hk9 hg9; have ctx : w9.cell? ⟨w.heap.size, 1, none⟩ = some (.string ⟨t.toArray⟩) := by rw [(HA8.out.blk.grown hg9 (fun h => by have := Option.some.inj h; have := HZ4.out; omega)).cell]; rfl))
  have HA9 : Hid (Blk w9 w.heap.size (askL vb t a b).toArray 26) := hide (HA8.out.blk.grown hg9 (fun h => by have := Option.some.inj h; have := HZ4.out; omega))
  have HK9 := hide (HK8.out.grown hg9 (fun h => by have := Option.some.inj h; have := HZ6.out; omega))
  have HK49 : Hid (KeyAt w9 z4 pk) := hide ⟨hk9, HPL.out⟩
  have HW9 := hide (HW8.out.trans (below_grownBy hg9 (Nat.le_of_lt HZ4.out) HW8.out.size))
  clear HA8 HK48 HK8 HW8 HB48 hk9 hg9 ctx
  refine (rparse_any t HTl.out w9).mono ?_
  rintro e w10 ⟨rfl, hb10⟩
  rw [← HPK.out, ← HPE.out]
  have HK10 := hide (HK9.out.below hb10)
  have HK410 := hide (HK49.out.below hb10)
  have HW10 := hide (HW9.out.trans (hb10.mono HW9.out.size))
  have HB10 : Hid (Blk w10 z6 (fk.map u8c).toArray 24) := hide HK10.out.1
  clear HA9 HK9 HK49 HW9 hb10
  have hg1 := keyGuard .eql pk
  have hn1 := keyEql pk HPL.out
  go_wp2_with (first | ((with_reducible refine wpList_store_blk ?_ 24 (.tmp 6) (.tmp 87) ?_ z6 32 (fk.map u8c).toArray (pk.map u8c).toArray 24 HPS.out HFS.out ?_ ?_ HB10.out infoKey HP1.out ?_); rfl; rfl; rfl; rfl; intro w11 hk11 hg11; have HK411 := hide (HK410.out.grown hg11 (fun h => by have := Option.some.inj h; have := HZ6.out; omega)); have HK611 : Hid (KeyAt w11 z6 pk) := hide ⟨hk11, HPL.out⟩) | ((with_reducible refine wpList_key (.tmp 4) z4 pk HK411.out ?_ ?_ ?_ ?_); rfl; rfl; rfl) | ((with_reducible refine wpList_key (.tmp 6) z6 pk HK611.out ?_ ?_ ?_ ?_); rfl; rfl; rfl))
  go_ret
  exact ⟨rfl, HW10.out.trans (below_grownBy hg11 (by have := HZ4.out; have := HZ6.out; omega) HW10.out.size)⟩
end Go.Proofs.YtjmjnecobaoofaaDoor
