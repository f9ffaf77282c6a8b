/- MarkNil: the walk. -/
import Derived.Test.YtjdlffmiokobnaaGreatDoorMD
namespace Go.Proofs.YtjdlffmiokobnaaGreatDoor
set_option linter.unusedVariables false
set_option linter.unusedSimpArgs false
namespace MA
set_option maxRecDepth 100000
set_option maxHeartbeats 16000000
open Go.RowKit TX

theorem wpList_valG {P : Program} {ops : Array Oper} {rest : List Oper} {op : Oper} {a : Act} {w : World} {Q : Exit → Act → World → Prop} (v : Value) (hg : Region.wanted op (yielded ops a.tmps) = true) (hr : (execOp a.eval op).run P w = .ok (.value v) w) (h : wpList P ops Q rest (a.put op.dst v) w) : wpList P ops Q (op :: rest) a w := by
  refine wpList_step fun K hK => ?_
  rw [if_pos hg]
  unfold Oper.wp
  rw [hr]
  exact hK _ _ h
theorem zero_M (w : World) : (Instr.build MT #[]).run Tryz.prog w = .ok (.agg #[.nilFunc, .nilIface, .nilIface]) w := by kernel_rfl
theorem markNil_law (w : World) (k : KY) (ep : Int) (bot : Bool) : Calls Tryz.prog 5 #[kV k, .int .u32 ep, .bool bot] w fun e w' => e = .returned (.bool true) ∧ Below w.heap.size w w' := by
  go_enter Tryz.func5, Tryz.ntmps5
  go_upto_region 1 with fail
  refine name_world (fun W => Below w.heap.size w W ∧ KB W w.heap.size k) ⟨below_alloc w _, KB.made w k⟩ ?_
  rintro W ⟨hB, hK⟩
  have HB := hide hB
  have HKK := hide hK
  obtain ⟨kb, hkb⟩ : ∃ kb, kb = w.heap.size := ⟨_, rfl⟩
  rw [← hkb] at HKK ⊢
  have HA := hide (new3_any W)
  have HX := hide (fun w => ixnew_any w)
  have HL := hide (fun w => RG.newList_any (M := 1) w)
  unfold RG.NewC at HL
  clear hB hK hkb
  go_upto_region 4 with (first | (go_at_call 18; (with_reducible refine HA.out.mono ?_); rintro e w1 ⟨a, s, mb, rfl, ha, hal, hb⟩; have HAr := hide ha; have HAL := hide hal; have HB1 := hide hb; clear ha hal hb) | (go_at_call 19; (with_reducible refine (HX.out w1).mono ?_); rintro e w2 ⟨x, L, rfl, hx, hb, hlo⟩; have HIx := hide hx; have HB2 := hide hb; have HLO := hide hlo; clear hx hb hlo) | (go_at_call 20; (with_reducible refine (HL.out w2).mono ?_); rintro e w3 ⟨lz, lg, rfl, hl, hz, hg, hb⟩; have HLi := hide hl; have HLz := hide hz; have HLg := hide hg; have HB3 := hide hb; clear hl hz hg hb))
  have hM0 : MSt w w3 kb k a s mb x L lz lg 0 := by
    have s0 := HB.out.size
    have s1 := HB1.out.size
    have s2 := HB2.out.size
    have b2 : Below w.heap.size w w2 := (HB.out.trans (HB1.out.mono s0)).trans (HB2.out.mono (by omega))
    have hz := HLz.out
    have hg := HLg.out
    exact ⟨b2.trans (HB3.out.mono b2.size), ((HKK.out.below HB1.out).below HB2.out).below HB3.out, Blk.below (Blk.below HAr.out HB2.out (Blk.lt HAr.out)) HB3.out (by have := Blk.lt HAr.out; omega), HIx.out.below HB3.out, HLi.out, fun b hb => by have := HLO.out b hb; omega, by omega, by omega⟩
  have HM0 := hide hM0
  have HN1 := hide (new_yes hM0 (by decide))
  clear hM0 HA HX HL HAr HAL HB1 HIx HB2 HLO HLi HLz HLg HB3 HB HKK
  go_upto_region 6 with (first | (go_at_call 21; first | ((with_reducible refine HN1.out.mono ?_); rintro e w4 ⟨m, L4, lg4, rfl, h4⟩; have HM4 := hide h4; have HN2 := hide (new_na h4); clear h4 HN1) | ((with_reducible refine HN2.out.mono ?_); rintro e w5 ⟨rfl, h5⟩; have HM5 := hide h5; have HN3 := hide (new_nx h5); clear h5 HN2) | ((with_reducible refine HN3.out.mono ?_); rintro e w6 ⟨rfl, h6⟩; have HM6 := hide h6; have HN4 := hide (new_nl h6 (by decide)); clear h6 HN3) | ((with_reducible refine HN4.out.mono ?_); rintro e w7 ⟨rfl, L7, h7⟩; have HK7 := hide h7.key; have HB7 := hide h7.bel; clear h7 HN4)))
  clear HM0 HM4 HM5 HM6
  have HPN := hide (fun w => piece_no w (m := none) (.inl rfl) ep bot)
  have HDN := hide (fun w => kids_no w (m := none) (.inl rfl) k)
  go_upto_region 10 with (first | ((with_reducible refine wpList_ldK ?_ (.tmp 3) ?_ kb 0 ?_ k HK8.out.rng ?_); rfl; rfl; rfl) | (go_at_call 15; (with_reducible refine (HPN.out w7).mono ?_); rintro e w8 ⟨rfl, hb⟩; have HB8 := hide (HB7.out.trans (hb.mono HB7.out.size)); have HK8 := hide (HK7.out.below hb); clear hb) | (go_at_call 22; (with_reducible refine (HDN.out w8).mono ?_); rintro e w9 ⟨rfl, hb⟩; have HB9 := hide (HB8.out.trans (hb.mono HB8.out.size)); have HK9 := hide (HK8.out.below hb); clear hb))
  obtain ⟨zb, hzb⟩ : ∃ zb, zb = w9.heap.size := ⟨_, rfl⟩
  refine name_world (fun W => Below w.heap.size w W ∧ KB W kb k ∧ NoM W (some ⟨zb, 0, none⟩)) ⟨HB9.out.trans ((TX.below_alloc w9 _).mono HB9.out.size), HK9.out.below (TX.below_alloc w9 _), .inr ⟨zb, _, rfl, by rw [hzb]; exact Blk.made w9 _ _, rfl⟩⟩ ?_
  rintro W2 ⟨hB, hK, hN⟩
  have HB0 := hide hB
  have HK0 := hide hK
  have HN0 := hide hN
  have HPZ := hide (piece_no W2 hN ep bot)
  rw [← hzb]
  clear hB hK hN hzb HB9 HK9 HB8 HK8 HB7 HK7 HPN HDN
  have HTN := hide (fun w => touch_no w (m := none) (.inl rfl) k ep)
  go_upto_region 12 with (first | ((with_reducible refine wpList_ldK ?_ (.tmp 3) ?_ kb 0 ?_ k HK10.out.rng ?_); rfl; rfl; rfl) | (go_at_call 15; (with_reducible refine HPZ.out.mono ?_); rintro e w10 ⟨rfl, hb⟩; have HB10 := hide (HB0.out.trans (hb.mono HB0.out.size)); have HK10 := hide (HK0.out.below hb); have HN10 := hide (HN0.out.below hb); have HDZ := hide (kids_no w10 HN10.out k); clear hb) | (go_at_call 22; (with_reducible refine HDZ.out.mono ?_); rintro e w11 ⟨rfl, hb⟩; have HB11 := hide (HB10.out.trans (hb.mono HB10.out.size)); have HK11 := hide (HK10.out.below hb); have HN11 := hide (HN10.out.below hb); clear hb))
  clear HB0 HK0 HN0 HPZ HB10 HK10 HN10 HDZ
  go_upto_region 13 with (first | ((with_reducible refine wpList_ldK ?_ (.tmp 3) ?_ kb 0 ?_ k HK11.out.rng ?_); rfl; rfl; rfl) | (go_at_call 14; (with_reducible refine (HTN.out w11).mono ?_); rintro e w12 ⟨rfl, hb⟩; have HB12 := hide (HB11.out.trans (hb.mono HB11.out.size)); have HK12 := hide (HK11.out.below hb); have HTZ := hide (touch_no w12 (HN11.out.below hb) k ep); clear hb))
  clear HB11 HK11 HN11 HTN
  go_wp2_with (first | ((with_reducible refine wpList_valG (kV k) ?_ (run_loadO (x := .tmp 3) (p := .pointer (some ⟨kb, 0, none⟩)) rfl ?_ (run_ldK HK12.out.rng)) ?_); rfl; rfl) | (go_at_call 14; (with_reducible refine HTZ.out.mono ?_); rintro e w13 ⟨rfl, hb⟩; have HB13 := hide (HB12.out.trans (hb.mono HB12.out.size)); clear hb))
  go_ret
  exact ⟨rfl, HB13.out⟩
end MA
end Go.Proofs.YtjdlffmiokobnaaGreatDoor
