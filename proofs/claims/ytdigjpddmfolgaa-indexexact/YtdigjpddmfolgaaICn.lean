/- Next, walked: of all keys. -/
import Derived.Test.YtdigjpddmfolgaaICm
namespace Go.Proofs.Ytdigjpddmfolgaa
set_option linter.unusedVariables false
set_option linter.unusedSimpArgs false
namespace TX
open Go.RowKit Go.Sort
set_option maxRecDepth 100000
set_option maxHeartbeats 16000000
attribute [local go_sem] Oper.semAt_some

theorem next_all (w : World) {x P : Nat} {L : List Tab} {f : KY → Option EN} (hx : IxL w x 16 L f P) (aft : KY) : Calls Try.prog 14 #[.pointer (some ⟨x, 0, none⟩), kV aft, .bool true] w (NxtC w aft true f) := by
  obtain ⟨N, hN⟩ : ∃ N, N = w.heap.size := ⟨_, rfl⟩
  have hzk := zero_KD
  have HX := hide hx
  have HN := hide hN
  have hb256 := bt_lt aft 0
  clear hx
  refine (callsIn_wide (n := 5)).1 ?_
  refine callsIn_of_wp_marks Try.func14 rfl trivial ?_ rfl
  refine wpIn_wide.2 ?_
  simp only [Try.ntmps14, List.size_toArray, List.length_cons, List.length_nil, Nat.reduceAdd, Nat.reduceSub, Array.replicate_succ, Array.replicate_zero, List.push_toArray, List.append_toArray, List.nil_append, List.cons_append]
  go_upto_region 1 with fail
  go_upto_region 4 with fail
  refine name_world (fun W => NxA w N aft true W) (by rw [hN]; exact nxA_made w aft true) ?_
  rintro W hA
  simp only [Nat.add_assoc, Nat.reduceAdd]
  rw [← hN]
  have hsz := hA.sz
  have cK : W.cell? ⟨N, 0, none⟩ = some (.int .u8 (bt aft 0 : Int)) := KB.head hA.kb
  have cA : W.cell? ⟨N + 1, 0, none⟩ = some (.bool true) := by rw [hA.ab.cell]; rfl
  have lA : N + 1 < W.heap.size := by omega
  have HS0 := hide hA.begin
  clear hA hN
  go_upto_region 8 with fail
  go_upto_region 9 with fail
  refine wp_loop (fun a' w' => ∃ (i : Nat) (Ds : List Nat) (fo : Option (KY × EN)) (u11 u12 u13 u22 u23 u24 u25 u26 u27 u28 u29 u30 u31 u32 u33 u34 u35 u36 u37 u38 u39 u40 u41 u42 u43 u44 u45 u46 u47 u48 u49 u50 u51 u52 u53 u54 u55 u56 u57 u58 u59 u60 u61 u62 u63 u64 u65 u66 u67 u68 : Value), a' = { tmps := #[.pointer (some ⟨x, 0, none⟩), kV aft, .bool true, undef, .pointer (some ⟨N, 0, none⟩), .pointer (some ⟨N + 1, 0, none⟩), .pointer (some ⟨N + 2, 0, none⟩), .bool false, .pointer (some ⟨N + 3, 0, none⟩), .int .i64 0, .pointer (some ⟨N + 4, 0, none⟩), u11, u12, u13, .pointer (some ⟨x, 0, none⟩), .bool false, undef, .pointer (some ⟨N, 0, none⟩), .int .u8 (bt aft 0 : Int), .int .i64 (bt aft 0 : Int), .bool true, .int .i64 (i : Int), u22, u23, u24, u25, u26, u27, u28, u29, u30, u31, u32, u33, u34, u35, u36, u37, u38, u39, u40, u41, u42, u43, u44, u45, u46, u47, u48, u49, u50, u51, u52, u53, u54, u55, u56, u57, u58, u59, u60, u61, u62, u63, u64, u65, u66, u67, u68, undef, undef], defers := marks Ds } ∧ i ≤ 16 ∧ NxS w N aft true Ds fo w' ∧ Lst aft true (Seen f (0) i) fo) (fun a' _ => 16 - (intOf (a'.tmps.getD 21 undef)).toNat) ?_ ?_
  · exact ⟨0, [], none, undef, undef, undef, undef, undef, undef, undef, undef, undef, undef, undef, undef, undef, undef, undef, undef, undef, undef, undef, undef, undef, undef, undef, undef, undef, undef, undef, undef, undef, undef, undef, undef, undef, undef, undef, undef, undef, undef, undef, undef, undef, undef, undef, undef, undef, undef, undef, undef, undef, undef, rfl, by omega, HS0.out, Lst.begin aft true f _⟩
  · rintro a' wr ⟨i, Ds, fo, u11, u12, u13, u22, u23, u24, u25, u26, u27, u28, u29, u30, u31, u32, u33, u34, u35, u36, u37, u38, u39, u40, u41, u42, u43, u44, u45, u46, u47, u48, u49, u50, u51, u52, u53, u54, u55, u56, u57, u58, u59, u60, u61, u62, u63, u64, u65, u66, u67, u68, rfl, hi, hS, hL⟩
    clear HS0 hsz cK cA lA
    have HS := hide hS
    have HL := hide hL
    have cF : wr.cell? ⟨N + 4, 0, none⟩ = some (.bool fo.isSome) := by rw [hS.fb.cell]; rfl
    have lF := hS.fb.lt
    have cH : wr.cell? ⟨N + 3, 0, none⟩ = some (.int .u8 (bt (fo.getD kdZ).1 0 : Int)) := KD.head hS.lb
    have lH := hS.lb.lt
    clear hS hL
    by_cases hlt : i < 16
    · have hji : (i : Int) < 16 := by omega
      go_upto_region 11 with fail
      cases fo with
      | none =>
        simp only [Option.isSome_none] at cF
        clear cH lH
        go_upto_region 12 with fail
        clear cF lF
        obtain ⟨q, hq⟩ : ∃ q, q = (0 + i) % 16 := ⟨_, rfl⟩
        have hq16 : q < 16 := by rw [hq]; exact Nat.mod_lt _ (by decide)
        have hqs : ((i : Int)).tmod 16 = (q : Int) := by
          rw [hq, Nat.zero_add, show (16 : Int) = ((16 : Nat) : Int) from rfl, ← Int.ofNat_tmod]
        have HX1 := hide (HX.out.below (by have h := HS.out.bel; rw [HN.out] at h; exact h))
        obtain ⟨t, ht⟩ : ∃ t, L[q]? = some t := ⟨_, List.getElem?_eq_getElem (by rw [HX.out.len]; exact hq16)⟩
        have hc := HX1.out.cell ht
        unfold ptrV at hc
        obtain ⟨T, hT, _, hMp⟩ := (HX1.out.tab q t ht).ex
        rw [hq] at hMp
        have HT := hide hT
        have HM := hide hMp
        have hxl := HX1.out.blk.lt
        have HQ := hide hq16
        have HAll := hide (fun w => all_any w t.z)
        clear hq ht hT hMp HX1
        go_upto_region 13 with (first | (refine wpList_val (.pointer (some ⟨x, q, none⟩)) (by rfl) (run_ix16 (by rfl) (by rfl) (by rfl) HQ.out _) ?_) | (go_at_call 37; (with_reducible refine (HAll.out wr).mono ?_); rintro e w' ⟨rfl, hw⟩; subst hw; unfold allV))
        have hb3 : Below wr.heap.size wr (wr.alloc (.cells #[.pointer (some ⟨t.z, 0, none⟩)] 65)) := below_alloc wr _
        have HB3 := hide (Blk.made wr #[.pointer (some ⟨t.z, 0, none⟩)] 65)
        have HT3 := hide (TbX.below HT.out hb3)
        have HS3 := hide (HS.out.below hb3)
        obtain ⟨w3, hw3⟩ : ∃ w3, w3 = wr.alloc (.cells #[.pointer (some ⟨t.z, 0, none⟩)] 65) := ⟨_, rfl⟩
        rw [← hw3] at HB3 HT3 HS3 ⊢
        generalize wr.heap.size = ab at *
        clear HT HS hb3 hw3 hc hxl HAll hqs
        have HDl : Hid (∀ D ∈ Ds, D < w3.heap.size) := hide (fun D hD => (Array.getElem?_eq_some_iff.1 (HS3.out.df D hD).2).1)
        have HNl : Hid (N ≤ w3.heap.size) := hide (by have := HS3.out.sz; omega)
        refine (wpIn_wide (n := 5)).1 ?_
        generalize hA0 : Act.mk _ _ = A0
        refine wpIn_rangeKl rfl (by omega) (gf := 54) (lb := #[.pointer (some ⟨ab, 0, none⟩)]) (by rw [← hA0]; rfl) trivial (enters_of Try.func54 (by kernel_rfl) rfl) (all_fit (5 - 1) w3 HT3.out ab HB3.out) (Below.refl _ _) (KeepT.keeping tys) (fun _ => rfl)
          (fun pre W => ∃ fo, NxS w N aft true Ds fo W ∧ Lst aft true (fun k e => Seen f (0) i k e ∨ (k, e) ∈ pre) fo)
          (fun _ _ _ => False)
          (NxS.own (S := fun pre => (fun k e => Seen f (0) i k e ∨ (k, e) ∈ pre)) HNl.out HDl.out)
          (fun _ _ _ _ _ h => h.elim)
          ⟨none, HS3.out, HL.out.congr (fun k e => by simp)⟩ (fun A B h => KeepT.below h) ?round ?done ?stop
        case stop => exact fun D c pre W3 hD h => h.elim
        case done =>
          rintro D xs W4 hD hxs ⟨fo2, hS4, hL4⟩ hK4
          have HS5 : Hid (NxS w N aft true (D :: Ds) fo2 W4) := hide ⟨hS4.kb, hS4.ab, hS4.rb, hS4.lb, hS4.fb, hS4.bel, List.nodup_cons.2 ⟨fun h => by have := HDl.out D h; omega, hS4.nd⟩, fun D' h' => by
            rcases List.mem_cons.1 h' with rfl | h'
            · exact ⟨by have := HNl.out; omega, hK4⟩
            · exact hS4.df D' h'⟩
          have HL5 : Hid (Lst aft true (Seen f (0) (i + 1)) fo2) := hide (hL4.congr (fun k e => by
            have hx : xs = T.prs := hxs
            rw [hx]
            exact seen_step HM.out k e))
          clear hS4 hL4 hxs hK4 hD
          subst hA0
          go_wp2
          refine ⟨⟨i + 1, D :: Ds, fo2, _, _, _, _, _, _, _, _, _, _, _, _, _, _, _, _, _, _, _, _, _, _, _, _, _, _, _, _, _, _, _, _, _, _, _, _, _, _, _, _, _, _, _, _, _, _, _, _, _, _, rfl, by omega, HS5.out, HL5.out⟩, ?_⟩
          simp [intOf]
          omega
        case round =>
          rintro l pre ⟨k, e⟩ Wp W1 ⟨fo2, hS1, hL1⟩ hbW hfit
          have HC1 := hide (hS1.below hbW)
          have HL1 := hide hL1
          clear hS1 hbW hfit hL1
          refine ⟨fun a₁ W₂ => a₁ = { tmps := (((A0.tmps.setIfInBounds 45 (kV k)).setIfInBounds 46 (eV e)).setIfInBounds 12 (.pointer (some ⟨W1.heap.size, 0, none⟩))).setIfInBounds 13 (.pointer (some ⟨W1.heap.size + 1, 0, none⟩)), defers := [] } ∧ KB W₂ W1.heap.size k ∧ EB W₂ (W1.heap.size + 1) e, ?asg, ?bd⟩
          case asg =>
            intro K hK
            have hzk2 := zero_K
            have hze2 := zero_E
            subst hA0
            unfold prV
            simp only [List.zip_toArray, List.zip_cons_cons, List.zip_nil_right, List.foldl_toArray, List.foldl_cons, List.foldl_nil, List.setIfInBounds_toArray, List.set_cons_succ, List.set_cons_zero]
            gi_wp2_with (first | ((with_reducible refine wpListIn_putK ?_ (.tmp 12) (.tmp 45) ?_ W1.heap.size ?_ W1 ?_ ?_ k ?_ ?_); rfl; rfl; rfl; rfl; rfl; rfl; intro w2 HK2 hb2 hs2) | ((with_reducible refine wpListIn_putE ?_ (.tmp 13) (.tmp 46) ?_ (W1.heap.size + 1) ?_ w2 ?_ hs2.symm e ?_ ?_); rfl; rfl; rfl; rfl; rfl; intro w4 HE4 hb4 hs4))
            exact hK _ _ ⟨rfl, HK2.out.below hb4, HE4.out⟩ (hb2.trans (hb4.mono hb2.size))
          case bd =>
            rintro a₁ W₂ q' o' ⟨rfl, hk, he⟩ hb2 hlo hle
            have hC3 := (HC1.out.below hb2).putLoop hlo o' (by have := HNl.out; omega)
            have hne : W1.heap.size ≠ l := fun e => by
              have h1 := hk
              unfold KB Blk at h1
              rw [e, hlo] at h1
              cases h1
            have hne2 : W1.heap.size + 1 ≠ l := fun e => by
              have h1 := he
              unfold EB Blk at h1
              rw [e, hlo] at h1
              cases h1
            have hk3 : KB (W₂.putObj l o') W1.heap.size k := (World.putObj_heap_other hne).trans hk
            have he3 : EB (W₂.putObj l o') (W1.heap.size + 1) e := (World.putObj_heap_other hne2).trans he
            refine name_worldInK' (fun V => NxS w N aft true Ds fo2 V ∧ KB V W1.heap.size k ∧ EB V (W1.heap.size + 1) e) ⟨hC3, hk3, he3⟩ ?_
            rintro V ⟨hCV, hKV, hEV⟩
            clear hC3 hne hne2 hk3 he3 hk he hb2 hlo hle
            have HCV := hide hCV
            have HKV := hide hKV
            have HEV := hide hEV
            have cA : V.cell? ⟨N + 1, 0, none⟩ = some (.bool true) := by rw [hCV.ab.cell]; rfl
            have lA := hCV.ab.lt
            have cF : V.cell? ⟨N + 4, 0, none⟩ = some (.bool fo2.isSome) := by rw [hCV.fb.cell]; rfl
            have lF := hCV.fb.lt
            clear hCV hKV hEV HC1
            subst hA0
            simp only [List.setIfInBounds_toArray, List.set_cons_succ, List.set_cons_zero]
            have HBV := hide (Below.refl V.heap.size V)
            cases fo2 with
            | none =>
              simp only [Option.isSome_none] at cF
              have HLBV : Hid (Blk V (N + 3) (kdA kdZ) KDT) := hide HCV.out.lb
              gi_wp2_with (first | (refine ⟨trivial, ?_⟩; go_at_K) | ((with_reducible refine wpListIn_ldK ?_ (.tmp 12) ?_ W1.heap.size 0 ?_ k HKV.out.rng ?_); rfl; rfl; rfl) | ((with_reducible refine wpListIn_ldE ?_ (.tmp 13) ?_ (W1.heap.size + 1) 0 ?_ e HEV.out.rng ?_); rfl; rfl; rfl) | ((with_reducible refine wpListIn_bdKD ?_ (.tmp 65) (.tmp 66) ?_ k e ?_ ?_ ?_); rfl; rfl; rfl; rfl) | ((with_reducible refine wpListIn_stKD ?_ (.tmp 8) (.tmp 67) ?_ (N + 3) ?_ kdZ (k, e) ?_ HLBV.out ?_); rfl; rfl; rfl; rfl; intro w7 HK7 HG7; obtain ⟨hf7, hn7, hl7, ht7⟩ := HCV.out.take (k, e) HK7.out HG7.out; have HN7 := hide hn7; have HL7 := hide hl7; have HT7 := hide ht7; have f7 := hf7.frozen 0; have c7 : w7.cell? ⟨N + 4, 0, none⟩ = some (.bool false) := (by rw [hf7.cell]; rfl); have l7 := hf7.lt; clear hf7 hn7 hl7 ht7))
              exact ⟨(KeepsLD.below HBV.out).trans HL7.out, (KeepT.below HBV.out).trans HT7.out, some (k, e), HN7.out, (HL1.out.first (.inl rfl)).congr (fun a b => by simp [or_assoc])⟩
            | some m =>
              simp only [Option.isSome_some] at cF
              have HLBV : Hid (Blk V (N + 3) (kdA m) KDT) := hide HCV.out.lb
              have HMKV : Hid (V.rangeAt (N + 3) 0 (kC m.1)) := hide (KD.key HLBV.out)
              have HCmpV := hide (compare_any k m.1 V)
              gi_wp2_with (first | (refine ⟨trivial, ?_⟩; go_at_K) | ((with_reducible refine wpListIn_ldK ?_ (.tmp 59) ?_ (N + 3) 0 ?_ m.1 HMKV.out ?_); rfl; rfl; rfl) | ((with_reducible refine wpListIn_ldK ?_ (.tmp 12) ?_ W1.heap.size 0 ?_ k HKV.out.rng ?_); rfl; rfl; rfl) | ((with_reducible refine wpListIn_ldE ?_ (.tmp 13) ?_ (W1.heap.size + 1) 0 ?_ e HEV.out.rng ?_); rfl; rfl; rfl) | ((with_reducible refine wpListIn_bdKD ?_ (.tmp 65) (.tmp 66) ?_ k e ?_ ?_ ?_); rfl; rfl; rfl; rfl) | ((with_reducible refine wpListIn_stKD ?_ (.tmp 8) (.tmp 67) ?_ (N + 3) ?_ m (k, e) ?_ HLBV.out ?_); rfl; rfl; rfl; rfl; intro w7 HK7 HG7; obtain ⟨hf7, hn7, hl7, ht7⟩ := HCV.out.take (k, e) HK7.out HG7.out; have HN7 := hide hn7; have HL7 := hide hl7; have HT7 := hide ht7; have f7 := hf7.frozen 0; have c7 : w7.cell? ⟨N + 4, 0, none⟩ = some (.bool true) := (by rw [hf7.cell]; rfl); have l7 := hf7.lt; clear hf7 hn7 hl7 ht7))
              refine ⟨trivial, (CallsIn.inRound l (callsIn_wide.2 HCmpV.out)).mono ?_⟩
              rintro e2 V2 ⟨rfl, hbV2⟩
              have HBV2 := hide (HBV.out.trans (hbV2.mono HBV.out.size))
              have HCV2 := hide (HCV.out.below hbV2)
              have HKV2 := hide (HKV.out.below hbV2)
              have HEV2 := hide (HEV.out.below hbV2)
              clear HCmpV hbV2 cA lA cF lF
              have cA : V2.cell? ⟨N + 1, 0, none⟩ = some (.bool true) := by rw [HCV2.out.ab.cell]; rfl
              have lA := HCV2.out.ab.lt
              have cF : V2.cell? ⟨N + 4, 0, none⟩ = some (.bool true) := by rw [HCV2.out.fb.cell]; rfl
              have lF := HCV2.out.fb.lt
              have HLBV2 : Hid (Blk V2 (N + 3) (kdA m) KDT) := hide HCV2.out.lb
              by_cases hlt2 : cmp k m.1 < 0
              · have HLT := hide hlt2
                gi_wp2_with (first | (refine ⟨trivial, ?_⟩; go_at_K) | ((with_reducible refine wpListIn_ldK ?_ (.tmp 12) ?_ W1.heap.size 0 ?_ k HKV2.out.rng ?_); rfl; rfl; rfl) | ((with_reducible refine wpListIn_ldE ?_ (.tmp 13) ?_ (W1.heap.size + 1) 0 ?_ e HEV2.out.rng ?_); rfl; rfl; rfl) | ((with_reducible refine wpListIn_bdKD ?_ (.tmp 65) (.tmp 66) ?_ k e ?_ ?_ ?_); rfl; rfl; rfl; rfl) | ((with_reducible refine wpListIn_stKD ?_ (.tmp 8) (.tmp 67) ?_ (N + 3) ?_ m (k, e) ?_ HLBV2.out ?_); rfl; rfl; rfl; rfl; intro w7 HK7 HG7; obtain ⟨hf7, hn7, hl7, ht7⟩ := HCV2.out.take (k, e) HK7.out HG7.out; have HN7 := hide hn7; have HL7 := hide hl7; have HT7 := hide ht7; have f7 := hf7.frozen 0; have c7 : w7.cell? ⟨N + 4, 0, none⟩ = some (.bool true) := (by rw [hf7.cell]; rfl); have l7 := hf7.lt; clear hf7 hn7 hl7 ht7))
                exact ⟨(KeepsLD.below HBV2.out).trans HL7.out, (KeepT.below HBV2.out).trans HT7.out, some (k, e), HN7.out, (HL1.out.take (.inl rfl) HLT.out).congr (fun a b => by simp [or_assoc])⟩
              · have HLT := hide hlt2
                gi_wp2_with (refine ⟨trivial, ?_⟩; go_at_K)
                exact ⟨KeepsLD.below HBV2.out, KeepT.below HBV2.out, some m, HCV2.out, (HL1.out.skip (k := k) (e := e) (by have := HLT.out; omega)).congr (fun a b => by simp [or_assoc])⟩
      | some y =>
        simp only [Option.isSome_some, Option.getD_some] at cF cH
        have hyb := bt_lt y.1 0
        by_cases hlt2 : bt y.1 0 < i
        · have hci : ((bt y.1 0 : Nat) : Int) < (i : Int) := by omega
          have HLT := hide hlt2
          clear hlt2
          have HLf : Hid (Lst aft true (fun k e => f k = some e) (some y)) := hide (HL.out.early (by have := HLT.out; show bt y.1 0 < 0 + i; omega) hi)
          go_upto_region 18 with fail
          have HS1 := hide (HS.out.below ((Below.refl _ wr).drew))
          refine wp_calm (nx18_walk _ (fun _ _ _ _ _ h => h) wr N (Option.getD (some y) kdZ) (Option.isSome (some y)) (Blk.drew HS.out.rb) (Blk.drew HS.out.lb) (Blk.drew HS.out.fb) _ (Nat.lt_of_sub_pos (by exact Nat.succ_pos _)) rfl rfl rfl ?_)
          have H4 := hide (KD.put HS1.out.rb (Option.getD (some y) kdZ))
          generalize wr.drew.setCells (N + 2) 0 (kdC (Option.getD (some y) kdZ)) = w4 at *
          simp only [Act.put, List.setIfInBounds_toArray, List.set_cons_zero, List.set_cons_succ, Exit.then]
          clear HS cF lF
          go_wp2
          exact nx_end rfl HS1.out H4.out.1 H4.out.2 rfl rfl HN.out HLf.out
        · have hci : ¬ ((bt y.1 0 : Nat) : Int) < (i : Int) := by omega
          go_upto_region 12 with fail
          clear hci hlt2 hyb cH lH
          clear cF lF
          obtain ⟨q, hq⟩ : ∃ q, q = (0 + i) % 16 := ⟨_, rfl⟩
          have hq16 : q < 16 := by rw [hq]; exact Nat.mod_lt _ (by decide)
          have hqs : ((i : Int)).tmod 16 = (q : Int) := by
            rw [hq, Nat.zero_add, show (16 : Int) = ((16 : Nat) : Int) from rfl, ← Int.ofNat_tmod]
          have HX1 := hide (HX.out.below (by have h := HS.out.bel; rw [HN.out] at h; exact h))
          obtain ⟨t, ht⟩ : ∃ t, L[q]? = some t := ⟨_, List.getElem?_eq_getElem (by rw [HX.out.len]; exact hq16)⟩
          have hc := HX1.out.cell ht
          unfold ptrV at hc
          obtain ⟨T, hT, _, hMp⟩ := (HX1.out.tab q t ht).ex
          rw [hq] at hMp
          have HT := hide hT
          have HM := hide hMp
          have hxl := HX1.out.blk.lt
          have HQ := hide hq16
          have HAll := hide (fun w => all_any w t.z)
          clear hq ht hT hMp HX1
          go_upto_region 13 with (first | (refine wpList_val (.pointer (some ⟨x, q, none⟩)) (by rfl) (run_ix16 (by rfl) (by rfl) (by rfl) HQ.out _) ?_) | (go_at_call 37; (with_reducible refine (HAll.out wr).mono ?_); rintro e w' ⟨rfl, hw⟩; subst hw; unfold allV))
          have hb3 : Below wr.heap.size wr (wr.alloc (.cells #[.pointer (some ⟨t.z, 0, none⟩)] 65)) := below_alloc wr _
          have HB3 := hide (Blk.made wr #[.pointer (some ⟨t.z, 0, none⟩)] 65)
          have HT3 := hide (TbX.below HT.out hb3)
          have HS3 := hide (HS.out.below hb3)
          obtain ⟨w3, hw3⟩ : ∃ w3, w3 = wr.alloc (.cells #[.pointer (some ⟨t.z, 0, none⟩)] 65) := ⟨_, rfl⟩
          rw [← hw3] at HB3 HT3 HS3 ⊢
          generalize wr.heap.size = ab at *
          clear HT HS hb3 hw3 hc hxl HAll hqs
          have HDl : Hid (∀ D ∈ Ds, D < w3.heap.size) := hide (fun D hD => (Array.getElem?_eq_some_iff.1 (HS3.out.df D hD).2).1)
          have HNl : Hid (N ≤ w3.heap.size) := hide (by have := HS3.out.sz; omega)
          refine (wpIn_wide (n := 5)).1 ?_
          generalize hA0 : Act.mk _ _ = A0
          refine wpIn_rangeKl rfl (by omega) (gf := 54) (lb := #[.pointer (some ⟨ab, 0, none⟩)]) (by rw [← hA0]; rfl) trivial (enters_of Try.func54 (by kernel_rfl) rfl) (all_fit (5 - 1) w3 HT3.out ab HB3.out) (Below.refl _ _) (KeepT.keeping tys) (fun _ => rfl)
            (fun pre W => ∃ fo, NxS w N aft true Ds fo W ∧ Lst aft true (fun k e => Seen f (0) i k e ∨ (k, e) ∈ pre) fo)
            (fun _ _ _ => False)
            (NxS.own (S := fun pre => (fun k e => Seen f (0) i k e ∨ (k, e) ∈ pre)) HNl.out HDl.out)
            (fun _ _ _ _ _ h => h.elim)
            ⟨(some y), HS3.out, HL.out.congr (fun k e => by simp)⟩ (fun A B h => KeepT.below h) ?round ?done ?stop
          case stop => exact fun D c pre W3 hD h => h.elim
          case done =>
            rintro D xs W4 hD hxs ⟨fo2, hS4, hL4⟩ hK4
            have HS5 : Hid (NxS w N aft true (D :: Ds) fo2 W4) := hide ⟨hS4.kb, hS4.ab, hS4.rb, hS4.lb, hS4.fb, hS4.bel, List.nodup_cons.2 ⟨fun h => by have := HDl.out D h; omega, hS4.nd⟩, fun D' h' => by
              rcases List.mem_cons.1 h' with rfl | h'
              · exact ⟨by have := HNl.out; omega, hK4⟩
              · exact hS4.df D' h'⟩
            have HL5 : Hid (Lst aft true (Seen f (0) (i + 1)) fo2) := hide (hL4.congr (fun k e => by
              have hx : xs = T.prs := hxs
              rw [hx]
              exact seen_step HM.out k e))
            clear hS4 hL4 hxs hK4 hD
            subst hA0
            go_wp2
            refine ⟨⟨i + 1, D :: Ds, fo2, _, _, _, _, _, _, _, _, _, _, _, _, _, _, _, _, _, _, _, _, _, _, _, _, _, _, _, _, _, _, _, _, _, _, _, _, _, _, _, _, _, _, _, _, _, _, _, _, _, _, rfl, by omega, HS5.out, HL5.out⟩, ?_⟩
            simp [intOf]
            omega
          case round =>
            rintro l pre ⟨k, e⟩ Wp W1 ⟨fo2, hS1, hL1⟩ hbW hfit
            have HC1 := hide (hS1.below hbW)
            have HL1 := hide hL1
            clear hS1 hbW hfit hL1
            refine ⟨fun a₁ W₂ => a₁ = { tmps := (((A0.tmps.setIfInBounds 45 (kV k)).setIfInBounds 46 (eV e)).setIfInBounds 12 (.pointer (some ⟨W1.heap.size, 0, none⟩))).setIfInBounds 13 (.pointer (some ⟨W1.heap.size + 1, 0, none⟩)), defers := [] } ∧ KB W₂ W1.heap.size k ∧ EB W₂ (W1.heap.size + 1) e, ?asg, ?bd⟩
            case asg =>
              intro K hK
              have hzk2 := zero_K
              have hze2 := zero_E
              subst hA0
              unfold prV
              simp only [List.zip_toArray, List.zip_cons_cons, List.zip_nil_right, List.foldl_toArray, List.foldl_cons, List.foldl_nil, List.setIfInBounds_toArray, List.set_cons_succ, List.set_cons_zero]
              gi_wp2_with (first | ((with_reducible refine wpListIn_putK ?_ (.tmp 12) (.tmp 45) ?_ W1.heap.size ?_ W1 ?_ ?_ k ?_ ?_); rfl; rfl; rfl; rfl; rfl; rfl; intro w2 HK2 hb2 hs2) | ((with_reducible refine wpListIn_putE ?_ (.tmp 13) (.tmp 46) ?_ (W1.heap.size + 1) ?_ w2 ?_ hs2.symm e ?_ ?_); rfl; rfl; rfl; rfl; rfl; intro w4 HE4 hb4 hs4))
              exact hK _ _ ⟨rfl, HK2.out.below hb4, HE4.out⟩ (hb2.trans (hb4.mono hb2.size))
            case bd =>
              rintro a₁ W₂ q' o' ⟨rfl, hk, he⟩ hb2 hlo hle
              have hC3 := (HC1.out.below hb2).putLoop hlo o' (by have := HNl.out; omega)
              have hne : W1.heap.size ≠ l := fun e => by
                have h1 := hk
                unfold KB Blk at h1
                rw [e, hlo] at h1
                cases h1
              have hne2 : W1.heap.size + 1 ≠ l := fun e => by
                have h1 := he
                unfold EB Blk at h1
                rw [e, hlo] at h1
                cases h1
              have hk3 : KB (W₂.putObj l o') W1.heap.size k := (World.putObj_heap_other hne).trans hk
              have he3 : EB (W₂.putObj l o') (W1.heap.size + 1) e := (World.putObj_heap_other hne2).trans he
              refine name_worldInK' (fun V => NxS w N aft true Ds fo2 V ∧ KB V W1.heap.size k ∧ EB V (W1.heap.size + 1) e) ⟨hC3, hk3, he3⟩ ?_
              rintro V ⟨hCV, hKV, hEV⟩
              clear hC3 hne hne2 hk3 he3 hk he hb2 hlo hle
              have HCV := hide hCV
              have HKV := hide hKV
              have HEV := hide hEV
              have cA : V.cell? ⟨N + 1, 0, none⟩ = some (.bool true) := by rw [hCV.ab.cell]; rfl
              have lA := hCV.ab.lt
              have cF : V.cell? ⟨N + 4, 0, none⟩ = some (.bool fo2.isSome) := by rw [hCV.fb.cell]; rfl
              have lF := hCV.fb.lt
              clear hCV hKV hEV HC1
              subst hA0
              simp only [List.setIfInBounds_toArray, List.set_cons_succ, List.set_cons_zero]
              have HBV := hide (Below.refl V.heap.size V)
              cases fo2 with
              | none =>
                simp only [Option.isSome_none] at cF
                have HLBV : Hid (Blk V (N + 3) (kdA kdZ) KDT) := hide HCV.out.lb
                gi_wp2_with (first | (refine ⟨trivial, ?_⟩; go_at_K) | ((with_reducible refine wpListIn_ldK ?_ (.tmp 12) ?_ W1.heap.size 0 ?_ k HKV.out.rng ?_); rfl; rfl; rfl) | ((with_reducible refine wpListIn_ldE ?_ (.tmp 13) ?_ (W1.heap.size + 1) 0 ?_ e HEV.out.rng ?_); rfl; rfl; rfl) | ((with_reducible refine wpListIn_bdKD ?_ (.tmp 65) (.tmp 66) ?_ k e ?_ ?_ ?_); rfl; rfl; rfl; rfl) | ((with_reducible refine wpListIn_stKD ?_ (.tmp 8) (.tmp 67) ?_ (N + 3) ?_ kdZ (k, e) ?_ HLBV.out ?_); rfl; rfl; rfl; rfl; intro w7 HK7 HG7; obtain ⟨hf7, hn7, hl7, ht7⟩ := HCV.out.take (k, e) HK7.out HG7.out; have HN7 := hide hn7; have HL7 := hide hl7; have HT7 := hide ht7; have f7 := hf7.frozen 0; have c7 : w7.cell? ⟨N + 4, 0, none⟩ = some (.bool false) := (by rw [hf7.cell]; rfl); have l7 := hf7.lt; clear hf7 hn7 hl7 ht7))
                exact ⟨(KeepsLD.below HBV.out).trans HL7.out, (KeepT.below HBV.out).trans HT7.out, some (k, e), HN7.out, (HL1.out.first (.inl rfl)).congr (fun a b => by simp [or_assoc])⟩
              | some m =>
                simp only [Option.isSome_some] at cF
                have HLBV : Hid (Blk V (N + 3) (kdA m) KDT) := hide HCV.out.lb
                have HMKV : Hid (V.rangeAt (N + 3) 0 (kC m.1)) := hide (KD.key HLBV.out)
                have HCmpV := hide (compare_any k m.1 V)
                gi_wp2_with (first | (refine ⟨trivial, ?_⟩; go_at_K) | ((with_reducible refine wpListIn_ldK ?_ (.tmp 59) ?_ (N + 3) 0 ?_ m.1 HMKV.out ?_); rfl; rfl; rfl) | ((with_reducible refine wpListIn_ldK ?_ (.tmp 12) ?_ W1.heap.size 0 ?_ k HKV.out.rng ?_); rfl; rfl; rfl) | ((with_reducible refine wpListIn_ldE ?_ (.tmp 13) ?_ (W1.heap.size + 1) 0 ?_ e HEV.out.rng ?_); rfl; rfl; rfl) | ((with_reducible refine wpListIn_bdKD ?_ (.tmp 65) (.tmp 66) ?_ k e ?_ ?_ ?_); rfl; rfl; rfl; rfl) | ((with_reducible refine wpListIn_stKD ?_ (.tmp 8) (.tmp 67) ?_ (N + 3) ?_ m (k, e) ?_ HLBV.out ?_); rfl; rfl; rfl; rfl; intro w7 HK7 HG7; obtain ⟨hf7, hn7, hl7, ht7⟩ := HCV.out.take (k, e) HK7.out HG7.out; have HN7 := hide hn7; have HL7 := hide hl7; have HT7 := hide ht7; have f7 := hf7.frozen 0; have c7 : w7.cell? ⟨N + 4, 0, none⟩ = some (.bool true) := (by rw [hf7.cell]; rfl); have l7 := hf7.lt; clear hf7 hn7 hl7 ht7))
                refine ⟨trivial, (CallsIn.inRound l (callsIn_wide.2 HCmpV.out)).mono ?_⟩
                rintro e2 V2 ⟨rfl, hbV2⟩
                have HBV2 := hide (HBV.out.trans (hbV2.mono HBV.out.size))
                have HCV2 := hide (HCV.out.below hbV2)
                have HKV2 := hide (HKV.out.below hbV2)
                have HEV2 := hide (HEV.out.below hbV2)
                clear HCmpV hbV2 cA lA cF lF
                have cA : V2.cell? ⟨N + 1, 0, none⟩ = some (.bool true) := by rw [HCV2.out.ab.cell]; rfl
                have lA := HCV2.out.ab.lt
                have cF : V2.cell? ⟨N + 4, 0, none⟩ = some (.bool true) := by rw [HCV2.out.fb.cell]; rfl
                have lF := HCV2.out.fb.lt
                have HLBV2 : Hid (Blk V2 (N + 3) (kdA m) KDT) := hide HCV2.out.lb
                by_cases hlt2 : cmp k m.1 < 0
                · have HLT := hide hlt2
                  gi_wp2_with (first | (refine ⟨trivial, ?_⟩; go_at_K) | ((with_reducible refine wpListIn_ldK ?_ (.tmp 12) ?_ W1.heap.size 0 ?_ k HKV2.out.rng ?_); rfl; rfl; rfl) | ((with_reducible refine wpListIn_ldE ?_ (.tmp 13) ?_ (W1.heap.size + 1) 0 ?_ e HEV2.out.rng ?_); rfl; rfl; rfl) | ((with_reducible refine wpListIn_bdKD ?_ (.tmp 65) (.tmp 66) ?_ k e ?_ ?_ ?_); rfl; rfl; rfl; rfl) | ((with_reducible refine wpListIn_stKD ?_ (.tmp 8) (.tmp 67) ?_ (N + 3) ?_ m (k, e) ?_ HLBV2.out ?_); rfl; rfl; rfl; rfl; intro w7 HK7 HG7; obtain ⟨hf7, hn7, hl7, ht7⟩ := HCV2.out.take (k, e) HK7.out HG7.out; have HN7 := hide hn7; have HL7 := hide hl7; have HT7 := hide ht7; have f7 := hf7.frozen 0; have c7 : w7.cell? ⟨N + 4, 0, none⟩ = some (.bool true) := (by rw [hf7.cell]; rfl); have l7 := hf7.lt; clear hf7 hn7 hl7 ht7))
                  exact ⟨(KeepsLD.below HBV2.out).trans HL7.out, (KeepT.below HBV2.out).trans HT7.out, some (k, e), HN7.out, (HL1.out.take (.inl rfl) HLT.out).congr (fun a b => by simp [or_assoc])⟩
                · have HLT := hide hlt2
                  gi_wp2_with (refine ⟨trivial, ?_⟩; go_at_K)
                  exact ⟨KeepsLD.below HBV2.out, KeepT.below HBV2.out, some m, HCV2.out, (HL1.out.skip (k := k) (e := e) (by have := HLT.out; omega)).congr (fun a b => by simp [or_assoc])⟩
    · obtain rfl : i = 16 := by omega
      have hji : ¬ ((16 : Nat) : Int) < 16 := by decide
      clear cH lH
      have HLf : Hid (Lst aft true (fun k e => f k = some e) fo) := hide (HL.out.congr (fun k e => seen_all k e))
      go_upto_region 18 with fail
      have HS1 := hide (HS.out.below ((Below.refl _ wr).drew))
      refine wp_calm (nx18_walk _ (fun _ _ _ _ _ h => h) wr N (Option.getD fo kdZ) (Option.isSome fo) (Blk.drew HS.out.rb) (Blk.drew HS.out.lb) (Blk.drew HS.out.fb) _ (Nat.lt_of_sub_pos (by exact Nat.succ_pos _)) rfl rfl rfl ?_)
      have H4 := hide (KD.put HS1.out.rb (Option.getD fo kdZ))
      generalize wr.drew.setCells (N + 2) 0 (kdC (Option.getD fo kdZ)) = w4 at *
      simp only [Act.put, List.setIfInBounds_toArray, List.set_cons_zero, List.set_cons_succ, Exit.then]
      clear HS cF lF
      go_wp2
      exact nx_end rfl HS1.out H4.out.1 H4.out.2 rfl rfl HN.out HLf.out
end TX
end Go.Proofs.Ytdigjpddmfolgaa

/- Next, walked: of those above one. -/
namespace Go.Proofs.Ytdigjpddmfolgaa
set_option linter.unusedVariables false
set_option linter.unusedSimpArgs false
namespace TX
open Go.RowKit Go.Sort
set_option maxRecDepth 100000
set_option maxHeartbeats 16000000
attribute [local go_sem] Oper.semAt_some

theorem next_above (w : World) {x P : Nat} {L : List Tab} {f : KY → Option EN} (hx : IxL w x 16 L f P) (aft : KY) : Calls Try.prog 14 #[.pointer (some ⟨x, 0, none⟩), kV aft, .bool false] w (NxtC w aft false f) := by
  obtain ⟨N, hN⟩ : ∃ N, N = w.heap.size := ⟨_, rfl⟩
  have hzk := zero_KD
  have HX := hide hx
  have HN := hide hN
  have hb256 := bt_lt aft 0
  clear hx
  refine (callsIn_wide (n := 5)).1 ?_
  refine callsIn_of_wp_marks Try.func14 rfl trivial ?_ rfl
  refine wpIn_wide.2 ?_
  simp only [Try.ntmps14, List.size_toArray, List.length_cons, List.length_nil, Nat.reduceAdd, Nat.reduceSub, Array.replicate_succ, Array.replicate_zero, List.push_toArray, List.append_toArray, List.nil_append, List.cons_append]
  go_upto_region 1 with fail
  go_upto_region 4 with fail
  refine name_world (fun W => NxA w N aft false W) (by rw [hN]; exact nxA_made w aft false) ?_
  rintro W hA
  simp only [Nat.add_assoc, Nat.reduceAdd]
  rw [← hN]
  have hsz := hA.sz
  have cK : W.cell? ⟨N, 0, none⟩ = some (.int .u8 (bt aft 0 : Int)) := KB.head hA.kb
  have cA : W.cell? ⟨N + 1, 0, none⟩ = some (.bool false) := by rw [hA.ab.cell]; rfl
  have lA : N + 1 < W.heap.size := by omega
  have HS0 := hide hA.begin
  clear hA hN
  go_upto_region 8 with fail
  go_upto_region 9 with fail
  refine wp_loop (fun a' w' => ∃ (i : Nat) (Ds : List Nat) (fo : Option (KY × EN)) (u11 u12 u13 u22 u23 u24 u25 u26 u27 u28 u29 u30 u31 u32 u33 u34 u35 u36 u37 u38 u39 u40 u41 u42 u43 u44 u45 u46 u47 u48 u49 u50 u51 u52 u53 u54 u55 u56 u57 u58 u59 u60 u61 u62 u63 u64 u65 u66 u67 u68 : Value), a' = { tmps := #[.pointer (some ⟨x, 0, none⟩), kV aft, .bool false, undef, .pointer (some ⟨N, 0, none⟩), .pointer (some ⟨N + 1, 0, none⟩), .pointer (some ⟨N + 2, 0, none⟩), .bool false, .pointer (some ⟨N + 3, 0, none⟩), .int .i64 (bt aft 0 : Int), .pointer (some ⟨N + 4, 0, none⟩), u11, u12, u13, .pointer (some ⟨x, 0, none⟩), .bool false, undef, .pointer (some ⟨N, 0, none⟩), .int .u8 (bt aft 0 : Int), .int .i64 (bt aft 0 : Int), .bool false, .int .i64 (i : Int), u22, u23, u24, u25, u26, u27, u28, u29, u30, u31, u32, u33, u34, u35, u36, u37, u38, u39, u40, u41, u42, u43, u44, u45, u46, u47, u48, u49, u50, u51, u52, u53, u54, u55, u56, u57, u58, u59, u60, u61, u62, u63, u64, u65, u66, u67, u68, undef, undef], defers := marks Ds } ∧ i ≤ 16 ∧ NxS w N aft false Ds fo w' ∧ Lst aft false (Seen f (bt aft 0) i) fo) (fun a' _ => 16 - (intOf (a'.tmps.getD 21 undef)).toNat) ?_ ?_
  · exact ⟨0, [], none, undef, undef, undef, undef, undef, undef, undef, undef, undef, undef, undef, undef, undef, undef, undef, undef, undef, undef, undef, undef, undef, undef, undef, undef, undef, undef, undef, undef, undef, undef, undef, undef, undef, undef, undef, undef, undef, undef, undef, undef, undef, undef, undef, undef, undef, undef, undef, undef, undef, undef, rfl, by omega, HS0.out, Lst.begin aft false f _⟩
  · rintro a' wr ⟨i, Ds, fo, u11, u12, u13, u22, u23, u24, u25, u26, u27, u28, u29, u30, u31, u32, u33, u34, u35, u36, u37, u38, u39, u40, u41, u42, u43, u44, u45, u46, u47, u48, u49, u50, u51, u52, u53, u54, u55, u56, u57, u58, u59, u60, u61, u62, u63, u64, u65, u66, u67, u68, rfl, hi, hS, hL⟩
    clear HS0 hsz cK cA lA
    have HS := hide hS
    have HL := hide hL
    have cF : wr.cell? ⟨N + 4, 0, none⟩ = some (.bool fo.isSome) := by rw [hS.fb.cell]; rfl
    have lF := hS.fb.lt
    have cH : wr.cell? ⟨N + 3, 0, none⟩ = some (.int .u8 (bt (fo.getD kdZ).1 0 : Int)) := KD.head hS.lb
    have lH := hS.lb.lt
    clear hS hL
    by_cases hlt : i < 16
    · have hji : (i : Int) < 16 := by omega
      go_upto_region 11 with fail
      cases fo with
      | none =>
        simp only [Option.isSome_none] at cF
        clear cH lH
        go_upto_region 12 with fail
        clear cF lF
        obtain ⟨q, hq⟩ : ∃ q, q = (bt aft 0 + i) % 16 := ⟨_, rfl⟩
        have hq16 : q < 16 := by rw [hq]; exact Nat.mod_lt _ (by decide)
        have hqs : (((bt aft 0 : Nat) : Int) + (i : Int)).tmod 16 = (q : Int) := by
          rw [hq, ← Int.natCast_add, show (16 : Int) = ((16 : Nat) : Int) from rfl, ← Int.ofNat_tmod]
        have HX1 := hide (HX.out.below (by have h := HS.out.bel; rw [HN.out] at h; exact h))
        obtain ⟨t, ht⟩ : ∃ t, L[q]? = some t := ⟨_, List.getElem?_eq_getElem (by rw [HX.out.len]; exact hq16)⟩
        have hc := HX1.out.cell ht
        unfold ptrV at hc
        obtain ⟨T, hT, _, hMp⟩ := (HX1.out.tab q t ht).ex
        rw [hq] at hMp
        have HT := hide hT
        have HM := hide hMp
        have hxl := HX1.out.blk.lt
        have HQ := hide hq16
        have HAll := hide (fun w => all_any w t.z)
        clear hq ht hT hMp HX1
        go_upto_region 13 with (first | (refine wpList_val (.pointer (some ⟨x, q, none⟩)) (by rfl) (run_ix16 (by rfl) (by rfl) (by rfl) HQ.out _) ?_) | (go_at_call 37; (with_reducible refine (HAll.out wr).mono ?_); rintro e w' ⟨rfl, hw⟩; subst hw; unfold allV))
        have hb3 : Below wr.heap.size wr (wr.alloc (.cells #[.pointer (some ⟨t.z, 0, none⟩)] 65)) := below_alloc wr _
        have HB3 := hide (Blk.made wr #[.pointer (some ⟨t.z, 0, none⟩)] 65)
        have HT3 := hide (TbX.below HT.out hb3)
        have HS3 := hide (HS.out.below hb3)
        obtain ⟨w3, hw3⟩ : ∃ w3, w3 = wr.alloc (.cells #[.pointer (some ⟨t.z, 0, none⟩)] 65) := ⟨_, rfl⟩
        rw [← hw3] at HB3 HT3 HS3 ⊢
        generalize wr.heap.size = ab at *
        clear HT HS hb3 hw3 hc hxl HAll hqs
        have HDl : Hid (∀ D ∈ Ds, D < w3.heap.size) := hide (fun D hD => (Array.getElem?_eq_some_iff.1 (HS3.out.df D hD).2).1)
        have HNl : Hid (N ≤ w3.heap.size) := hide (by have := HS3.out.sz; omega)
        refine (wpIn_wide (n := 5)).1 ?_
        generalize hA0 : Act.mk _ _ = A0
        refine wpIn_rangeKl rfl (by omega) (gf := 54) (lb := #[.pointer (some ⟨ab, 0, none⟩)]) (by rw [← hA0]; rfl) trivial (enters_of Try.func54 (by kernel_rfl) rfl) (all_fit (5 - 1) w3 HT3.out ab HB3.out) (Below.refl _ _) (KeepT.keeping tys) (fun _ => rfl)
          (fun pre W => ∃ fo, NxS w N aft false Ds fo W ∧ Lst aft false (fun k e => Seen f (bt aft 0) i k e ∨ (k, e) ∈ pre) fo)
          (fun _ _ _ => False)
          (NxS.own (S := fun pre => (fun k e => Seen f (bt aft 0) i k e ∨ (k, e) ∈ pre)) HNl.out HDl.out)
          (fun _ _ _ _ _ h => h.elim)
          ⟨none, HS3.out, HL.out.congr (fun k e => by simp)⟩ (fun A B h => KeepT.below h) ?round ?done ?stop
        case stop => exact fun D c pre W3 hD h => h.elim
        case done =>
          rintro D xs W4 hD hxs ⟨fo2, hS4, hL4⟩ hK4
          have HS5 : Hid (NxS w N aft false (D :: Ds) fo2 W4) := hide ⟨hS4.kb, hS4.ab, hS4.rb, hS4.lb, hS4.fb, hS4.bel, List.nodup_cons.2 ⟨fun h => by have := HDl.out D h; omega, hS4.nd⟩, fun D' h' => by
            rcases List.mem_cons.1 h' with rfl | h'
            · exact ⟨by have := HNl.out; omega, hK4⟩
            · exact hS4.df D' h'⟩
          have HL5 : Hid (Lst aft false (Seen f (bt aft 0) (i + 1)) fo2) := hide (hL4.congr (fun k e => by
            have hx : xs = T.prs := hxs
            rw [hx]
            exact seen_step HM.out k e))
          clear hS4 hL4 hxs hK4 hD
          subst hA0
          go_wp2
          refine ⟨⟨i + 1, D :: Ds, fo2, _, _, _, _, _, _, _, _, _, _, _, _, _, _, _, _, _, _, _, _, _, _, _, _, _, _, _, _, _, _, _, _, _, _, _, _, _, _, _, _, _, _, _, _, _, _, _, _, _, _, rfl, by omega, HS5.out, HL5.out⟩, ?_⟩
          simp [intOf]
          omega
        case round =>
          rintro l pre ⟨k, e⟩ Wp W1 ⟨fo2, hS1, hL1⟩ hbW hfit
          have HC1 := hide (hS1.below hbW)
          have HL1 := hide hL1
          clear hS1 hbW hfit hL1
          refine ⟨fun a₁ W₂ => a₁ = { tmps := (((A0.tmps.setIfInBounds 45 (kV k)).setIfInBounds 46 (eV e)).setIfInBounds 12 (.pointer (some ⟨W1.heap.size, 0, none⟩))).setIfInBounds 13 (.pointer (some ⟨W1.heap.size + 1, 0, none⟩)), defers := [] } ∧ KB W₂ W1.heap.size k ∧ EB W₂ (W1.heap.size + 1) e, ?asg, ?bd⟩
          case asg =>
            intro K hK
            have hzk2 := zero_K
            have hze2 := zero_E
            subst hA0
            unfold prV
            simp only [List.zip_toArray, List.zip_cons_cons, List.zip_nil_right, List.foldl_toArray, List.foldl_cons, List.foldl_nil, List.setIfInBounds_toArray, List.set_cons_succ, List.set_cons_zero]
            gi_wp2_with (first | ((with_reducible refine wpListIn_putK ?_ (.tmp 12) (.tmp 45) ?_ W1.heap.size ?_ W1 ?_ ?_ k ?_ ?_); rfl; rfl; rfl; rfl; rfl; rfl; intro w2 HK2 hb2 hs2) | ((with_reducible refine wpListIn_putE ?_ (.tmp 13) (.tmp 46) ?_ (W1.heap.size + 1) ?_ w2 ?_ hs2.symm e ?_ ?_); rfl; rfl; rfl; rfl; rfl; intro w4 HE4 hb4 hs4))
            exact hK _ _ ⟨rfl, HK2.out.below hb4, HE4.out⟩ (hb2.trans (hb4.mono hb2.size))
          case bd =>
            rintro a₁ W₂ q' o' ⟨rfl, hk, he⟩ hb2 hlo hle
            have hC3 := (HC1.out.below hb2).putLoop hlo o' (by have := HNl.out; omega)
            have hne : W1.heap.size ≠ l := fun e => by
              have h1 := hk
              unfold KB Blk at h1
              rw [e, hlo] at h1
              cases h1
            have hne2 : W1.heap.size + 1 ≠ l := fun e => by
              have h1 := he
              unfold EB Blk at h1
              rw [e, hlo] at h1
              cases h1
            have hk3 : KB (W₂.putObj l o') W1.heap.size k := (World.putObj_heap_other hne).trans hk
            have he3 : EB (W₂.putObj l o') (W1.heap.size + 1) e := (World.putObj_heap_other hne2).trans he
            refine name_worldInK' (fun V => NxS w N aft false Ds fo2 V ∧ KB V W1.heap.size k ∧ EB V (W1.heap.size + 1) e) ⟨hC3, hk3, he3⟩ ?_
            rintro V ⟨hCV, hKV, hEV⟩
            clear hC3 hne hne2 hk3 he3 hk he hb2 hlo hle
            have HCV := hide hCV
            have HKV := hide hKV
            have HEV := hide hEV
            have cA : V.cell? ⟨N + 1, 0, none⟩ = some (.bool false) := by rw [hCV.ab.cell]; rfl
            have lA := hCV.ab.lt
            have cF : V.cell? ⟨N + 4, 0, none⟩ = some (.bool fo2.isSome) := by rw [hCV.fb.cell]; rfl
            have lF := hCV.fb.lt
            clear hCV hKV hEV HC1
            subst hA0
            simp only [List.setIfInBounds_toArray, List.set_cons_succ, List.set_cons_zero]
            have HBV := hide (Below.refl V.heap.size V)
            have HAV := hide HCV.out.kb.rng
            have HCmpV := hide (compare_any k aft V)
            gi_wp2_with (first | ((with_reducible refine wpListIn_ldK ?_ (.tmp 4) ?_ N 0 ?_ aft HAV.out ?_); rfl; rfl; rfl) | ((with_reducible refine wpListIn_ldK ?_ (.tmp 12) ?_ W1.heap.size 0 ?_ k HKV.out.rng ?_); rfl; rfl; rfl))
            refine ⟨trivial, (CallsIn.inRound l (callsIn_wide.2 HCmpV.out)).mono ?_⟩
            rintro e2 V1 ⟨rfl, hbV1⟩
            have HBV1 := hide (HBV.out.trans (hbV1.mono HBV.out.size))
            have HCV1 := hide (HCV.out.below hbV1)
            have HKV1 := hide (HKV.out.below hbV1)
            have HEV1 := hide (HEV.out.below hbV1)
            clear HCmpV hbV1 cA lA cF lF
            have cA : V1.cell? ⟨N + 1, 0, none⟩ = some (.bool false) := by rw [HCV1.out.ab.cell]; rfl
            have lA := HCV1.out.ab.lt
            have cF : V1.cell? ⟨N + 4, 0, none⟩ = some (.bool fo2.isSome) := by rw [HCV1.out.fb.cell]; rfl
            have lF := HCV1.out.fb.lt
            by_cases hok : 0 < cmp k aft
            · have HOK := hide hok
              cases fo2 with
              | none =>
                simp only [Option.isSome_none] at cF
                have HLBV1 : Hid (Blk V1 (N + 3) (kdA kdZ) KDT) := hide HCV1.out.lb
                gi_wp2_with (first | (refine ⟨trivial, ?_⟩; go_at_K) | ((with_reducible refine wpListIn_ldK ?_ (.tmp 12) ?_ W1.heap.size 0 ?_ k HKV1.out.rng ?_); rfl; rfl; rfl) | ((with_reducible refine wpListIn_ldE ?_ (.tmp 13) ?_ (W1.heap.size + 1) 0 ?_ e HEV1.out.rng ?_); rfl; rfl; rfl) | ((with_reducible refine wpListIn_bdKD ?_ (.tmp 65) (.tmp 66) ?_ k e ?_ ?_ ?_); rfl; rfl; rfl; rfl) | ((with_reducible refine wpListIn_stKD ?_ (.tmp 8) (.tmp 67) ?_ (N + 3) ?_ kdZ (k, e) ?_ HLBV1.out ?_); rfl; rfl; rfl; rfl; intro w7 HK7 HG7; obtain ⟨hf7, hn7, hl7, ht7⟩ := HCV1.out.take (k, e) HK7.out HG7.out; have HN7 := hide hn7; have HL7 := hide hl7; have HT7 := hide ht7; have f7 := hf7.frozen 0; have c7 : w7.cell? ⟨N + 4, 0, none⟩ = some (.bool false) := (by rw [hf7.cell]; rfl); have l7 := hf7.lt; clear hf7 hn7 hl7 ht7))
                exact ⟨(KeepsLD.below HBV1.out).trans HL7.out, (KeepT.below HBV1.out).trans HT7.out, some (k, e), HN7.out, (HL1.out.first (.inr hok)).congr (fun a b => by simp [or_assoc])⟩
              | some m =>
                simp only [Option.isSome_some] at cF
                have HLBV1 : Hid (Blk V1 (N + 3) (kdA m) KDT) := hide HCV1.out.lb
                have HMKV1 : Hid (V1.rangeAt (N + 3) 0 (kC m.1)) := hide (KD.key HLBV1.out)
                have HCmpV1 := hide (compare_any k m.1 V1)
                gi_wp2_with (first | (refine ⟨trivial, ?_⟩; go_at_K) | ((with_reducible refine wpListIn_ldK ?_ (.tmp 59) ?_ (N + 3) 0 ?_ m.1 HMKV1.out ?_); rfl; rfl; rfl) | ((with_reducible refine wpListIn_ldK ?_ (.tmp 12) ?_ W1.heap.size 0 ?_ k HKV1.out.rng ?_); rfl; rfl; rfl) | ((with_reducible refine wpListIn_ldE ?_ (.tmp 13) ?_ (W1.heap.size + 1) 0 ?_ e HEV1.out.rng ?_); rfl; rfl; rfl) | ((with_reducible refine wpListIn_bdKD ?_ (.tmp 65) (.tmp 66) ?_ k e ?_ ?_ ?_); rfl; rfl; rfl; rfl) | ((with_reducible refine wpListIn_stKD ?_ (.tmp 8) (.tmp 67) ?_ (N + 3) ?_ m (k, e) ?_ HLBV1.out ?_); rfl; rfl; rfl; rfl; intro w7 HK7 HG7; obtain ⟨hf7, hn7, hl7, ht7⟩ := HCV1.out.take (k, e) HK7.out HG7.out; have HN7 := hide hn7; have HL7 := hide hl7; have HT7 := hide ht7; have f7 := hf7.frozen 0; have c7 : w7.cell? ⟨N + 4, 0, none⟩ = some (.bool true) := (by rw [hf7.cell]; rfl); have l7 := hf7.lt; clear hf7 hn7 hl7 ht7))
                refine ⟨trivial, (CallsIn.inRound l (callsIn_wide.2 HCmpV1.out)).mono ?_⟩
                rintro e2 V2 ⟨rfl, hbV2⟩
                have HBV2 := hide (HBV1.out.trans (hbV2.mono HBV1.out.size))
                have HCV2 := hide (HCV1.out.below hbV2)
                have HKV2 := hide (HKV1.out.below hbV2)
                have HEV2 := hide (HEV1.out.below hbV2)
                clear HCmpV1 hbV2 cA lA cF lF
                have cA : V2.cell? ⟨N + 1, 0, none⟩ = some (.bool false) := by rw [HCV2.out.ab.cell]; rfl
                have lA := HCV2.out.ab.lt
                have cF : V2.cell? ⟨N + 4, 0, none⟩ = some (.bool true) := by rw [HCV2.out.fb.cell]; rfl
                have lF := HCV2.out.fb.lt
                have HLBV2 : Hid (Blk V2 (N + 3) (kdA m) KDT) := hide HCV2.out.lb
                by_cases hlt2 : cmp k m.1 < 0
                · have HLT := hide hlt2
                  gi_wp2_with (first | (refine ⟨trivial, ?_⟩; go_at_K) | ((with_reducible refine wpListIn_ldK ?_ (.tmp 12) ?_ W1.heap.size 0 ?_ k HKV2.out.rng ?_); rfl; rfl; rfl) | ((with_reducible refine wpListIn_ldE ?_ (.tmp 13) ?_ (W1.heap.size + 1) 0 ?_ e HEV2.out.rng ?_); rfl; rfl; rfl) | ((with_reducible refine wpListIn_bdKD ?_ (.tmp 65) (.tmp 66) ?_ k e ?_ ?_ ?_); rfl; rfl; rfl; rfl) | ((with_reducible refine wpListIn_stKD ?_ (.tmp 8) (.tmp 67) ?_ (N + 3) ?_ m (k, e) ?_ HLBV2.out ?_); rfl; rfl; rfl; rfl; intro w7 HK7 HG7; obtain ⟨hf7, hn7, hl7, ht7⟩ := HCV2.out.take (k, e) HK7.out HG7.out; have HN7 := hide hn7; have HL7 := hide hl7; have HT7 := hide ht7; have f7 := hf7.frozen 0; have c7 : w7.cell? ⟨N + 4, 0, none⟩ = some (.bool true) := (by rw [hf7.cell]; rfl); have l7 := hf7.lt; clear hf7 hn7 hl7 ht7))
                  exact ⟨(KeepsLD.below HBV2.out).trans HL7.out, (KeepT.below HBV2.out).trans HT7.out, some (k, e), HN7.out, (HL1.out.take (.inr hok) HLT.out).congr (fun a b => by simp [or_assoc])⟩
                · have HLT := hide hlt2
                  gi_wp2_with (refine ⟨trivial, ?_⟩; go_at_K)
                  exact ⟨KeepsLD.below HBV2.out, KeepT.below HBV2.out, some m, HCV2.out, (HL1.out.skip (k := k) (e := e) (by have := HLT.out; omega)).congr (fun a b => by simp [or_assoc])⟩
            · have HOK : Hid (¬ okN aft false k) := hide (fun h => h.elim (fun e => by cases e) hok)
              gi_wp2_with (refine ⟨trivial, ?_⟩; go_at_K)
              exact ⟨KeepsLD.below HBV1.out, KeepT.below HBV1.out, fo2, HCV1.out, (HL1.out.no (k := k) (e := e) HOK.out).congr (fun a b => by simp [or_assoc])⟩
      | some y =>
        simp only [Option.isSome_some, Option.getD_some] at cF cH
        have hyb := bt_lt y.1 0
        by_cases hlt2 : bt y.1 0 < bt aft 0 + i
        · have hci : ((bt y.1 0 : Nat) : Int) < ((bt aft 0 : Nat) : Int) + (i : Int) := by omega
          have HLT := hide hlt2
          clear hlt2
          have HLf : Hid (Lst aft false (fun k e => f k = some e) (some y)) := hide (HL.out.early (by have := HLT.out; show bt y.1 0 < bt aft 0 + i; omega) hi)
          go_upto_region 18 with fail
          have HS1 := hide (HS.out.below ((Below.refl _ wr).drew))
          refine wp_calm (nx18_walk _ (fun _ _ _ _ _ h => h) wr N (Option.getD (some y) kdZ) (Option.isSome (some y)) (Blk.drew HS.out.rb) (Blk.drew HS.out.lb) (Blk.drew HS.out.fb) _ (Nat.lt_of_sub_pos (by exact Nat.succ_pos _)) rfl rfl rfl ?_)
          have H4 := hide (KD.put HS1.out.rb (Option.getD (some y) kdZ))
          generalize wr.drew.setCells (N + 2) 0 (kdC (Option.getD (some y) kdZ)) = w4 at *
          simp only [Act.put, List.setIfInBounds_toArray, List.set_cons_zero, List.set_cons_succ, Exit.then]
          clear HS cF lF
          go_wp2
          exact nx_end rfl HS1.out H4.out.1 H4.out.2 rfl rfl HN.out HLf.out
        · have hci : ¬ ((bt y.1 0 : Nat) : Int) < ((bt aft 0 : Nat) : Int) + (i : Int) := by omega
          go_upto_region 12 with fail
          clear hci hlt2 hyb cH lH
          clear cF lF
          obtain ⟨q, hq⟩ : ∃ q, q = (bt aft 0 + i) % 16 := ⟨_, rfl⟩
          have hq16 : q < 16 := by rw [hq]; exact Nat.mod_lt _ (by decide)
          have hqs : (((bt aft 0 : Nat) : Int) + (i : Int)).tmod 16 = (q : Int) := by
            rw [hq, ← Int.natCast_add, show (16 : Int) = ((16 : Nat) : Int) from rfl, ← Int.ofNat_tmod]
          have HX1 := hide (HX.out.below (by have h := HS.out.bel; rw [HN.out] at h; exact h))
          obtain ⟨t, ht⟩ : ∃ t, L[q]? = some t := ⟨_, List.getElem?_eq_getElem (by rw [HX.out.len]; exact hq16)⟩
          have hc := HX1.out.cell ht
          unfold ptrV at hc
          obtain ⟨T, hT, _, hMp⟩ := (HX1.out.tab q t ht).ex
          rw [hq] at hMp
          have HT := hide hT
          have HM := hide hMp
          have hxl := HX1.out.blk.lt
          have HQ := hide hq16
          have HAll := hide (fun w => all_any w t.z)
          clear hq ht hT hMp HX1
          go_upto_region 13 with (first | (refine wpList_val (.pointer (some ⟨x, q, none⟩)) (by rfl) (run_ix16 (by rfl) (by rfl) (by rfl) HQ.out _) ?_) | (go_at_call 37; (with_reducible refine (HAll.out wr).mono ?_); rintro e w' ⟨rfl, hw⟩; subst hw; unfold allV))
          have hb3 : Below wr.heap.size wr (wr.alloc (.cells #[.pointer (some ⟨t.z, 0, none⟩)] 65)) := below_alloc wr _
          have HB3 := hide (Blk.made wr #[.pointer (some ⟨t.z, 0, none⟩)] 65)
          have HT3 := hide (TbX.below HT.out hb3)
          have HS3 := hide (HS.out.below hb3)
          obtain ⟨w3, hw3⟩ : ∃ w3, w3 = wr.alloc (.cells #[.pointer (some ⟨t.z, 0, none⟩)] 65) := ⟨_, rfl⟩
          rw [← hw3] at HB3 HT3 HS3 ⊢
          generalize wr.heap.size = ab at *
          clear HT HS hb3 hw3 hc hxl HAll hqs
          have HDl : Hid (∀ D ∈ Ds, D < w3.heap.size) := hide (fun D hD => (Array.getElem?_eq_some_iff.1 (HS3.out.df D hD).2).1)
          have HNl : Hid (N ≤ w3.heap.size) := hide (by have := HS3.out.sz; omega)
          refine (wpIn_wide (n := 5)).1 ?_
          generalize hA0 : Act.mk _ _ = A0
          refine wpIn_rangeKl rfl (by omega) (gf := 54) (lb := #[.pointer (some ⟨ab, 0, none⟩)]) (by rw [← hA0]; rfl) trivial (enters_of Try.func54 (by kernel_rfl) rfl) (all_fit (5 - 1) w3 HT3.out ab HB3.out) (Below.refl _ _) (KeepT.keeping tys) (fun _ => rfl)
            (fun pre W => ∃ fo, NxS w N aft false Ds fo W ∧ Lst aft false (fun k e => Seen f (bt aft 0) i k e ∨ (k, e) ∈ pre) fo)
            (fun _ _ _ => False)
            (NxS.own (S := fun pre => (fun k e => Seen f (bt aft 0) i k e ∨ (k, e) ∈ pre)) HNl.out HDl.out)
            (fun _ _ _ _ _ h => h.elim)
            ⟨(some y), HS3.out, HL.out.congr (fun k e => by simp)⟩ (fun A B h => KeepT.below h) ?round ?done ?stop
          case stop => exact fun D c pre W3 hD h => h.elim
          case done =>
            rintro D xs W4 hD hxs ⟨fo2, hS4, hL4⟩ hK4
            have HS5 : Hid (NxS w N aft false (D :: Ds) fo2 W4) := hide ⟨hS4.kb, hS4.ab, hS4.rb, hS4.lb, hS4.fb, hS4.bel, List.nodup_cons.2 ⟨fun h => by have := HDl.out D h; omega, hS4.nd⟩, fun D' h' => by
              rcases List.mem_cons.1 h' with rfl | h'
              · exact ⟨by have := HNl.out; omega, hK4⟩
              · exact hS4.df D' h'⟩
            have HL5 : Hid (Lst aft false (Seen f (bt aft 0) (i + 1)) fo2) := hide (hL4.congr (fun k e => by
              have hx : xs = T.prs := hxs
              rw [hx]
              exact seen_step HM.out k e))
            clear hS4 hL4 hxs hK4 hD
            subst hA0
            go_wp2
            refine ⟨⟨i + 1, D :: Ds, fo2, _, _, _, _, _, _, _, _, _, _, _, _, _, _, _, _, _, _, _, _, _, _, _, _, _, _, _, _, _, _, _, _, _, _, _, _, _, _, _, _, _, _, _, _, _, _, _, _, _, _, rfl, by omega, HS5.out, HL5.out⟩, ?_⟩
            simp [intOf]
            omega
          case round =>
            rintro l pre ⟨k, e⟩ Wp W1 ⟨fo2, hS1, hL1⟩ hbW hfit
            have HC1 := hide (hS1.below hbW)
            have HL1 := hide hL1
            clear hS1 hbW hfit hL1
            refine ⟨fun a₁ W₂ => a₁ = { tmps := (((A0.tmps.setIfInBounds 45 (kV k)).setIfInBounds 46 (eV e)).setIfInBounds 12 (.pointer (some ⟨W1.heap.size, 0, none⟩))).setIfInBounds 13 (.pointer (some ⟨W1.heap.size + 1, 0, none⟩)), defers := [] } ∧ KB W₂ W1.heap.size k ∧ EB W₂ (W1.heap.size + 1) e, ?asg, ?bd⟩
            case asg =>
              intro K hK
              have hzk2 := zero_K
              have hze2 := zero_E
              subst hA0
              unfold prV
              simp only [List.zip_toArray, List.zip_cons_cons, List.zip_nil_right, List.foldl_toArray, List.foldl_cons, List.foldl_nil, List.setIfInBounds_toArray, List.set_cons_succ, List.set_cons_zero]
              gi_wp2_with (first | ((with_reducible refine wpListIn_putK ?_ (.tmp 12) (.tmp 45) ?_ W1.heap.size ?_ W1 ?_ ?_ k ?_ ?_); rfl; rfl; rfl; rfl; rfl; rfl; intro w2 HK2 hb2 hs2) | ((with_reducible refine wpListIn_putE ?_ (.tmp 13) (.tmp 46) ?_ (W1.heap.size + 1) ?_ w2 ?_ hs2.symm e ?_ ?_); rfl; rfl; rfl; rfl; rfl; intro w4 HE4 hb4 hs4))
              exact hK _ _ ⟨rfl, HK2.out.below hb4, HE4.out⟩ (hb2.trans (hb4.mono hb2.size))
            case bd =>
              rintro a₁ W₂ q' o' ⟨rfl, hk, he⟩ hb2 hlo hle
              have hC3 := (HC1.out.below hb2).putLoop hlo o' (by have := HNl.out; omega)
              have hne : W1.heap.size ≠ l := fun e => by
                have h1 := hk
                unfold KB Blk at h1
                rw [e, hlo] at h1
                cases h1
              have hne2 : W1.heap.size + 1 ≠ l := fun e => by
                have h1 := he
                unfold EB Blk at h1
                rw [e, hlo] at h1
                cases h1
              have hk3 : KB (W₂.putObj l o') W1.heap.size k := (World.putObj_heap_other hne).trans hk
              have he3 : EB (W₂.putObj l o') (W1.heap.size + 1) e := (World.putObj_heap_other hne2).trans he
              refine name_worldInK' (fun V => NxS w N aft false Ds fo2 V ∧ KB V W1.heap.size k ∧ EB V (W1.heap.size + 1) e) ⟨hC3, hk3, he3⟩ ?_
              rintro V ⟨hCV, hKV, hEV⟩
              clear hC3 hne hne2 hk3 he3 hk he hb2 hlo hle
              have HCV := hide hCV
              have HKV := hide hKV
              have HEV := hide hEV
              have cA : V.cell? ⟨N + 1, 0, none⟩ = some (.bool false) := by rw [hCV.ab.cell]; rfl
              have lA := hCV.ab.lt
              have cF : V.cell? ⟨N + 4, 0, none⟩ = some (.bool fo2.isSome) := by rw [hCV.fb.cell]; rfl
              have lF := hCV.fb.lt
              clear hCV hKV hEV HC1
              subst hA0
              simp only [List.setIfInBounds_toArray, List.set_cons_succ, List.set_cons_zero]
              have HBV := hide (Below.refl V.heap.size V)
              have HAV := hide HCV.out.kb.rng
              have HCmpV := hide (compare_any k aft V)
              gi_wp2_with (first | ((with_reducible refine wpListIn_ldK ?_ (.tmp 4) ?_ N 0 ?_ aft HAV.out ?_); rfl; rfl; rfl) | ((with_reducible refine wpListIn_ldK ?_ (.tmp 12) ?_ W1.heap.size 0 ?_ k HKV.out.rng ?_); rfl; rfl; rfl))
              refine ⟨trivial, (CallsIn.inRound l (callsIn_wide.2 HCmpV.out)).mono ?_⟩
              rintro e2 V1 ⟨rfl, hbV1⟩
              have HBV1 := hide (HBV.out.trans (hbV1.mono HBV.out.size))
              have HCV1 := hide (HCV.out.below hbV1)
              have HKV1 := hide (HKV.out.below hbV1)
              have HEV1 := hide (HEV.out.below hbV1)
              clear HCmpV hbV1 cA lA cF lF
              have cA : V1.cell? ⟨N + 1, 0, none⟩ = some (.bool false) := by rw [HCV1.out.ab.cell]; rfl
              have lA := HCV1.out.ab.lt
              have cF : V1.cell? ⟨N + 4, 0, none⟩ = some (.bool fo2.isSome) := by rw [HCV1.out.fb.cell]; rfl
              have lF := HCV1.out.fb.lt
              by_cases hok : 0 < cmp k aft
              · have HOK := hide hok
                cases fo2 with
                | none =>
                  simp only [Option.isSome_none] at cF
                  have HLBV1 : Hid (Blk V1 (N + 3) (kdA kdZ) KDT) := hide HCV1.out.lb
                  gi_wp2_with (first | (refine ⟨trivial, ?_⟩; go_at_K) | ((with_reducible refine wpListIn_ldK ?_ (.tmp 12) ?_ W1.heap.size 0 ?_ k HKV1.out.rng ?_); rfl; rfl; rfl) | ((with_reducible refine wpListIn_ldE ?_ (.tmp 13) ?_ (W1.heap.size + 1) 0 ?_ e HEV1.out.rng ?_); rfl; rfl; rfl) | ((with_reducible refine wpListIn_bdKD ?_ (.tmp 65) (.tmp 66) ?_ k e ?_ ?_ ?_); rfl; rfl; rfl; rfl) | ((with_reducible refine wpListIn_stKD ?_ (.tmp 8) (.tmp 67) ?_ (N + 3) ?_ kdZ (k, e) ?_ HLBV1.out ?_); rfl; rfl; rfl; rfl; intro w7 HK7 HG7; obtain ⟨hf7, hn7, hl7, ht7⟩ := HCV1.out.take (k, e) HK7.out HG7.out; have HN7 := hide hn7; have HL7 := hide hl7; have HT7 := hide ht7; have f7 := hf7.frozen 0; have c7 : w7.cell? ⟨N + 4, 0, none⟩ = some (.bool false) := (by rw [hf7.cell]; rfl); have l7 := hf7.lt; clear hf7 hn7 hl7 ht7))
                  exact ⟨(KeepsLD.below HBV1.out).trans HL7.out, (KeepT.below HBV1.out).trans HT7.out, some (k, e), HN7.out, (HL1.out.first (.inr hok)).congr (fun a b => by simp [or_assoc])⟩
                | some m =>
                  simp only [Option.isSome_some] at cF
                  have HLBV1 : Hid (Blk V1 (N + 3) (kdA m) KDT) := hide HCV1.out.lb
                  have HMKV1 : Hid (V1.rangeAt (N + 3) 0 (kC m.1)) := hide (KD.key HLBV1.out)
                  have HCmpV1 := hide (compare_any k m.1 V1)
                  gi_wp2_with (first | (refine ⟨trivial, ?_⟩; go_at_K) | ((with_reducible refine wpListIn_ldK ?_ (.tmp 59) ?_ (N + 3) 0 ?_ m.1 HMKV1.out ?_); rfl; rfl; rfl) | ((with_reducible refine wpListIn_ldK ?_ (.tmp 12) ?_ W1.heap.size 0 ?_ k HKV1.out.rng ?_); rfl; rfl; rfl) | ((with_reducible refine wpListIn_ldE ?_ (.tmp 13) ?_ (W1.heap.size + 1) 0 ?_ e HEV1.out.rng ?_); rfl; rfl; rfl) | ((with_reducible refine wpListIn_bdKD ?_ (.tmp 65) (.tmp 66) ?_ k e ?_ ?_ ?_); rfl; rfl; rfl; rfl) | ((with_reducible refine wpListIn_stKD ?_ (.tmp 8) (.tmp 67) ?_ (N + 3) ?_ m (k, e) ?_ HLBV1.out ?_); rfl; rfl; rfl; rfl; intro w7 HK7 HG7; obtain ⟨hf7, hn7, hl7, ht7⟩ := HCV1.out.take (k, e) HK7.out HG7.out; have HN7 := hide hn7; have HL7 := hide hl7; have HT7 := hide ht7; have f7 := hf7.frozen 0; have c7 : w7.cell? ⟨N + 4, 0, none⟩ = some (.bool true) := (by rw [hf7.cell]; rfl); have l7 := hf7.lt; clear hf7 hn7 hl7 ht7))
                  refine ⟨trivial, (CallsIn.inRound l (callsIn_wide.2 HCmpV1.out)).mono ?_⟩
                  rintro e2 V2 ⟨rfl, hbV2⟩
                  have HBV2 := hide (HBV1.out.trans (hbV2.mono HBV1.out.size))
                  have HCV2 := hide (HCV1.out.below hbV2)
                  have HKV2 := hide (HKV1.out.below hbV2)
                  have HEV2 := hide (HEV1.out.below hbV2)
                  clear HCmpV1 hbV2 cA lA cF lF
                  have cA : V2.cell? ⟨N + 1, 0, none⟩ = some (.bool false) := by rw [HCV2.out.ab.cell]; rfl
                  have lA := HCV2.out.ab.lt
                  have cF : V2.cell? ⟨N + 4, 0, none⟩ = some (.bool true) := by rw [HCV2.out.fb.cell]; rfl
                  have lF := HCV2.out.fb.lt
                  have HLBV2 : Hid (Blk V2 (N + 3) (kdA m) KDT) := hide HCV2.out.lb
                  by_cases hlt2 : cmp k m.1 < 0
                  · have HLT := hide hlt2
                    gi_wp2_with (first | (refine ⟨trivial, ?_⟩; go_at_K) | ((with_reducible refine wpListIn_ldK ?_ (.tmp 12) ?_ W1.heap.size 0 ?_ k HKV2.out.rng ?_); rfl; rfl; rfl) | ((with_reducible refine wpListIn_ldE ?_ (.tmp 13) ?_ (W1.heap.size + 1) 0 ?_ e HEV2.out.rng ?_); rfl; rfl; rfl) | ((with_reducible refine wpListIn_bdKD ?_ (.tmp 65) (.tmp 66) ?_ k e ?_ ?_ ?_); rfl; rfl; rfl; rfl) | ((with_reducible refine wpListIn_stKD ?_ (.tmp 8) (.tmp 67) ?_ (N + 3) ?_ m (k, e) ?_ HLBV2.out ?_); rfl; rfl; rfl; rfl; intro w7 HK7 HG7; obtain ⟨hf7, hn7, hl7, ht7⟩ := HCV2.out.take (k, e) HK7.out HG7.out; have HN7 := hide hn7; have HL7 := hide hl7; have HT7 := hide ht7; have f7 := hf7.frozen 0; have c7 : w7.cell? ⟨N + 4, 0, none⟩ = some (.bool true) := (by rw [hf7.cell]; rfl); have l7 := hf7.lt; clear hf7 hn7 hl7 ht7))
                    exact ⟨(KeepsLD.below HBV2.out).trans HL7.out, (KeepT.below HBV2.out).trans HT7.out, some (k, e), HN7.out, (HL1.out.take (.inr hok) HLT.out).congr (fun a b => by simp [or_assoc])⟩
                  · have HLT := hide hlt2
                    gi_wp2_with (refine ⟨trivial, ?_⟩; go_at_K)
                    exact ⟨KeepsLD.below HBV2.out, KeepT.below HBV2.out, some m, HCV2.out, (HL1.out.skip (k := k) (e := e) (by have := HLT.out; omega)).congr (fun a b => by simp [or_assoc])⟩
              · have HOK : Hid (¬ okN aft false k) := hide (fun h => h.elim (fun e => by cases e) hok)
                gi_wp2_with (refine ⟨trivial, ?_⟩; go_at_K)
                exact ⟨KeepsLD.below HBV1.out, KeepT.below HBV1.out, fo2, HCV1.out, (HL1.out.no (k := k) (e := e) HOK.out).congr (fun a b => by simp [or_assoc])⟩
    · obtain rfl : i = 16 := by omega
      have hji : ¬ ((16 : Nat) : Int) < 16 := by decide
      clear cH lH
      have HLf : Hid (Lst aft false (fun k e => f k = some e) fo) := hide (HL.out.congr (fun k e => seen_all k e))
      go_upto_region 18 with fail
      have HS1 := hide (HS.out.below ((Below.refl _ wr).drew))
      refine wp_calm (nx18_walk _ (fun _ _ _ _ _ h => h) wr N (Option.getD fo kdZ) (Option.isSome fo) (Blk.drew HS.out.rb) (Blk.drew HS.out.lb) (Blk.drew HS.out.fb) _ (Nat.lt_of_sub_pos (by exact Nat.succ_pos _)) rfl rfl rfl ?_)
      have H4 := hide (KD.put HS1.out.rb (Option.getD fo kdZ))
      generalize wr.drew.setCells (N + 2) 0 (kdC (Option.getD fo kdZ)) = w4 at *
      simp only [Act.put, List.setIfInBounds_toArray, List.set_cons_zero, List.set_cons_succ, Exit.then]
      clear HS cF lF
      go_wp2
      exact nx_end rfl HS1.out H4.out.1 H4.out.2 rfl rfl HN.out HLf.out
end TX
end Go.Proofs.Ytdigjpddmfolgaa
