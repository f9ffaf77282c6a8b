/- WireEach: the walk. -/
import Derived.Test.YtinjcefekbpababG3
namespace Go.Proofs.Ytinjcefekbpabab
set_option linter.unusedVariables false
set_option linter.unusedSimpArgs false
open Go.RowKit

theorem own_formS {w : World} {base : Nat} {v : Value} {n : Nat} {ys : List Value} {e : TypeId} (h : w.ownsRow base e 1 v n ys) : ∃ ao cap, v = .slice ao n cap ∧ (0 < n → ∃ g, ao = some ⟨g, 0, none⟩) := by
  obtain ⟨_, ⟨rfl, rfl⟩ | ⟨g, cap, cur, rfl, _⟩⟩ := h
  · exact ⟨none, 0, rfl, fun h => absurd h (by omega)⟩
  · exact ⟨_, cap, rfl, fun _ => ⟨g, rfl⟩⟩
theorem own_at {w : World} {base g n cap : Nat} {ys : List Value} {e : TypeId} (h : w.ownsRow base e 1 (.slice (some ⟨g, 0, none⟩) n cap) n ys) (j : Nat) (hj : j < n) : w.cell? ⟨g, j, none⟩ = ys[j]? := by
  obtain ⟨hl, ⟨h1, _⟩ | ⟨g', cap', cur, e, hb, hg, hc, hm, hs, ht⟩⟩ := h
  · cases h1
  · cases e
    have hB : Blk w g cur _ := hg
    rw [hB.cell, ← Array.getElem?_toList, ← ht, List.getElem?_take_of_lt (by omega)]
theorem own_apart {w3 w5 : World} {cb m : Nat} {v u : Value} {ys : List Value} {e2 : TypeId} (h1 : ∀ k, v.ownBlock = some k → cb + 1 ≤ k ∧ k < w3.heap.size) (h2 : w5.ownsRow w3.heap.size e2 1 u m ys) : v.ownBlock = none ∨ v.ownBlock ≠ u.ownBlock := by
  rcases hv : v.ownBlock with _ | k
  · exact .inl rfl
  · refine .inr (fun e => ?_)
    have := (h1 k hv).2
    have := (h2.lt k e.symm).1
    omega
theorem Lit1.stepR {w0 w w' : World} {z y cb c sb : Nat} {sv rv sz : Value} {bs : List UInt8} {s r r' : S} (h : Lit1 w0 w z sv y rv bs s r cb c sb sz) (ha : Apart1 w0 z sv y rv bs cb sb) (hy : sb < y) (hd : RefSt w' y rv bs r') (hg : w.grownBy w' (some y)) (h0 : w0.heap.size ≤ sb) : Lit1 w0 w' z sv y rv bs s r' cb c sb sz :=
  ⟨h.two.stepR hd hg, h.bel.trans (below_grownBy hg (by omega) h.bel.size), h.cc.grown hg (fun e => ha.cy (Option.some.inj e)), h.ss.grown hg (fun e => by have := Option.some.inj e; omega)⟩
set_option maxRecDepth 20000 in
set_option maxHeartbeats 6400000 in
theorem wireEach_any (w : World) (vb sz : Value) (bs zs : List UInt8) (n : Int) (h1 : -9223372036854775808 ≤ n) (h2 : n ≤ 9223372036854775807) (hb : RdA w vb bs) (hz : RdA w sz zs) (hlen : bs.length + zs.length ≤ 1099511627776) :
    Calls Try.prog 3 #[vb, .int .i64 n, sz] w fun e w' => e = .returned (.bool true) ∧ Below w.heap.size w w' := by
  have HO := hide (fun W h => open_arg W vb bs h (by omega))
  have HRO := hide (fun W h => ropen_arg W vb bs h (by omega))
  obtain ⟨va, vc, rfl, hvl⟩ := hb.slice
  obtain ⟨sa, sc, rfl, hsl⟩ := hz.slice
  have HRb := hide hb
  have HRz := hide hz
  clear hb hz
  go_enter Try.func3, Try.ntmps3
  go_wp2_with fail
  have HB0 : Hid (Below w.heap.size w (w.alloc (.cells #[.slice sa zs.length sc] 22))) := (Below.refl _ _).alloc (Nat.le_refl _) _
  have HS0 := hide (Blk.made w #[.slice sa zs.length sc] 22)
  refine (HO.out _ (HRb.out.below HB0.out)).mono ?_
  rintro e w1 ⟨rfl, hd1, hb1, hs1⟩
  rw [World.size_alloc] at hd1 hs1 ⊢
  have HD1 := hide hd1
  have HB1 : Hid (Below w.heap.size w w1) := hide (HB0.out.trans (hb1.mono HB0.out.size))
  have HS1 := hide (HS0.out.below hb1 (by rw [World.size_alloc]; omega))
  have hsz1 : w1.heap.size = w.heap.size + 3 := by rw [hs1]
  clear hd1 hb1 hs1 HB0 HS0 HO
  go_wp2_with fail
  refine (HRO.out _ (HRb.out.below HB1.out)).mono ?_
  rintro e w2 ⟨rv, rfl, hr2, hb2, hrv⟩
  have HR2 := hide hr2
  have HB2 : Hid (Below w.heap.size w w2) := hide (HB1.out.trans (hb2.mono HB1.out.size))
  have HD2 := hide (HD1.out.below hb2)
  have HS2 := hide (HS1.out.below hb2 (by omega))
  have HRV := hide hrv
  have hsz2 : w1.heap.size < w2.heap.size := hr2.lt
  have HRVB := hide (fun b cap => hr2.1.blk (b := b) (cap := cap))
  clear hr2 hb2 hrv HRO HB1 HD1 HS1
  have HTWO : Hid (Two w2 (w.heap.size + 1 + 1) (.slice (some ⟨w.heap.size + 1, 0, none⟩) bs.length bs.length) w1.heap.size rv bs s0 s0) :=
    hide ⟨HD2.out, HR2.out, by omega, fun b e => by cases e; omega, fun b cap e => by have := HRV.out b cap e; omega⟩
  have HAP : Hid (Apart1 w (w.heap.size + 1 + 1) (.slice (some ⟨w.heap.size + 1, 0, none⟩) bs.length bs.length) w1.heap.size rv bs w2.heap.size w.heap.size) :=
    hide ⟨by omega, by omega, by omega, by omega, by omega, by omega, fun b e => by cases e; omega, fun b cap e => by have := HRVB.out b cap e; omega⟩
  have HL : Hid (Lit1 w (w2.alloc (.cells #[.int .i64 0] 3)) (w.heap.size + 1 + 1) (.slice (some ⟨w.heap.size + 1, 0, none⟩) bs.length bs.length) w1.heap.size rv bs s0 s0 w2.heap.size 0 w.heap.size (.slice sa zs.length sc)) :=
    hide ⟨HTWO.out.below ((Below.refl _ _).alloc (Nat.le_refl _) _), HB2.out.alloc HB2.out.size _, Blk.made w2 _ _, HS2.out.alloc _⟩
  have HEA := hide (each_str w _ _ _ _ _ bs zs s0 s0 _ _ _ n h1 h2 HAP.out HRz.out hlen HL.out)
  have HYZ : Hid (w.heap.size < w1.heap.size) := hide (by omega)
  have HYC : Hid (w1.heap.size < w2.heap.size) := hide hsz2
  clear HTWO HR2 HD2 HS2 HL HB2 HRV HRVB
  generalize hzz : w.heap.size + 1 + 1 = z at HEA HAP ⊢
  generalize hsv : Value.slice (some ⟨w.heap.size + 1, 0, none⟩) bs.length bs.length = sv at HEA HAP
  generalize hyy : w1.heap.size = y at HEA HAP HYZ HYC ⊢
  generalize hq : mEachS bs zs s0 n.toNat = q at HEA
  have HQ := hide hq
  clear hq hzz hsv hyy
  go_wp2_with fail
  refine (HEA.out).mono ?_
  rintro e w3 ⟨⟨gv, rfl, hgo⟩, hl3, hs3⟩
  have HGO := hide hgo
  have HL3 := hide hl3
  have hs3' : w2.heap.size < w3.heap.size := by rw [World.size_alloc] at hs3; omega
  rw [World.size_alloc] at HGO
  generalize hcb : w2.heap.size = cb at HAP HL3 HGO HYC hs3' ⊢
  have hzl := hl3.two.d.lt
  have hyl := hl3.two.r.lt
  have hsl3 := hl3.ss.lt
  have hb3 := hl3.bel.size
  clear hgo hl3 hs3 HEA
  obtain ⟨m, hm⟩ : ∃ m : Nat, n.toNat = m := ⟨_, rfl⟩
  rw [hm] at HQ
  have HRV := hide (rvar_st w3 y rv bs s0 m HL3.out.two.r)
  unfold mEachS at HQ
  have hle := mNum_ok_le bs s0 m
  generalize mNum bs s0 m = rr at HRV HQ hle
  obtain ⟨v, ok, s1⟩ := rr
  simp only [] at hle
  have HQ' : Hid (eachS bs zs v s1 0 [] = q) := HQ
  clear HQ
  have hm63 : m ≤ 9223372036854775807 := by omega
  have hv63 : v ≤ 9223372036854775807 := by omega
  clear hle
  obtain ⟨i0, hi, hz0, hz1, hz2⟩ := info_parts infoStr
  have HM := hide hm
  clear hm
  have HSVB := hide (fun b => HL3.out.two.d.1.blk (b := b))
  have HRVB := hide (fun b cap => HL3.out.two.r.1.blk (b := b) (cap := cap))
  by_cases hn : 0 < n
  · obtain rfl : n = m := by have := HM.out; omega
    go_wp2_with fail
    refine (HRV.out).mono ?_
    rintro e w4 ⟨rfl, hr4, hg4⟩
    simp only [] at hr4
    have HL4 := hide (HL3.out.stepR HAP.out HYZ.out hr4 hg4 (Nat.le_refl _))
    have hs4 := hg4.size
    have HG4 : Hid (w4.ownsRow (cb + 1) 9 1 gv (gotS q).length ((gotS q).map strc)) := hide (HGO.out.kept hg4 (.inr (fun e => by have := (HGO.out.lt y e).1; have := HYC.out; omega)))
    clear hr4 hg4 HRV
    go_wp2_with fail
    go_loopw [13, 14, 15] (fun wa asv i wr => ∃ (k cl : Nat) (acc : List (List UInt8)) (s' : S), i = .int .u64 k ∧ asv = .int .i64 cl ∧ k ≤ v ∧ wr.ownsRow w3.heap.size 9 1 wa acc.length (acc.map strc) ∧ acc.length = cl ∧ cl ≤ bs.length + zs.length + 8 ∧ Lit1 w wr z sv y rv bs q.2.1 s' cb q.2.2 w.heap.size (.slice sa zs.length sc) ∧ w3.heap.size ≤ wr.heap.size ∧ wr.ownsRow (cb + 1) 9 1 gv (gotS q).length ((gotS q).map strc) ∧ eachS bs zs v s1 0 [] = eachS bs zs (v - k) s' cl acc) (fun _ _ i _ => v - (intOf i).toNat)
    case atStart => exact ⟨0, 0, [], s1, rfl, rfl, Nat.zero_le _, World.ownsRow_nil _ _ _ _, rfl, Nat.zero_le _, HL4.out, hs4, HG4.out, rfl⟩
    case round =>
      obtain ⟨k, cl, acc, s', rfl, rfl, hkv, hown, hacl, hclb, hlit, hsw, hgo, heq⟩ := hrel
      have HE := hide heq
      have HLr := hide hlit
      have HGr := hide hgo
      have HWr := hide hown
      have d2 := Blk.cell hlit.two.r.2.2 2
      have cS := hlit.ss.cell 0
      have cC := hlit.cc.cell 0
      clear heq hlit hgo hown HL4 HG4
      by_cases hc : s'.code = 0
      · have hdc : decide (s'.code ≠ 0) = false := by simp [hc]
        rw [hdc] at d2
        by_cases hk0 : k < v
        · have hki : (k : Int) < (v : Int) := by omega
          have HGM := hide (eachS_more bs zs (v - k) s' cl acc hc (by omega))
          have HRW := hide (fun nn => rraw_st wr y rv bs s' nn HLr.out.two.r (by omega))
          clear hc cC
          by_cases hlt : cl < zs.length
          · have hsz : szOf zs cl = zs[cl].toNat % 4 := by rw [szOf, dif_pos hlt]
            obtain ⟨b, o, c', e, hCEL⟩ := (HRz.out.below HLr.out.bel).at cl hlt
            cases e
            have hbb := zs[cl].toNat_lt
            have HRX := hide (HRW.out ((szOf zs cl : Nat) : Int))
            rw [show ((szOf zs cl : Nat) : Int).toNat = szOf zs cl by omega] at HRX
            have hszi : ((szOf zs cl : Nat) : Int) = ((zs[cl].toNat % 4 : Nat) : Int) := by rw [hsz]
            rw [hszi] at HRX
            generalize zs[cl].toNat = qq at hCEL hbb HRX
            clear hsz hszi
            generalize mNext bs s' (mPlace s') (szOf zs cl) = rr at HGM HRX
            obtain ⟨r1, s2⟩ := rr
            go_wp2_with fail
            refine (HRX.out).mono ?_
            rintro e w5 ⟨⟨u, rfl, hou⟩, hr5, hg5⟩
            simp only [] at hr5 hou HGM
            have hcv := conv_rd w5 u _ (Rd_owned hou)
            have HL5 := hide (HLr.out.stepR HAP.out HYZ.out hr5 hg5 (Nat.le_refl _))
            have hs5 : w3.heap.size ≤ w5.heap.size := Nat.le_trans hsw hg5.size
            have HG5 : Hid (w5.ownsRow (cb + 1) 9 1 gv (gotS q).length ((gotS q).map strc)) := hide (HGr.out.kept hg5 (.inr (fun e => by have := (HGr.out.lt y e).1; have := HYC.out; omega)))
            have hW5 : w5.ownsRow w3.heap.size 9 1 u13 acc.length (acc.map strc) := HWr.out.kept hg5 (.inr (fun e => by have := (HWr.out.lt y e).1; have := HYC.out; omega))
            have cS5 := HL5.out.ss.cell 0
            generalize hst : r1.getD [] = st at HGM hcv
            obtain ⟨stb, hstb⟩ : ∃ stb : ByteArray, stb = ⟨st.toArray⟩ := ⟨_, rfl⟩
            rw [← hstb] at hcv
            have HSTB := hide hstb
            clear hstb hst hou hr5 hg5 HRX HRW d2 cS hCEL
            go_wp2_with (at_builtin; (refine wpList_append_own _ rfl _ _ 27 rfl w3.heap.size 9 i0 (.string ⟨#[]⟩) 1 16 Try.underlying27 hi hz0 hz1 hz2 rfl (by decide) _ _ _ rfl (hW5.alloc _) ⟨w5.heap.size, 0, none⟩ 1 1 [.string stb] rfl rfl (cell_one_new _ _ _) ?c2 ?c3 ?c4 (by rw [World.size_alloc]; omega) ?_))
            case c2 => intro u hu; simp at hu; subst hu; rfl
            case c3 => unfold maxLen; omega
            case c4 => omega
            intro v' w6 hown' hgrow _
            have hL6 := (HL5.out.alloc (.cells #[.string stb] 9)).own (wE := w3) (.inr trivial) hzl hyl (by omega) hsl3 hb3 HSVB.out HRVB.out (hW5.alloc _) hgrow
            have hs6 : w3.heap.size ≤ w6.heap.size := by have := hgrow.size; simp at this; omega
            have hG6 : w6.ownsRow (cb + 1) 9 1 gv (gotS q).length ((gotS q).map strc) := (HG5.out.alloc _).kept hgrow (own_apart HGO.out.lt hW5)
            have cS6 := hL6.ss.cell 0
            have HL6 := hide hL6
            have HG6 := hide hG6
            clear hW5 hgrow hL6 hG6 cS5 hcv
            by_cases hbig : bs.length + zs.length + 8 < cl + 1
            · have hbi : (bs.length : Int) + (zs.length : Int) + 8 < (cl : Int) + 1 := by omega
              go_wp2
              go_ret
              exact ⟨rfl, HL6.out.bel⟩
            · have hbi : ¬ (bs.length : Int) + (zs.length : Int) + 8 < (cl : Int) + 1 := by omega
              go_wp2
              go_roundw
              case rel =>
                refine ⟨k + 1, cl + 1, acc ++ [st], s2, by go_num, by go_num, by omega, ?_, by simp [hacl], by omega, HL6.out, hs6, HG6.out, ?_⟩
                · rw [List.map_append, List.length_append]
                  have e : [st].map strc = [.string stb] := by rw [HSTB.out]; rfl
                  rw [e]
                  first | exact hown' | (rw [hacl]; exact hown')
                · rw [HE.out, HGM.out, show v - k - 1 = v - (k + 1) by omega]
              case measure => simp [intOf]; omega
          · have hsz : szOf zs cl = 1 := by rw [szOf, dif_neg hlt]
            have HRX := hide (HRW.out 1)
            have hCEL : True := trivial
            rw [show ((1 : Int)).toNat = szOf zs cl by rw [hsz]; rfl] at HRX
            have hnl : ¬ (cl : Int) < (zs.length : Int) := by omega
            clear hsz
            generalize mNext bs s' (mPlace s') (szOf zs cl) = rr at HGM HRX
            obtain ⟨r1, s2⟩ := rr
            go_wp2_with fail
            refine (HRX.out).mono ?_
            rintro e w5 ⟨⟨u, rfl, hou⟩, hr5, hg5⟩
            simp only [] at hr5 hou HGM
            have hcv := conv_rd w5 u _ (Rd_owned hou)
            have HL5 := hide (HLr.out.stepR HAP.out HYZ.out hr5 hg5 (Nat.le_refl _))
            have hs5 : w3.heap.size ≤ w5.heap.size := Nat.le_trans hsw hg5.size
            have HG5 : Hid (w5.ownsRow (cb + 1) 9 1 gv (gotS q).length ((gotS q).map strc)) := hide (HGr.out.kept hg5 (.inr (fun e => by have := (HGr.out.lt y e).1; have := HYC.out; omega)))
            have hW5 : w5.ownsRow w3.heap.size 9 1 u13 acc.length (acc.map strc) := HWr.out.kept hg5 (.inr (fun e => by have := (HWr.out.lt y e).1; have := HYC.out; omega))
            have cS5 := HL5.out.ss.cell 0
            generalize hst : r1.getD [] = st at HGM hcv
            obtain ⟨stb, hstb⟩ : ∃ stb : ByteArray, stb = ⟨st.toArray⟩ := ⟨_, rfl⟩
            rw [← hstb] at hcv
            have HSTB := hide hstb
            clear hstb hst hou hr5 hg5 HRX HRW d2 cS hCEL
            go_wp2_with (at_builtin; (refine wpList_append_own _ rfl _ _ 27 rfl w3.heap.size 9 i0 (.string ⟨#[]⟩) 1 16 Try.underlying27 hi hz0 hz1 hz2 rfl (by decide) _ _ _ rfl (hW5.alloc _) ⟨w5.heap.size, 0, none⟩ 1 1 [.string stb] rfl rfl (cell_one_new _ _ _) ?c2 ?c3 ?c4 (by rw [World.size_alloc]; omega) ?_))
            case c2 => intro u hu; simp at hu; subst hu; rfl
            case c3 => unfold maxLen; omega
            case c4 => omega
            intro v' w6 hown' hgrow _
            have hL6 := (HL5.out.alloc (.cells #[.string stb] 9)).own (wE := w3) (.inr trivial) hzl hyl (by omega) hsl3 hb3 HSVB.out HRVB.out (hW5.alloc _) hgrow
            have hs6 : w3.heap.size ≤ w6.heap.size := by have := hgrow.size; simp at this; omega
            have hG6 : w6.ownsRow (cb + 1) 9 1 gv (gotS q).length ((gotS q).map strc) := (HG5.out.alloc _).kept hgrow (own_apart HGO.out.lt hW5)
            have cS6 := hL6.ss.cell 0
            have HL6 := hide hL6
            have HG6 := hide hG6
            clear hW5 hgrow hL6 hG6 cS5 hcv
            by_cases hbig : bs.length + zs.length + 8 < cl + 1
            · have hbi : (bs.length : Int) + (zs.length : Int) + 8 < (cl : Int) + 1 := by omega
              go_wp2
              go_ret
              exact ⟨rfl, HL6.out.bel⟩
            · have hbi : ¬ (bs.length : Int) + (zs.length : Int) + 8 < (cl : Int) + 1 := by omega
              go_wp2
              go_roundw
              case rel =>
                refine ⟨k + 1, cl + 1, acc ++ [st], s2, by go_num, by go_num, by omega, ?_, by simp [hacl], by omega, HL6.out, hs6, HG6.out, ?_⟩
                · rw [List.map_append, List.length_append]
                  have e : [st].map strc = [.string stb] := by rw [HSTB.out]; rfl
                  rw [e]
                  first | exact hown' | (rw [hacl]; exact hown')
                · rw [HE.out, HGM.out, show v - k - 1 = v - (k + 1) by omega]
              case measure => simp [intOf]; omega
        · obtain rfl : k = v := by omega
          have h6 := HQ'.out
          rw [HE.out, Nat.sub_self, eachS] at h6
          subst h6
          have hG : gotS (acc, s', cl) = acc := by rw [gotS, if_neg (by simp; exact hc)]
          rw [hG] at HGr
          have HWA := HWr
          clear hc hG
          have HLq : Hid (Lit1 w wr z sv y rv bs s' s' cb cl w.heap.size (.slice sa zs.length sc)) := HLr
          have HST := hide (stands_st wr z sv y rv bs s' s' HLq.out.two.d HLq.out.two.r (Eqv.refl _))
          obtain ⟨ga, gc, rfl, hgn⟩ := own_formS HGr.out
          try obtain ⟨wa, wc, rfl, hwn⟩ := own_formS HWA.out
          go_wp2_with fail
          refine (HST.out).mono ?_
          rintro e w7 ⟨rfl, hb7⟩
          have HB7 : Hid (Below w.heap.size w w7) := hide (HLq.out.bel.trans (hb7.mono HLq.out.bel.size))
          have HG7 := hide (own_keep HGr.out (fun i hi _ => hb7.block i hi))
          have HW7 := hide (own_keep HWr.out (fun i hi _ => hb7.block i hi))
          clear hb7 HST HLr HGr HWr d2 cS cC
          go_wp2_with fail
          go_loopw [17] (fun i wq => ∃ (j mm : Nat), i = .int .i64 j ∧ j ≤ cl ∧ wq = w7.drewN mm) (fun i _ => cl - (intOf i).toNat)
          case atStart => exact ⟨0, 0, rfl, Nat.zero_le _, rfl⟩
          case round =>
            obtain ⟨j, mm, rfl, hj, rfl⟩ := hrel
            by_cases hjl : j < cl
            · obtain ⟨g1, rfl⟩ := hgn (by omega)
              obtain ⟨g2, rfl⟩ := hwn (by omega)
              have cg := own_at HG7.out j (by omega)
              have cw := own_at HW7.out j (by omega)
              obtain ⟨x, hx⟩ : ∃ x, (acc.map strc)[j]? = some (.string x) := ⟨⟨acc[j].toArray⟩, by simp [List.getElem?_eq_getElem (show j < acc.length by omega), strc]⟩
              rw [hx] at cg cw
              clear hx
              go_wp2_with fail
              go_region
              all_goals
                go_wp2
                go_roundw
                case rel => exact ⟨j + 1, mm + 1, by go_num, by omega, rfl⟩
                case measure => simp [intOf]; omega
            · obtain rfl : j = cl := by omega
              have HBN : Hid (Below w.heap.size w (w7.drewN mm)) := hide ⟨HB7.out.os, HB7.out.tape, HB7.out.output, HB7.out.size, HB7.out.block⟩
              have HOP := hide (open_arg _ _ bs (HRb.out.below HBN.out) (by omega))
              go_wp2_with fail
              refine (HOP.out).mono ?_
              rintro e w8 ⟨rfl, hd8, hb8, hs8⟩
              have HD8 := hide hd8
              have HB8 : Hid (Below w.heap.size w w8) := hide (HBN.out.trans (hb8.mono HBN.out.size))
              have HSZ := hide HBN.out.size
              have HEN := hide (each_none w8 _ _ bs (m : Int) hd8)
              clear hd8 hb8 hs8 HOP
              go_wp2_with fail
              refine (HEN.out).mono ?_
              rintro e w9 ⟨rfl, hd9, hg9⟩
              have HED := hide (end_st w9 _ _ bs sNil hd9)
              have HB9 : Hid (Below w.heap.size w w9) := hide (HB8.out.trans (below_grownBy hg9 (by have := HSZ.out; omega) HB8.out.size))
              rw [show endV bs sNil = .iface 41 (.agg #[.int .i64 0, .int .i64 1]) from rfl] at HED
              clear hd9 hg9 HEN
              have hta := isFault
              go_wp2_with fail
              refine (HED.out).mono ?_
              rintro e w10 ⟨rfl, m10, rfl⟩
              have HB10 : Hid (Below w.heap.size w (w9.drewN m10)) := hide ⟨HB9.out.os, HB9.out.tape, HB9.out.output, HB9.out.size, HB9.out.block⟩
              generalize w9.drewN m10 = w10 at HB10 ⊢
              clear HB9 HED
              go_wp2
              go_ret
              exact ⟨rfl, HB10.out.alloc HB10.out.size _⟩


      · have hdc : decide (s'.code ≠ 0) = true := by simp [hc]
        rw [hdc] at d2
        have h6 := HQ'.out
        rw [HE.out, eachS_stop bs zs (v - k) s' cl acc hc] at h6
        subst h6
        have hG : gotS (acc, s', cl) = [] := by rw [gotS, if_pos (by exact hc)]
        rw [hG] at HGr
        clear hc hG
        by_cases hk0 : k < v
        · have hki : (k : Int) < (v : Int) := by omega
          have HLq : Hid (Lit1 w wr z sv y rv bs s' s' cb cl w.heap.size (.slice sa zs.length sc)) := HLr
          have HST := hide (stands_st wr z sv y rv bs s' s' HLq.out.two.d HLq.out.two.r (Eqv.refl _))
          obtain ⟨ga, gc, rfl, hgn⟩ := own_formS HGr.out
          try obtain ⟨wa, wc, rfl, hwn⟩ := own_formS HWA.out
          go_wp2_with fail
          refine (HST.out).mono ?_
          rintro e w7 ⟨rfl, hb7⟩
          have HB7 : Hid (Below w.heap.size w w7) := hide (HLq.out.bel.trans (hb7.mono HLq.out.bel.size))
          have HG7 := hide (own_keep HGr.out (fun i hi _ => hb7.block i hi))
          have HW7 := hide (own_keep HWr.out (fun i hi _ => hb7.block i hi))
          clear hb7 HST HLr HGr HWr d2 cS cC
          go_wp2_with fail
          go_loopw [17] (fun i wq => i = .int .i64 0 ∧ wq = w7) (fun _ _ => 0)
          case atStart => exact ⟨rfl, rfl⟩
          case round =>
            obtain ⟨rfl, hwq⟩ := hrel
            rw [hwq]
            clear hwq
            have HBN : Hid (Below w.heap.size w w7) := hide ⟨HB7.out.os, HB7.out.tape, HB7.out.output, HB7.out.size, HB7.out.block⟩
            have HOP := hide (open_arg _ _ bs (HRb.out.below HBN.out) (by omega))
            go_wp2_with fail
            refine (HOP.out).mono ?_
            rintro e w8 ⟨rfl, hd8, hb8, hs8⟩
            have HD8 := hide hd8
            have HB8 : Hid (Below w.heap.size w w8) := hide (HBN.out.trans (hb8.mono HBN.out.size))
            have HSZ := hide HBN.out.size
            have HEN := hide (each_none w8 _ _ bs (m : Int) hd8)
            clear hd8 hb8 hs8 HOP
            go_wp2_with fail
            refine (HEN.out).mono ?_
            rintro e w9 ⟨rfl, hd9, hg9⟩
            have HED := hide (end_st w9 _ _ bs sNil hd9)
            have HB9 : Hid (Below w.heap.size w w9) := hide (HB8.out.trans (below_grownBy hg9 (by have := HSZ.out; omega) HB8.out.size))
            rw [show endV bs sNil = .iface 41 (.agg #[.int .i64 0, .int .i64 1]) from rfl] at HED
            clear hd9 hg9 HEN
            have hta := isFault
            go_wp2_with fail
            refine (HED.out).mono ?_
            rintro e w10 ⟨rfl, m10, rfl⟩
            have HB10 : Hid (Below w.heap.size w (w9.drewN m10)) := hide ⟨HB9.out.os, HB9.out.tape, HB9.out.output, HB9.out.size, HB9.out.block⟩
            generalize w9.drewN m10 = w10 at HB10 ⊢
            clear HB9 HED
            go_wp2
            go_ret
            exact ⟨rfl, HB10.out.alloc HB10.out.size _⟩


        · obtain rfl : k = v := by omega
          have HLq : Hid (Lit1 w wr z sv y rv bs s' s' cb cl w.heap.size (.slice sa zs.length sc)) := HLr
          have HST := hide (stands_st wr z sv y rv bs s' s' HLq.out.two.d HLq.out.two.r (Eqv.refl _))
          obtain ⟨ga, gc, rfl, hgn⟩ := own_formS HGr.out
          try obtain ⟨wa, wc, rfl, hwn⟩ := own_formS HWA.out
          go_wp2_with fail
          refine (HST.out).mono ?_
          rintro e w7 ⟨rfl, hb7⟩
          have HB7 : Hid (Below w.heap.size w w7) := hide (HLq.out.bel.trans (hb7.mono HLq.out.bel.size))
          have HG7 := hide (own_keep HGr.out (fun i hi _ => hb7.block i hi))
          have HW7 := hide (own_keep HWr.out (fun i hi _ => hb7.block i hi))
          clear hb7 HST HLr HGr HWr d2 cS cC
          go_wp2_with fail
          go_loopw [17] (fun i wq => i = .int .i64 0 ∧ wq = w7) (fun _ _ => 0)
          case atStart => exact ⟨rfl, rfl⟩
          case round =>
            obtain ⟨rfl, hwq⟩ := hrel
            rw [hwq]
            clear hwq
            have HBN : Hid (Below w.heap.size w w7) := hide ⟨HB7.out.os, HB7.out.tape, HB7.out.output, HB7.out.size, HB7.out.block⟩
            have HOP := hide (open_arg _ _ bs (HRb.out.below HBN.out) (by omega))
            go_wp2_with fail
            refine (HOP.out).mono ?_
            rintro e w8 ⟨rfl, hd8, hb8, hs8⟩
            have HD8 := hide hd8
            have HB8 : Hid (Below w.heap.size w w8) := hide (HBN.out.trans (hb8.mono HBN.out.size))
            have HSZ := hide HBN.out.size
            have HEN := hide (each_none w8 _ _ bs (m : Int) hd8)
            clear hd8 hb8 hs8 HOP
            go_wp2_with fail
            refine (HEN.out).mono ?_
            rintro e w9 ⟨rfl, hd9, hg9⟩
            have HED := hide (end_st w9 _ _ bs sNil hd9)
            have HB9 : Hid (Below w.heap.size w w9) := hide (HB8.out.trans (below_grownBy hg9 (by have := HSZ.out; omega) HB8.out.size))
            rw [show endV bs sNil = .iface 41 (.agg #[.int .i64 0, .int .i64 1]) from rfl] at HED
            clear hd9 hg9 HEN
            have hta := isFault
            go_wp2_with fail
            refine (HED.out).mono ?_
            rintro e w10 ⟨rfl, m10, rfl⟩
            have HB10 : Hid (Below w.heap.size w (w9.drewN m10)) := hide ⟨HB9.out.os, HB9.out.tape, HB9.out.output, HB9.out.size, HB9.out.block⟩
            generalize w9.drewN m10 = w10 at HB10 ⊢
            clear HB9 HED
            go_wp2
            go_ret
            exact ⟨rfl, HB10.out.alloc HB10.out.size _⟩


  · obtain rfl : m = 0 := by have := HM.out; omega
    go_wp2_with fail
    refine (HRV.out).mono ?_
    rintro e w4 ⟨rfl, hr4, hg4⟩
    simp only [] at hr4
    have HL4 := hide (HL3.out.stepR HAP.out HYZ.out hr4 hg4 (Nat.le_refl _))
    have hs4 := hg4.size
    have HG4 : Hid (w4.ownsRow (cb + 1) 9 1 gv (gotS q).length ((gotS q).map strc)) := hide (HGO.out.kept hg4 (.inr (fun e => by have := (HGO.out.lt y e).1; have := HYC.out; omega)))
    clear hr4 hg4 HRV
    go_wp2_with fail
    go_loopw [13, 14, 15] (fun wa asv i wr => ∃ (k cl : Nat) (acc : List (List UInt8)) (s' : S), i = .int .u64 k ∧ asv = .int .i64 cl ∧ k ≤ v ∧ wr.ownsRow w3.heap.size 9 1 wa acc.length (acc.map strc) ∧ acc.length = cl ∧ cl ≤ bs.length + zs.length + 8 ∧ Lit1 w wr z sv y rv bs q.2.1 s' cb q.2.2 w.heap.size (.slice sa zs.length sc) ∧ w3.heap.size ≤ wr.heap.size ∧ wr.ownsRow (cb + 1) 9 1 gv (gotS q).length ((gotS q).map strc) ∧ eachS bs zs v s1 0 [] = eachS bs zs (v - k) s' cl acc) (fun _ _ i _ => v - (intOf i).toNat)
    case atStart => exact ⟨0, 0, [], s1, rfl, rfl, Nat.zero_le _, World.ownsRow_nil _ _ _ _, rfl, Nat.zero_le _, HL4.out, hs4, HG4.out, rfl⟩
    case round =>
      obtain ⟨k, cl, acc, s', rfl, rfl, hkv, hown, hacl, hclb, hlit, hsw, hgo, heq⟩ := hrel
      have HE := hide heq
      have HLr := hide hlit
      have HGr := hide hgo
      have HWr := hide hown
      have d2 := Blk.cell hlit.two.r.2.2 2
      have cS := hlit.ss.cell 0
      have cC := hlit.cc.cell 0
      clear heq hlit hgo hown HL4 HG4
      by_cases hc : s'.code = 0
      · have hdc : decide (s'.code ≠ 0) = false := by simp [hc]
        rw [hdc] at d2
        by_cases hk0 : k < v
        · have hki : (k : Int) < (v : Int) := by omega
          have HGM := hide (eachS_more bs zs (v - k) s' cl acc hc (by omega))
          have HRW := hide (fun nn => rraw_st wr y rv bs s' nn HLr.out.two.r (by omega))
          clear hc cC
          by_cases hlt : cl < zs.length
          · have hsz : szOf zs cl = zs[cl].toNat % 4 := by rw [szOf, dif_pos hlt]
            obtain ⟨b, o, c', e, hCEL⟩ := (HRz.out.below HLr.out.bel).at cl hlt
            cases e
            have hbb := zs[cl].toNat_lt
            have HRX := hide (HRW.out ((szOf zs cl : Nat) : Int))
            rw [show ((szOf zs cl : Nat) : Int).toNat = szOf zs cl by omega] at HRX
            have hszi : ((szOf zs cl : Nat) : Int) = ((zs[cl].toNat % 4 : Nat) : Int) := by rw [hsz]
            rw [hszi] at HRX
            generalize zs[cl].toNat = qq at hCEL hbb HRX
            clear hsz hszi
            generalize mNext bs s' (mPlace s') (szOf zs cl) = rr at HGM HRX
            obtain ⟨r1, s2⟩ := rr
            go_wp2_with fail
            refine (HRX.out).mono ?_
            rintro e w5 ⟨⟨u, rfl, hou⟩, hr5, hg5⟩
            simp only [] at hr5 hou HGM
            have hcv := conv_rd w5 u _ (Rd_owned hou)
            have HL5 := hide (HLr.out.stepR HAP.out HYZ.out hr5 hg5 (Nat.le_refl _))
            have hs5 : w3.heap.size ≤ w5.heap.size := Nat.le_trans hsw hg5.size
            have HG5 : Hid (w5.ownsRow (cb + 1) 9 1 gv (gotS q).length ((gotS q).map strc)) := hide (HGr.out.kept hg5 (.inr (fun e => by have := (HGr.out.lt y e).1; have := HYC.out; omega)))
            have hW5 : w5.ownsRow w3.heap.size 9 1 u13 acc.length (acc.map strc) := HWr.out.kept hg5 (.inr (fun e => by have := (HWr.out.lt y e).1; have := HYC.out; omega))
            have cS5 := HL5.out.ss.cell 0
            generalize hst : r1.getD [] = st at HGM hcv
            obtain ⟨stb, hstb⟩ : ∃ stb : ByteArray, stb = ⟨st.toArray⟩ := ⟨_, rfl⟩
            rw [← hstb] at hcv
            have HSTB := hide hstb
            clear hstb hst hou hr5 hg5 HRX HRW d2 cS hCEL
            go_wp2_with (at_builtin; (refine wpList_append_own _ rfl _ _ 27 rfl w3.heap.size 9 i0 (.string ⟨#[]⟩) 1 16 Try.underlying27 hi hz0 hz1 hz2 rfl (by decide) _ _ _ rfl (hW5.alloc _) ⟨w5.heap.size, 0, none⟩ 1 1 [.string stb] rfl rfl (cell_one_new _ _ _) ?c2 ?c3 ?c4 (by rw [World.size_alloc]; omega) ?_))
            case c2 => intro u hu; simp at hu; subst hu; rfl
            case c3 => unfold maxLen; omega
            case c4 => omega
            intro v' w6 hown' hgrow _
            have hL6 := (HL5.out.alloc (.cells #[.string stb] 9)).own (wE := w3) (.inr trivial) hzl hyl (by omega) hsl3 hb3 HSVB.out HRVB.out (hW5.alloc _) hgrow
            have hs6 : w3.heap.size ≤ w6.heap.size := by have := hgrow.size; simp at this; omega
            have hG6 : w6.ownsRow (cb + 1) 9 1 gv (gotS q).length ((gotS q).map strc) := (HG5.out.alloc _).kept hgrow (own_apart HGO.out.lt hW5)
            have cS6 := hL6.ss.cell 0
            have HL6 := hide hL6
            have HG6 := hide hG6
            clear hW5 hgrow hL6 hG6 cS5 hcv
            by_cases hbig : bs.length + zs.length + 8 < cl + 1
            · have hbi : (bs.length : Int) + (zs.length : Int) + 8 < (cl : Int) + 1 := by omega
              go_wp2
              go_ret
              exact ⟨rfl, HL6.out.bel⟩
            · have hbi : ¬ (bs.length : Int) + (zs.length : Int) + 8 < (cl : Int) + 1 := by omega
              go_wp2
              go_roundw
              case rel =>
                refine ⟨k + 1, cl + 1, acc ++ [st], s2, by go_num, by go_num, by omega, ?_, by simp [hacl], by omega, HL6.out, hs6, HG6.out, ?_⟩
                · rw [List.map_append, List.length_append]
                  have e : [st].map strc = [.string stb] := by rw [HSTB.out]; rfl
                  rw [e]
                  first | exact hown' | (rw [hacl]; exact hown')
                · rw [HE.out, HGM.out, show v - k - 1 = v - (k + 1) by omega]
              case measure => simp [intOf]; omega
          · have hsz : szOf zs cl = 1 := by rw [szOf, dif_neg hlt]
            have HRX := hide (HRW.out 1)
            have hCEL : True := trivial
            rw [show ((1 : Int)).toNat = szOf zs cl by rw [hsz]; rfl] at HRX
            have hnl : ¬ (cl : Int) < (zs.length : Int) := by omega
            clear hsz
            generalize mNext bs s' (mPlace s') (szOf zs cl) = rr at HGM HRX
            obtain ⟨r1, s2⟩ := rr
            go_wp2_with fail
            refine (HRX.out).mono ?_
            rintro e w5 ⟨⟨u, rfl, hou⟩, hr5, hg5⟩
            simp only [] at hr5 hou HGM
            have hcv := conv_rd w5 u _ (Rd_owned hou)
            have HL5 := hide (HLr.out.stepR HAP.out HYZ.out hr5 hg5 (Nat.le_refl _))
            have hs5 : w3.heap.size ≤ w5.heap.size := Nat.le_trans hsw hg5.size
            have HG5 : Hid (w5.ownsRow (cb + 1) 9 1 gv (gotS q).length ((gotS q).map strc)) := hide (HGr.out.kept hg5 (.inr (fun e => by have := (HGr.out.lt y e).1; have := HYC.out; omega)))
            have hW5 : w5.ownsRow w3.heap.size 9 1 u13 acc.length (acc.map strc) := HWr.out.kept hg5 (.inr (fun e => by have := (HWr.out.lt y e).1; have := HYC.out; omega))
            have cS5 := HL5.out.ss.cell 0
            generalize hst : r1.getD [] = st at HGM hcv
            obtain ⟨stb, hstb⟩ : ∃ stb : ByteArray, stb = ⟨st.toArray⟩ := ⟨_, rfl⟩
            rw [← hstb] at hcv
            have HSTB := hide hstb
            clear hstb hst hou hr5 hg5 HRX HRW d2 cS hCEL
            go_wp2_with (at_builtin; (refine wpList_append_own _ rfl _ _ 27 rfl w3.heap.size 9 i0 (.string ⟨#[]⟩) 1 16 Try.underlying27 hi hz0 hz1 hz2 rfl (by decide) _ _ _ rfl (hW5.alloc _) ⟨w5.heap.size, 0, none⟩ 1 1 [.string stb] rfl rfl (cell_one_new _ _ _) ?c2 ?c3 ?c4 (by rw [World.size_alloc]; omega) ?_))
            case c2 => intro u hu; simp at hu; subst hu; rfl
            case c3 => unfold maxLen; omega
            case c4 => omega
            intro v' w6 hown' hgrow _
            have hL6 := (HL5.out.alloc (.cells #[.string stb] 9)).own (wE := w3) (.inr trivial) hzl hyl (by omega) hsl3 hb3 HSVB.out HRVB.out (hW5.alloc _) hgrow
            have hs6 : w3.heap.size ≤ w6.heap.size := by have := hgrow.size; simp at this; omega
            have hG6 : w6.ownsRow (cb + 1) 9 1 gv (gotS q).length ((gotS q).map strc) := (HG5.out.alloc _).kept hgrow (own_apart HGO.out.lt hW5)
            have cS6 := hL6.ss.cell 0
            have HL6 := hide hL6
            have HG6 := hide hG6
            clear hW5 hgrow hL6 hG6 cS5 hcv
            by_cases hbig : bs.length + zs.length + 8 < cl + 1
            · have hbi : (bs.length : Int) + (zs.length : Int) + 8 < (cl : Int) + 1 := by omega
              go_wp2
              go_ret
              exact ⟨rfl, HL6.out.bel⟩
            · have hbi : ¬ (bs.length : Int) + (zs.length : Int) + 8 < (cl : Int) + 1 := by omega
              go_wp2
              go_roundw
              case rel =>
                refine ⟨k + 1, cl + 1, acc ++ [st], s2, by go_num, by go_num, by omega, ?_, by simp [hacl], by omega, HL6.out, hs6, HG6.out, ?_⟩
                · rw [List.map_append, List.length_append]
                  have e : [st].map strc = [.string stb] := by rw [HSTB.out]; rfl
                  rw [e]
                  first | exact hown' | (rw [hacl]; exact hown')
                · rw [HE.out, HGM.out, show v - k - 1 = v - (k + 1) by omega]
              case measure => simp [intOf]; omega
        · obtain rfl : k = v := by omega
          have h6 := HQ'.out
          rw [HE.out, Nat.sub_self, eachS] at h6
          subst h6
          have hG : gotS (acc, s', cl) = acc := by rw [gotS, if_neg (by simp; exact hc)]
          rw [hG] at HGr
          have HWA := HWr
          clear hc hG
          have HLq : Hid (Lit1 w wr z sv y rv bs s' s' cb cl w.heap.size (.slice sa zs.length sc)) := HLr
          have HST := hide (stands_st wr z sv y rv bs s' s' HLq.out.two.d HLq.out.two.r (Eqv.refl _))
          obtain ⟨ga, gc, rfl, hgn⟩ := own_formS HGr.out
          try obtain ⟨wa, wc, rfl, hwn⟩ := own_formS HWA.out
          go_wp2_with fail
          refine (HST.out).mono ?_
          rintro e w7 ⟨rfl, hb7⟩
          have HB7 : Hid (Below w.heap.size w w7) := hide (HLq.out.bel.trans (hb7.mono HLq.out.bel.size))
          have HG7 := hide (own_keep HGr.out (fun i hi _ => hb7.block i hi))
          have HW7 := hide (own_keep HWr.out (fun i hi _ => hb7.block i hi))
          clear hb7 HST HLr HGr HWr d2 cS cC
          go_wp2_with fail
          go_loopw [17] (fun i wq => ∃ (j mm : Nat), i = .int .i64 j ∧ j ≤ cl ∧ wq = w7.drewN mm) (fun i _ => cl - (intOf i).toNat)
          case atStart => exact ⟨0, 0, rfl, Nat.zero_le _, rfl⟩
          case round =>
            obtain ⟨j, mm, rfl, hj, rfl⟩ := hrel
            by_cases hjl : j < cl
            · obtain ⟨g1, rfl⟩ := hgn (by omega)
              obtain ⟨g2, rfl⟩ := hwn (by omega)
              have cg := own_at HG7.out j (by omega)
              have cw := own_at HW7.out j (by omega)
              obtain ⟨x, hx⟩ : ∃ x, (acc.map strc)[j]? = some (.string x) := ⟨⟨acc[j].toArray⟩, by simp [List.getElem?_eq_getElem (show j < acc.length by omega), strc]⟩
              rw [hx] at cg cw
              clear hx
              go_wp2_with fail
              go_region
              all_goals
                go_wp2
                go_roundw
                case rel => exact ⟨j + 1, mm + 1, by go_num, by omega, rfl⟩
                case measure => simp [intOf]; omega
            · obtain rfl : j = cl := by omega
              have HBN : Hid (Below w.heap.size w (w7.drewN mm)) := hide ⟨HB7.out.os, HB7.out.tape, HB7.out.output, HB7.out.size, HB7.out.block⟩
              have HOP := hide (open_arg _ _ bs (HRb.out.below HBN.out) (by omega))
              go_wp2_with fail
              refine (HOP.out).mono ?_
              rintro e w8 ⟨rfl, hd8, hb8, hs8⟩
              have HD8 := hide hd8
              have HB8 : Hid (Below w.heap.size w w8) := hide (HBN.out.trans (hb8.mono HBN.out.size))
              have HSZ := hide HBN.out.size
              have HEN := hide (each_none w8 _ _ bs n hd8)
              clear hd8 hb8 hs8 HOP
              go_wp2_with fail
              refine (HEN.out).mono ?_
              rintro e w9 ⟨rfl, hd9, hg9⟩
              have HED := hide (end_st w9 _ _ bs sNil hd9)
              have HB9 : Hid (Below w.heap.size w w9) := hide (HB8.out.trans (below_grownBy hg9 (by have := HSZ.out; omega) HB8.out.size))
              rw [show endV bs sNil = .iface 41 (.agg #[.int .i64 0, .int .i64 1]) from rfl] at HED
              clear hd9 hg9 HEN
              have hta := isFault
              go_wp2_with fail
              refine (HED.out).mono ?_
              rintro e w10 ⟨rfl, m10, rfl⟩
              have HB10 : Hid (Below w.heap.size w (w9.drewN m10)) := hide ⟨HB9.out.os, HB9.out.tape, HB9.out.output, HB9.out.size, HB9.out.block⟩
              generalize w9.drewN m10 = w10 at HB10 ⊢
              clear HB9 HED
              go_wp2
              go_ret
              exact ⟨rfl, HB10.out.alloc HB10.out.size _⟩


      · have hdc : decide (s'.code ≠ 0) = true := by simp [hc]
        rw [hdc] at d2
        have h6 := HQ'.out
        rw [HE.out, eachS_stop bs zs (v - k) s' cl acc hc] at h6
        subst h6
        have hG : gotS (acc, s', cl) = [] := by rw [gotS, if_pos (by exact hc)]
        rw [hG] at HGr
        clear hc hG
        by_cases hk0 : k < v
        · have hki : (k : Int) < (v : Int) := by omega
          have HLq : Hid (Lit1 w wr z sv y rv bs s' s' cb cl w.heap.size (.slice sa zs.length sc)) := HLr
          have HST := hide (stands_st wr z sv y rv bs s' s' HLq.out.two.d HLq.out.two.r (Eqv.refl _))
          obtain ⟨ga, gc, rfl, hgn⟩ := own_formS HGr.out
          try obtain ⟨wa, wc, rfl, hwn⟩ := own_formS HWA.out
          go_wp2_with fail
          refine (HST.out).mono ?_
          rintro e w7 ⟨rfl, hb7⟩
          have HB7 : Hid (Below w.heap.size w w7) := hide (HLq.out.bel.trans (hb7.mono HLq.out.bel.size))
          have HG7 := hide (own_keep HGr.out (fun i hi _ => hb7.block i hi))
          have HW7 := hide (own_keep HWr.out (fun i hi _ => hb7.block i hi))
          clear hb7 HST HLr HGr HWr d2 cS cC
          go_wp2_with fail
          go_loopw [17] (fun i wq => i = .int .i64 0 ∧ wq = w7) (fun _ _ => 0)
          case atStart => exact ⟨rfl, rfl⟩
          case round =>
            obtain ⟨rfl, hwq⟩ := hrel
            rw [hwq]
            clear hwq
            have HBN : Hid (Below w.heap.size w w7) := hide ⟨HB7.out.os, HB7.out.tape, HB7.out.output, HB7.out.size, HB7.out.block⟩
            have HOP := hide (open_arg _ _ bs (HRb.out.below HBN.out) (by omega))
            go_wp2_with fail
            refine (HOP.out).mono ?_
            rintro e w8 ⟨rfl, hd8, hb8, hs8⟩
            have HD8 := hide hd8
            have HB8 : Hid (Below w.heap.size w w8) := hide (HBN.out.trans (hb8.mono HBN.out.size))
            have HSZ := hide HBN.out.size
            have HEN := hide (each_none w8 _ _ bs n hd8)
            clear hd8 hb8 hs8 HOP
            go_wp2_with fail
            refine (HEN.out).mono ?_
            rintro e w9 ⟨rfl, hd9, hg9⟩
            have HED := hide (end_st w9 _ _ bs sNil hd9)
            have HB9 : Hid (Below w.heap.size w w9) := hide (HB8.out.trans (below_grownBy hg9 (by have := HSZ.out; omega) HB8.out.size))
            rw [show endV bs sNil = .iface 41 (.agg #[.int .i64 0, .int .i64 1]) from rfl] at HED
            clear hd9 hg9 HEN
            have hta := isFault
            go_wp2_with fail
            refine (HED.out).mono ?_
            rintro e w10 ⟨rfl, m10, rfl⟩
            have HB10 : Hid (Below w.heap.size w (w9.drewN m10)) := hide ⟨HB9.out.os, HB9.out.tape, HB9.out.output, HB9.out.size, HB9.out.block⟩
            generalize w9.drewN m10 = w10 at HB10 ⊢
            clear HB9 HED
            go_wp2
            go_ret
            exact ⟨rfl, HB10.out.alloc HB10.out.size _⟩


        · obtain rfl : k = v := by omega
          have HLq : Hid (Lit1 w wr z sv y rv bs s' s' cb cl w.heap.size (.slice sa zs.length sc)) := HLr
          have HST := hide (stands_st wr z sv y rv bs s' s' HLq.out.two.d HLq.out.two.r (Eqv.refl _))
          obtain ⟨ga, gc, rfl, hgn⟩ := own_formS HGr.out
          try obtain ⟨wa, wc, rfl, hwn⟩ := own_formS HWA.out
          go_wp2_with fail
          refine (HST.out).mono ?_
          rintro e w7 ⟨rfl, hb7⟩
          have HB7 : Hid (Below w.heap.size w w7) := hide (HLq.out.bel.trans (hb7.mono HLq.out.bel.size))
          have HG7 := hide (own_keep HGr.out (fun i hi _ => hb7.block i hi))
          have HW7 := hide (own_keep HWr.out (fun i hi _ => hb7.block i hi))
          clear hb7 HST HLr HGr HWr d2 cS cC
          go_wp2_with fail
          go_loopw [17] (fun i wq => i = .int .i64 0 ∧ wq = w7) (fun _ _ => 0)
          case atStart => exact ⟨rfl, rfl⟩
          case round =>
            obtain ⟨rfl, hwq⟩ := hrel
            rw [hwq]
            clear hwq
            have HBN : Hid (Below w.heap.size w w7) := hide ⟨HB7.out.os, HB7.out.tape, HB7.out.output, HB7.out.size, HB7.out.block⟩
            have HOP := hide (open_arg _ _ bs (HRb.out.below HBN.out) (by omega))
            go_wp2_with fail
            refine (HOP.out).mono ?_
            rintro e w8 ⟨rfl, hd8, hb8, hs8⟩
            have HD8 := hide hd8
            have HB8 : Hid (Below w.heap.size w w8) := hide (HBN.out.trans (hb8.mono HBN.out.size))
            have HSZ := hide HBN.out.size
            have HEN := hide (each_none w8 _ _ bs n hd8)
            clear hd8 hb8 hs8 HOP
            go_wp2_with fail
            refine (HEN.out).mono ?_
            rintro e w9 ⟨rfl, hd9, hg9⟩
            have HED := hide (end_st w9 _ _ bs sNil hd9)
            have HB9 : Hid (Below w.heap.size w w9) := hide (HB8.out.trans (below_grownBy hg9 (by have := HSZ.out; omega) HB8.out.size))
            rw [show endV bs sNil = .iface 41 (.agg #[.int .i64 0, .int .i64 1]) from rfl] at HED
            clear hd9 hg9 HEN
            have hta := isFault
            go_wp2_with fail
            refine (HED.out).mono ?_
            rintro e w10 ⟨rfl, m10, rfl⟩
            have HB10 : Hid (Below w.heap.size w (w9.drewN m10)) := hide ⟨HB9.out.os, HB9.out.tape, HB9.out.output, HB9.out.size, HB9.out.block⟩
            generalize w9.drewN m10 = w10 at HB10 ⊢
            clear HB9 HED
            go_wp2
            go_ret
            exact ⟨rfl, HB10.out.alloc HB10.out.size _⟩


end Go.Proofs.Ytinjcefekbpabab
