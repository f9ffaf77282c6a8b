/- BloomFresh, walked. -/
import Derived.Test.YtbemmhngadpjcabFF2
namespace Go.Proofs.Ytbemmhngadpjcab
set_option linter.unusedVariables false
set_option linter.unusedSimpArgs false
open Go.RowKit

def TruC (w : World) (e : Ending) (w' : World) : Prop := e = .returned (.bool true) ∧ Below w.heap.size w w'
theorem bstep {a b c : World} (h : Below a.heap.size a b) (k : Below b.heap.size b c) : Below a.heap.size a c := h.trans (k.mono h.size)
theorem buildK (w : World) : (Instr.build 37 #[]).run Try.prog w = .ok (.agg kZ) w := by kernel_rfl
theorem strEql (s : ByteArray) (t : TypeId) (w : World) : (binOp .eql t (.string s) (.string s)).run Try.prog w = .ok (.bool true) w := by
  simp [binOp, Op.stringOp]
set_option maxRecDepth 20000 in
set_option maxHeartbeats 16000000 in
theorem fresh_law (w : World) (v : Value) (ks : List (List UInt8)) (hv : KRd w v ks) : Calls Try.prog 4 #[v] w (TruC w) := by
  obtain ⟨ao, c0, hvs, hl63, h32, hkr⟩ := hv
  subst hvs
  have HKR := hide hkr
  have H32 := hide h32
  clear hkr h32
  have CN : Hid (Calls Try.prog 9 #[.int .i64 128, .int .i64 3] w (NewC w 3 2)) := hide (new_in w 128 2 3 rfl (by omega) (by omega))
  go_enter Try.func4, Try.ntmps4
  go_wp2_with fail
  refine CN.out.mono ?_
  rintro e w1 ⟨rfl, hf1, hb1, hs1⟩
  obtain ⟨z, hz⟩ : ∃ z, z = w.heap.size + 1 := ⟨_, rfl⟩
  obtain ⟨g, hg⟩ : ∃ g, g = w.heap.size := ⟨_, rfl⟩
  have hzl : w.heap.size ≤ z := by omega
  have hgl : w.heap.size ≤ g := by omega
  rw [← hz, ← hg] at hf1
  rw [← hz]
  have HF1 := hide hf1
  have HB1 := hide hb1
  clear hf1 hb1 hs1 hz hg CN
  go_wp2
  go_loopw [5] (fun s5 wr => ∃ (i : Nat) (ws : List Nat), s5 = .int .i64 i ∧ i ≤ ks.length ∧ ws.length = 2 ∧ FilAt wr z g 3 ws ∧ Below w.heap.size w wr) (fun s5 _ => ks.length - (intOf s5).toNat)
  case atStart => exact ⟨0, List.replicate 2 0, rfl, by omega, rfl, HF1.out, HB1.out⟩
  case round =>
    obtain ⟨i, ws, rfl, hi, hws, hF, hB⟩ := hrel
    have HF := hide hF
    have HB := hide hB
    have HWs := hide hws
    clear hF hB hws HF1 HB1
    by_cases hlt : i < ks.length
    · have hii : (i : Int) < ks.length := by omega
      obtain ⟨b, o, hao, hrg⟩ := HKR.out (by omega)
      subst hao
      obtain ⟨kb, hkb⟩ : ∃ kb, kb = ks[i] := ⟨_, rfl⟩
      have hr0 := rangeAt_below (hrg i hlt) HB.out
      rw [← hkb] at hr0
      have hk32 : kb.length = 32 := by rw [hkb]; exact H32.out _ (List.getElem_mem hlt)
      obtain ⟨KL, hKL⟩ : ∃ KL, KL = kb.map u8c := ⟨_, rfl⟩
      rw [← hKL] at hr0
      have hinfo : (Try.prog.info? 37).map (·.size) = some KL.length := by rw [hKL, List.length_map, hk32]; exact infoKey
      have HRg := hide hr0
      have HInfo := hide hinfo
      have CA := hide (add_any wr z g 3 ws HF.out kb hk32)
      rw [← hKL] at CA
      clear hkb hr0 hk32 hKL hinfo hrg
      go_wp2_with (first | fail | ((with_reducible refine wpList_load_mid ?_ 37 (.tmp 32) ?_ b (o + i * 32) ?_ KL _ HRg.out Try.underlying37 ?_ HInfo.out ?_); rfl; rfl; rfl; rfl))
      refine CA.out.mono ?_
      rintro e w2 ⟨rfl, hf2, hg2⟩
      have HF2 := hide hf2
      have HB2 := hide (HB.out.trans (below_grownBy (B := w.heap.size) hg2 hgl HB.out.size))
      have HL2 : Hid ((addK ws (keyA kb) (keyB kb) 3).1.length = 2) := hide (by rw [addK_len]; exact HWs.out)
      clear hf2 hg2 CA
      go_wp2
      exact ⟨⟨i + 1, _, by go_num, by omega, HL2.out, HF2.out, HB2.out⟩, by simp [intOf]; omega⟩
    · have hii : ¬ (i : Int) < ks.length := by omega
      obtain ⟨wp, hwp⟩ : ∃ w0, w0 = wr := ⟨_, rfl⟩
      rw [← hwp] at HF HB ⊢
      clear hwp
      have CB := hide (fbytes_any wp z g 3 ws HF.out)
      obtain ⟨bs, hbs⟩ : ∃ bs, bs = bytesF 3 ws := ⟨_, rfl⟩
      have hbl : bs.length = 19 := by rw [hbs, bytesF_len, HWs.out]
      rw [← hbs] at CB
      have HBs := hide hbs
      have HBl := hide hbl
      clear hbs hbl HKR H32
      go_wp2_with fail
      refine CB.out.mono ?_
      rintro e w4 ⟨va, rfl, ho4, hb4⟩
      have HF4 := hide (HF.out.below hb4)
      have CB2 := hide (fbytes_any w4 z g 3 ws HF4.out)
      rw [← HBs.out] at CB2
      have HO4 := hide ho4
      have HB4 := hide (HB.out.trans (hb4.mono HB.out.size))
      have hsz4 : wp.heap.size ≤ w4.heap.size := hb4.size
      clear hb4 CB ho4
      go_wp2_with fail
      refine CB2.out.mono ?_
      rintro e w5 ⟨vb, rfl, ho5, hb5⟩
      have hST : ST w w5 z g ws vb bs va 19 := by
        refine ⟨⟨bs.map u8c, ?_, ?_⟩, HF4.out.below hb5, owns_lower ho5 HB4.out.size, bstep HB4.out hb5, ?_⟩
        · have := owns_below (owns_lower HO4.out HB.out.size) hb5
          rw [HBl.out] at this
          exact this
        · intro y hy
          obtain ⟨u, _, rfl⟩ := List.mem_map.1 hy
          exact ⟨_, rfl⟩
        · intro gA hA
          have h1 := owns_lt HO4.out gA hA
          have h2 := HF.out.zb.lt
          have h3 := HF.out.gb.lt
          refine ⟨by omega, by omega, fun e => ?_⟩
          have h4 := (owns_lt ho5 gA e).1
          omega
      have hcb := conv_rd w5 vb bs (Rd_owned ho5)
      obtain ⟨s, hs⟩ : ∃ s : ByteArray, s = ⟨bs.toArray⟩ := ⟨_, rfl⟩
      have HS := hide hs
      rw [← hs] at hcb
      have hss : s.size = 19 := by rw [hs]; exact HBl.out
      obtain ⟨va0, vac, hva, hva1⟩ := hST.a.form
      have HST := hide hST
      have HVa1 := hide hva1
      subst hva
      clear hST hb5 ho5 hs CB2 HF4 HB4 HO4 hva1 HF HB
      go_wp2
      go_loopw [9] (fun s9 wr => ∃ (j : Nat), s9 = .int .i64 j ∧ j ≤ 19 ∧ ST w wr z g ws vb bs (.slice va0 19 vac) 19) (fun s9 _ => 19 - (intOf s9).toNat)
      case atStart => exact ⟨0, rfl, by omega, HST.out⟩
      case round =>
        obtain ⟨j, rfl, hj, hS⟩ := hrel
        by_cases hjl : j < 19
        · have hji : (j : Int) < 19 := by omega
          obtain ⟨gi, hgi⟩ := HVa1.out (by omega)
          subst hgi
          have HS9 := hide hS
          obtain ⟨ys, hy1, hy2⟩ := hS.a
          obtain ⟨⟨q, hq⟩, hfz, hgb⟩ := own_cell hy1 hy2 j hjl
          have HY := hide (fun q' => own_set hy1 hy2 j hjl q')
          obtain ⟨q2, hq2⟩ : ∃ q2, q2 = bits .xor .u8 q 255 := ⟨_, rfl⟩
          have hq2' : bits .xor .u8 q 255 = q2 := hq2.symm
          clear hy1 hy2 hS hq2 HST
          go_wp2
          obtain ⟨ys', h1, h2⟩ := HY.out q2
          exact ⟨⟨j + 1, by go_num, by omega, HS9.out.row (grownBy_set _ gi j _) ⟨ys', h1, h2⟩ (.inl rfl)⟩, by simp [intOf]; omega⟩
        · have hji : ¬ (j : Int) < 19 := by omega
          have HS9 := hide hS
          clear hS HST HVa1
          go_wp2
          go_loopw [6, 10] (fun s6 s10 wr => ∃ (vx : Value) (m : Nat), vx = s6 ∧ s10 = .int .i64 m ∧ m ≤ 16 ∧ ST w wr z g ws vb bs vx (19 + m)) (fun _ s10 _ => 16 - (intOf s10).toNat)
          case atStart => exact ⟨_, 0, rfl, rfl, by omega, HS9.out⟩
          case round =>
            obtain ⟨vx, m, rfl, rfl, hm, hS⟩ := hrel
            obtain ⟨wq, hwq⟩ : ∃ w0, w0 = wr := ⟨_, rfl⟩
            rw [← hwq] at hS ⊢
            clear hwq
            have HSx := hide hS
            have hszq : w.heap.size ≤ wq.heap.size := hS.bel.size
            clear hS HS9
            by_cases hml : m < 16
            · have hmi : (m : Int) < 16 := by omega
              have hal := (Below.refl wq.heap.size wq).alloc (Nat.le_refl _) (.cells #[.int .u8 119] 5)
              have HSa := hide (HSx.out.below hal)
              clear hal
              have HN1 : Hid (∀ j u, [Value.int .u8 119][j]? = some u → (wq.alloc (.cells #[.int .u8 119] 5)).cell? ⟨wq.heap.size, j, none⟩ = some u) := hide (fun j u hj => by
                cases j with
                | zero => cases hj; exact (Blk.made wq _ _).cell 0
                | succ j => simp at hj)
              have HN2 : Hid (∀ y ∈ [Value.int .u8 119], ∃ q, y = .int .u8 q) := hide (fun y hy => by simp at hy; exact ⟨_, hy⟩)
              have HN3 : Hid (19 + m + 1 ≤ 1000000) := hide (by omega)
              have HN4 : Hid (w.heap.size ≤ (wq.alloc (.cells #[.int .u8 119] 5)).heap.size) := hide (by rw [World.size_alloc]; omega)
              go_wp2_with (at_builtin; refine wpList_append_any rfl _ _ rfl w.heap.size _ (19 + m) rfl HSa.out.a wq.heap.size 1 1 rfl [.int .u8 119] rfl HN1.out HN2.out HN3.out HN4.out ?_)
              intro vy w7 HA7 HG7 HL7
              have HS7 := hide (HSa.out.row HG7.out HA7.out (by rw [World.size_alloc]; exact HL7.out))
              clear HA7 HG7 HL7 HSa HSx
              go_wp2
              exact ⟨⟨_, m + 1, rfl, by go_num, by omega, HS7.out⟩, by simp [intOf]; omega⟩
            · have hmi : ¬ (m : Int) < 16 := by omega
              have hze := zeroM
              have hsm := sliceM
              have hal := (Below.refl wq.heap.size wq).alloc (Nat.le_refl _) (.cells mZ 40)
              have HSa := hide (HSx.out.below hal)
              have HBm := hide (Blk.made wq mZ 40)
              clear hal HSx
              obtain ⟨NW, hNW⟩ : ∃ NW, NW = List.replicate 100 (Value.int .u8 0) := ⟨_, rfl⟩
              have HN0 : Hid (NW.length = 100) := hide (by rw [hNW]; exact List.length_replicate)
              have HN1 : Hid (∀ j u, NW[j]? = some u → (wq.alloc (.cells mZ 40)).cell? ⟨wq.heap.size, j, none⟩ = some u) := hide (fun j u hj => by
                rw [HBm.out.cell]
                unfold mZ
                rw [List.getElem?_toArray, ← hNW]
                exact hj)
              have HN2 : Hid (∀ y ∈ NW, ∃ q, y = .int .u8 q) := hide (fun y hy => by rw [hNW] at hy; exact ⟨_, List.eq_of_mem_replicate hy⟩)
              have HN3 : Hid (19 + m + 100 ≤ 1000000) := hide (by omega)
              have HN4 : Hid (w.heap.size ≤ (wq.alloc (.cells mZ 40)).heap.size) := hide (by rw [World.size_alloc]; omega)
              clear hNW
              go_wp2_with (at_builtin; refine wpList_append_any rfl _ _ rfl w.heap.size _ (19 + m) rfl HSa.out.a wq.heap.size 100 100 rfl NW HN0.out HN1.out HN2.out HN3.out HN4.out ?_)
              intro vy w7 HA7 HG7 HL7
              have HS7 := hide (HSa.out.row HG7.out HA7.out (by rw [World.size_alloc]; exact HL7.out))
              clear HA7 HG7 HL7 HSa HBm hze hsm
              obtain ⟨W9, hW9⟩ : ∃ W9, W9 = (w7.alloc (.cells #[.int .i64 0, .slice none 0 0] 43)).alloc (.cells #[.pointer (some ⟨w7.heap.size, 0, none⟩), .pointer none] 46) := ⟨_, rfl⟩
              have hb9 : Below w7.heap.size w7 W9 := by rw [hW9]; exact ((Below.refl _ _).alloc (Nat.le_refl _) _).alloc (by simp) _
              have HZ9 : Hid (ZFil W9 w7.heap.size) := hide (by rw [hW9]; exact (Blk.made w7 _ _).alloc _)
              have HP9 : Hid (Blk W9 (w7.heap.size + 1) #[.pointer (some ⟨w7.heap.size, 0, none⟩), .pointer none] 46) := hide (by
                rw [hW9]
                have := Blk.made (w7.alloc (.cells #[.int .i64 0, .slice none 0 0] 43)) #[.pointer (some ⟨w7.heap.size, 0, none⟩), .pointer none] 46
                rw [World.size_alloc] at this
                exact this)
              have HST9 := hide (HS7.out.below hb9)
              have hc9 : (convert 38 9 vb).run Try.prog W9 = .ok (.string s) W9 := by rw [HS.out]; exact conv_rd W9 vb bs (Rd_owned HST9.out.b)
              have hse := strEql s
              obtain ⟨p0, hp0⟩ : ∃ p0, p0 = w7.heap.size := ⟨_, rfl⟩
              have CB9 := hide (fbytes_any W9 z g 3 ws HST9.out.f)
              rw [← HBs.out] at CB9
              clear hb9 HS7 hp0
              rw [hW9] at hc9
              go_wp2_with (first | fail | simp only [hse])
              rw [← hW9]
              refine CB9.out.mono ?_
              rintro e wa ⟨v9, rfl, ho9, hba⟩
              have hca := conv_rd wa v9 bs (Rd_owned ho9)
              rw [← HS.out] at hca
              have HSTa := hide (HST9.out.below hba)
              have HZa := hide (HZ9.out.below hba)
              have HPa := hide (HP9.out.below hba HP9.out.lt)
              have pa0 : wa.cell? ⟨w7.heap.size + 1, 0, none⟩ = some (.pointer (some ⟨w7.heap.size, 0, none⟩)) := HPa.out.cell 0
              have pa1 : wa.cell? ⟨w7.heap.size + 1, 1, none⟩ = some (.pointer none) := HPa.out.cell 1
              have CT := hide (told_zero wa w7.heap.size HZa.out)
              clear hba ho9 CB9 HST9 HZ9 HP9 hc9 hW9
              go_wp2_with (first | fail | simp only [hse])
              refine CT.out.mono ?_
              rintro e wb ⟨rfl, hbb⟩
              have HBb := hide (HSTa.out.bel.trans (hbb.mono HSTa.out.bel.size))
              have HZb := hide (HZa.out.below hbb)
              have HPb := hide (HPa.out.below hbb HPa.out.lt)
              have pb0 : wb.cell? ⟨w7.heap.size + 1, 0, none⟩ = some (.pointer (some ⟨w7.heap.size, 0, none⟩)) := HPb.out.cell 0
              have hbk := buildK
              have CAd := hide (add_zero wb w7.heap.size HZb.out kZ kZ_size)
              clear hbb hca pa0 pa1 HSTa HZa HPa CT
              go_wp2_with fail
              refine CAd.out.mono ?_
              rintro e wc ⟨rfl, hbc⟩
              have HBc := hide (HBb.out.trans (hbc.mono HBb.out.size))
              have HZc := hide (HZb.out.below hbc)
              have HPc := hide (HPb.out.below hbc HPb.out.lt)
              have pc0 : wc.cell? ⟨w7.heap.size + 1, 0, none⟩ = some (.pointer (some ⟨w7.heap.size, 0, none⟩)) := HPc.out.cell 0
              have CHs := hide (has_zero wc w7.heap.size HZc.out kZ kZ_size)
              clear hbc pb0 HBb HZb HPb CAd
              go_wp2_with fail
              refine CHs.out.mono ?_
              rintro e wd ⟨rfl, hbd⟩
              have HBd := hide (HBc.out.trans (hbd.mono HBc.out.size))
              clear hbd pc0 HBc HZc HPc CHs
              go_wp2
              go_ret
              exact ⟨rfl, HBd.out⟩
end Go.Proofs.Ytbemmhngadpjcab
