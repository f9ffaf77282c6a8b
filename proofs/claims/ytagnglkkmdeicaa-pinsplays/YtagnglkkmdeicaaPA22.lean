/- PinsPlays, the law (under SpoH). -/
import Derived.Test.YtagnglkkmdeicaaPA21
namespace Go.Proofs.Ytagnglkkmdeicaa
set_option linter.unusedVariables false
set_option linter.unusedSimpArgs false
open Go.RowKit Go.Shelf
set_option maxRecDepth 100000

theorem K5len : K5.length = 32 := rfl
set_option maxHeartbeats 8000000 in
theorem plays_any (SP : SpoH) (w : World) (ao : Option Addr) (n c : Nat) (ps : List Sp) (hn : n = ps.length) (hr : SRow w ao ps) (hl : n ≤ 2199023255552) : Calls Try.prog 3 #[.slice ao n c] w (PlaysC w) := by
  have HR := hide hr
  have HN := hide hn
  have HS := hide SP
  have hz1 := zero_2p
  have hz2 := zero_2r
  clear hr hn
  go_enter Try.func3, Try.ntmps3
  go_upto_region 3 with fail
  clear hz1 hz2
  have HM0 : Hid (Md0 w ((w.alloc (.cells #[.pointer none, .pointer none] 24)).alloc (.cells #[.pointer none, .pointer none] 26))) := hide ⟨(Blk.made w _ _).alloc _, by have := Blk.made (w.alloc (.cells #[.pointer none, .pointer none] 24)) #[.pointer none, .pointer none] 26; simpa using this, ((Below.refl _ _).alloc (Nat.le_refl _) _).alloc (by simp) _⟩
  generalize (w.alloc (.cells #[.pointer none, .pointer none] 24)).alloc (.cells #[.pointer none, .pointer none] 26) = W0 at HM0 ⊢
  go_wp2
  go_loopw [5] (fun t wr => (t = .int .i64 0 ∧ Md0 w wr) ∨ (t = .int .i64 1 ∧ ∃ zp zr, Md1 w wr zp zr) ∨ (t = .int .i64 2 ∧ ∃ zp zr zq zs, Md2 w wr zp zr zq zs)) (fun t _ => 2 - (intOf t).toNat)
  case atStart => exact .inl ⟨rfl, HM0.out⟩
  case round =>
    clear HM0
    rcases hrel with ⟨rfl, hM⟩ | ⟨rfl, zp, zr, hM⟩ | ⟨rfl, zp, zr, zq, zs, hM⟩
    · have HM := hide hM
      have HN1 := hide (new_any wr)
      clear hM
      go_upto_region 7 with (go_at_call 5; (with_reducible refine HN1.out.mono ?_); rintro e w1 ⟨zA, rfl, l1, p1, b1⟩; have L1 := hide l1; have P1 := hide p1; have B1 := hide b1; clear l1 p1 b1; have hca : w1.cell? ⟨w.heap.size, 0, none⟩ = some (.pointer none) := (by rw [(HM.out.ba.below B1.out HM.out.ba.lt).cell]; rfl); have hfa : w1.frozen? ⟨w.heap.size, 0, none⟩ = false := (HM.out.ba.below B1.out HM.out.ba.lt).frozen 0)
      clear HN1 hca hfa
      have HBB : Hid (Blk (w1.setCell ⟨w.heap.size, 0, none⟩ (pt zA)) (w.heap.size + 1) _ 26) := hide ((HM.out.bb.below B1.out HM.out.bb.lt).setOther _ _ (by simp))
      have HMK := hide (fun w3 zB h3 r3 l3 => HM.out.one (w3 := w3) (zr := zB) B1.out P1.out L1.out h3 r3 l3)
      have HN2 := hide (rnew_any (w1.setCell ⟨w.heap.size, 0, none⟩ (pt zA)))
      generalize w1.setCell ⟨w.heap.size, 0, none⟩ (pt zA) = W2 at HBB HMK HN2 ⊢
      clear HM B1 P1 L1
      go_upto_region 8 with (go_at_call 6; (with_reducible refine HN2.out.mono ?_); rintro e w3 ⟨zB, rfl, l3, r3, b3⟩; have HMD := hide (HMK.out w3 zB b3 r3 l3); have B3 := hide b3; clear l3 r3 b3; have hcb : w3.cell? ⟨w.heap.size + 1, 0, none⟩ = some (.pointer none) := (by rw [(HBB.out.below B3.out HBB.out.lt).cell]; rfl); have hfb : w3.frozen? ⟨w.heap.size + 1, 0, none⟩ = false := (HBB.out.below B3.out HBB.out.lt).frozen 0)
      clear HN2 hcb hfb HMK HBB B3
      generalize w3.setCell ⟨w.heap.size + 1, 0, none⟩ (pt zB) = W4 at HMD ⊢
      have hc8 : W4.cell? ⟨w.heap.size, 0, none⟩ = some (.pointer (some ⟨zA, 0, none⟩)) := by rw [HMD.out.ba.cell]; rfl
      go_wp2
      exact ⟨.inr (.inl ⟨rfl, zA, zB, HMD.out⟩), by simp [intOf]⟩
    · have HM := hide hM
      have HN1 := hide (new_any wr)
      clear hM
      go_upto_region 7 with (go_at_call 5; (with_reducible refine HN1.out.mono ?_); rintro e w1 ⟨zA, rfl, l1, p1, b1⟩; have L1 := hide l1; have P1 := hide p1; have B1 := hide b1; clear l1 p1 b1; have hca : w1.cell? ⟨w.heap.size, 1, none⟩ = some (.pointer none) := (by rw [(HM.out.ba.below B1.out HM.out.ba.lt).cell]; rfl); have hfa : w1.frozen? ⟨w.heap.size, 1, none⟩ = false := (HM.out.ba.below B1.out HM.out.ba.lt).frozen 1)
      clear HN1 hca hfa
      have HBB : Hid (Blk (w1.setCell ⟨w.heap.size, 1, none⟩ (pt zA)) (w.heap.size + 1) _ 26) := hide ((HM.out.bb.below B1.out HM.out.bb.lt).setOther _ _ (by simp))
      have HMK := hide (fun w3 zB h3 r3 l3 => HM.out.two (w3 := w3) (zs := zB) B1.out P1.out L1.out h3 r3 l3)
      have HN2 := hide (rnew_any (w1.setCell ⟨w.heap.size, 1, none⟩ (pt zA)))
      generalize w1.setCell ⟨w.heap.size, 1, none⟩ (pt zA) = W2 at HBB HMK HN2 ⊢
      clear HM B1 P1 L1
      go_upto_region 8 with (go_at_call 6; (with_reducible refine HN2.out.mono ?_); rintro e w3 ⟨zB, rfl, l3, r3, b3⟩; have HMD := hide (HMK.out w3 zB b3 r3 l3); have B3 := hide b3; clear l3 r3 b3; have hcb : w3.cell? ⟨w.heap.size + 1, 1, none⟩ = some (.pointer none) := (by rw [(HBB.out.below B3.out HBB.out.lt).cell]; rfl); have hfb : w3.frozen? ⟨w.heap.size + 1, 1, none⟩ = false := (HBB.out.below B3.out HBB.out.lt).frozen 1)
      clear HN2 hcb hfb HMK HBB B3
      generalize w3.setCell ⟨w.heap.size + 1, 1, none⟩ (pt zB) = W4 at HMD ⊢
      have hc8 : W4.cell? ⟨w.heap.size, 1, none⟩ = some (.pointer (some ⟨zA, 0, none⟩)) := by rw [HMD.out.pl.ba.cell]; rfl
      go_wp2
      exact ⟨.inr (.inr ⟨rfl, zp, zr, zA, zB, HMD.out⟩), by simp [intOf]⟩
    · have HPL := hide hM.pl
      have HBE := hide hM.bel
      clear hM
      obtain ⟨w3, hw3⟩ : ∃ w3, w3 = wr := ⟨_, rfl⟩
      rw [← hw3] at HPL HBE ⊢
      clear hw3
      go_upto_region 10 with fail
      go_wp2
      go_loopw [6] (fun t wr => ∃ i : Nat, t = .int .i64 i ∧ i ≤ n ∧ Pl w.heap.size w.heap.size (w.heap.size + 1) zp zr zq zs i wr ∧ Below w.heap.size w wr) (fun t _ => n - (intOf t).toNat)
      case atStart => exact ⟨0, rfl, by omega, HPL.out, HBE.out⟩
      case round =>
        clear HPL HBE
        obtain ⟨i, rfl, hi, hP, hB⟩ := hrel
        by_cases hin : i < n
        · have hii : (i : Int) < n := by omega
          have hik : i < ps.length := by rw [← HN.out]; exact hin
          obtain ⟨g, o, rfl, hra⟩ := HR.out.at' i hik
          have hx32 : ps[i].x.length = 32 := HR.out.len _ (List.getElem_mem _)
          obtain ⟨p, hp⟩ : ∃ p, p = ps[i] := ⟨_, rfl⟩
          rw [← hp] at hra hx32
          have hrw : ∀ W, Below w.heap.size w W → W.rangeAt g (o + i * 36) p.L := fun W hb => rangeAt_belowK hra hb
          have hco : wr.cell? ⟨g, o + i * 36 + 1, none⟩ = some (.bool p.ot) := (hrw wr hB) 1 _ rfl
          have HRW := hide hrw
          have HX := hide hx32
          have HB := hide hB
          have HPd := hide (hP.below (below_d wr))
          have HBd : Hid (Below w.heap.size w wr.drew) := hide (hB.trans ((below_d wr).mono hB.size))
          clear hrw hra hik hP hB hx32 hp
          obtain ⟨d, ot, s, x, al⟩ := p
          have hco' : wr.cell? ⟨g, o + i * 36 + 1, none⟩ = some (.bool ot) := hco
          clear hco
          cases ot with
          | false =>
            go_upto_region 16 with fail
            refine pl_walk _ (fun _ _ _ _ _ h => h) wr w.heap.size (w.heap.size + 1) (pAt zp zq 0) (pAt zr zs 0) g o n c i 0 (Sp.L ⟨d, false, s, x, al⟩) (stL_len HX.out) (by omega) hin (fun w1 => Pl w.heap.size w.heap.size (w.heap.size + 1) zp zr zq zs (i + 1) w1 ∧ Below w.heap.size w w1) ⟨(HPd.out.ca (by omega)).1, (HPd.out.ca (by omega)).2, HRW.out _ HBd.out⟩ ((HPd.out.step HS.out (a := 0) (by omega) (by omega) d s false al x HX.out).mono (fun e w' h => ⟨h.1, h.2.1, HBd.out.trans h.2.2.1⟩)) (fun w1 h => ⟨(h.1.ca (by omega)).1, (h.1.ca (by omega)).2, HRW.out _ h.2⟩) _ (Nat.lt_of_sub_pos (by exact Nat.succ_pos _)) rfl rfl rfl rfl rfl ?_
            rintro w1 ⟨hP1, hB1⟩
            clear HPd HBd HB HRW hco'
            simp only [Act.put, List.setIfInBounds_toArray, List.set_cons_zero, List.set_cons_succ]
            go_wp2
            exact ⟨⟨i + 1, by go_num, by omega, hP1, hB1⟩, by simp [intOf]; omega⟩
          | true =>
            go_upto_region 16 with fail
            refine pl_walk _ (fun _ _ _ _ _ h => h) wr w.heap.size (w.heap.size + 1) (pAt zp zq 1) (pAt zr zs 1) g o n c i 1 (Sp.L ⟨d, true, s, x, al⟩) (stL_len HX.out) (by omega) hin (fun w1 => Pl w.heap.size w.heap.size (w.heap.size + 1) zp zr zq zs (i + 1) w1 ∧ Below w.heap.size w w1) ⟨(HPd.out.ca (by omega)).1, (HPd.out.ca (by omega)).2, HRW.out _ HBd.out⟩ ((HPd.out.step HS.out (a := 1) (by omega) (by omega) d s true al x HX.out).mono (fun e w' h => ⟨h.1, h.2.1, HBd.out.trans h.2.2.1⟩)) (fun w1 h => ⟨(h.1.ca (by omega)).1, (h.1.ca (by omega)).2, HRW.out _ h.2⟩) _ (Nat.lt_of_sub_pos (by exact Nat.succ_pos _)) rfl rfl rfl rfl rfl ?_
            rintro w1 ⟨hP1, hB1⟩
            clear HPd HBd HB HRW hco'
            simp only [Act.put, List.setIfInBounds_toArray, List.set_cons_zero, List.set_cons_succ]
            go_wp2
            exact ⟨⟨i + 1, by go_num, by omega, hP1, hB1⟩, by simp [intOf]; omega⟩
        · have hii : ¬ (i : Int) < n := by omega
          have HP := hide hP
          have HB := hide hB
          clear hP hB
          obtain ⟨w5, hw5⟩ : ∃ w5, w5 = wr := ⟨_, rfl⟩
          rw [← hw5] at HP HB ⊢
          clear hw5
          have hz := zero_key
          go_upto_region 19 with (first | ((with_reducible refine wpList_K5 ?_ ?_ ?_); rfl; rfl) | ((with_reducible refine wpList_put_key ?_ (.tmp 8) (.tmp 47) ?_ w5.heap.size ?_ w5 ?_ ?_ K5 K5len ?_ ?_); rfl; rfl; rfl; rfl; rfl; rfl; intro w6 HK6 hb6))
          clear hz
          have HP6 := hide (HP.out.below hb6)
          have HB6 := hide (HB.out.trans (hb6.mono HB.out.size))
          obtain ⟨zk, hzk⟩ : ∃ zk, zk = w5.heap.size := ⟨_, rfl⟩
          rw [← hzk] at HK6 ⊢
          clear hzk hb6 HP HB
          go_wp2
          go_loopw [9] (fun t wr => ∃ j : Nat, t = .int .i64 j ∧ j ≤ 2 ∧ Pl w.heap.size w.heap.size (w.heap.size + 1) zp zr zq zs (i + 5 * j) wr ∧ Below w.heap.size w wr ∧ KeyAt wr zk K5) (fun t _ => 2 - (intOf t).toNat)
          case atStart => exact ⟨0, rfl, by omega, HP6.out, HB6.out, HK6.out⟩
          case round =>
            clear HP6 HB6 HK6
            obtain ⟨j, rfl, hj, hP, hB, hK⟩ := hrel
            by_cases hjl : j < 2
            · have hji : (j : Int) < 2 := by omega
              obtain ⟨m, hm⟩ : ∃ m, m = i + 5 * j := ⟨_, rfl⟩
              rw [← hm] at hP
              have HA := hide hjl
              have HPd := hide (hP.below (below_d wr))
              have HKd := hide (hK.below (below_d wr))
              have HBd : Hid (Below w.heap.size w wr.drew) := hide (hB.trans ((below_d wr).mono hB.size))
              clear hP hB hK
              go_upto_region 22 with fail
              refine pm_walk _ (fun _ _ _ _ _ h => h) wr w.heap.size (w.heap.size + 1) (pAt zp zq j) (pAt zr zs j) zk j hjl (fun w1 => Pl w.heap.size w.heap.size (w.heap.size + 1) zp zr zq zs (m + 1) w1 ∧ Below w.heap.size w w1 ∧ KeyAt w1 zk K5) (fun w1 => Pl w.heap.size w.heap.size (w.heap.size + 1) zp zr zq zs (m + 2) w1 ∧ Below w.heap.size w w1 ∧ KeyAt w1 zk K5) (fun w1 => Pl w.heap.size w.heap.size (w.heap.size + 1) zp zr zq zs (m + 3) w1 ∧ Below w.heap.size w w1 ∧ KeyAt w1 zk K5) (fun w1 => Pl w.heap.size w.heap.size (w.heap.size + 1) zp zr zq zs (m + 4) w1 ∧ Below w.heap.size w w1 ∧ KeyAt w1 zk K5) (fun w1 => Pl w.heap.size w.heap.size (w.heap.size + 1) zp zr zq zs (m + 5) w1 ∧ Below w.heap.size w w1 ∧ KeyAt w1 zk K5) ⟨(HPd.out.ca hjl).1, (HPd.out.ca hjl).2, HKd.out⟩ (Pl.run HS.out HA.out HPd.out HBd.out HKd.out (by omega) 10 0 false false zK5 rfl) (fun w1 h => ⟨(h.1.ca HA.out).1, (h.1.ca HA.out).2, h.2.2⟩) (fun w0 h => Pl.run HS.out HA.out h.1 h.2.1 h.2.2 (by omega) 0 3 false false zK5 rfl) (fun w1 h => ⟨(h.1.ca HA.out).1, (h.1.ca HA.out).2, h.2.2⟩) (fun w0 h => Pl.run HS.out HA.out h.1 h.2.1 h.2.2 (by omega) 2 3 false false K5 rfl) (fun w1 h => ⟨(h.1.ca HA.out).1, (h.1.ca HA.out).2, h.2.2⟩) (fun w0 h => Pl.run HS.out HA.out h.1 h.2.1 h.2.2 (by omega) 6 3 false false K5 rfl) (fun w1 h => ⟨(h.1.ca HA.out).1, (h.1.ca HA.out).2, h.2.2⟩) (fun w0 h => Pl.run HS.out HA.out h.1 h.2.1 h.2.2 (by omega) 9 0 false false K5 rfl) (fun w1 h => ⟨(h.1.ca HA.out).1, (h.1.ca HA.out).2, h.2.2⟩) _ (Nat.lt_of_sub_pos (by exact Nat.succ_pos _)) rfl rfl rfl rfl ?_
              rintro w1 ⟨hP1, hB1, hK1⟩
              clear HPd HBd HKd
              simp only [Act.put, List.setIfInBounds_toArray, List.set_cons_zero, List.set_cons_succ]
              go_wp2
              exact ⟨⟨j + 1, by go_num, by omega, by rw [show i + 5 * (j + 1) = m + 5 by omega]; exact hP1, hB1, hK1⟩, by simp [intOf]; omega⟩
            · have hji : ¬ (j : Int) < 2 := by omega
              have HNO := hide (nothing_any wr)
              have HB := hide hB
              clear hP hK hB
              go_wp2_with (go_at_call 8; (with_reducible refine HNO.out.mono ?_); rintro e w9 ⟨rfl, hb9⟩)
              go_ret
              exact ⟨rfl, HB.out.trans (hb9.mono HB.out.size)⟩
end Go.Proofs.Ytagnglkkmdeicaa
