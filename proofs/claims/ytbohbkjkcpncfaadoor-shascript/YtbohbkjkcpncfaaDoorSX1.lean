/- ShaScript, walked: first what it adds up. -/
import Derived.Test.YtbohbkjkcpncfaaDoorSX0
namespace Go.Proofs.YtbohbkjkcpncfaaDoor
set_option linter.unusedVariables false
set_option linter.unusedSimpArgs false
open Go.RowKit

set_option maxRecDepth 20000 in
theorem four_any (n : Int) : ∃ k : Nat, k < 4 ∧ ∀ w, Calls Tryd.prog 17 #[.int .i64 n] w fun e w' => e = .returned (.int .i64 (k : Int)) ∧ w' = w := by
  have hb : ∃ k : Nat, k < 4 ∧ bits .and .i64 n 3 = (k : Int) := by
    refine ⟨(BitVec.ofInt 64 n).toNat % 4, by omega, ?_⟩
    show IntKind.i64.wrap ((BitVec.ofInt 64 n &&& BitVec.ofInt 64 3).toNat : Int) = _
    have e3 : (BitVec.ofInt 64 3).toNat = 3 := rfl
    have e4 : ∀ x : Nat, x &&& 3 = x % 4 := fun x => Nat.and_two_pow_sub_one_eq_mod x 2
    rw [BitVec.toNat_and, e3, e4]
    exact wrapi64_nat _ (by omega)
  obtain ⟨k, hk, hb⟩ := hb
  refine ⟨k, hk, fun w => ?_⟩
  go_enter Tryd.func17, Tryd.ntmps17
  go_wp2
  go_ret
  exact ⟨rfl, rfl⟩
theorem loadAt_sl {w : World} {z o : Nat} {ao : Option Addr} {l c : Nat} (hc : w.cell? ⟨z, o, none⟩ = some (.slice ao l c)) : (Instr.loadAt 22 (.pointer (some ⟨z, o, none⟩))).run Tryd.prog w = .ok (.slice ao l c) w := by
  have := Tryd.underlying22
  simp [Instr.loadAt, Instr.sureAddr, go_sem, hc, this]
theorem infoStep : (Tryd.prog.info? 41).map (·.size) = some 4 := by kernel_rfl
def datL (ss : List StepR) : List (List UInt8) := ss.map (·.dat)
set_option maxRecDepth 40000 in
set_option maxHeartbeats 4000000 in
theorem script_any (w : World) (hT : Tabs w) (ap : Option Addr) (n c : Nat) (ss : List StepR) (hn : n = ss.length) (hP : Scr w ap ss) (hnl : n ≤ 5864062014806) (hps : ∀ p ∈ ss, p.dat.length ≤ 140737488355328) : Calls Tryd.prog 5 #[.slice ap n c] w fun e w' => e = .returned (.bool true) ∧ Below w.heap.size w w' := by
  have hz4 := zero_four
  have hz5 := zero_nil4
  have hz3 := hT.sz
  have HP := hide hP
  have HT := hide hT
  have HN := hide hn
  have HPS := hide hps
  clear hP hT hn hps
  go_enter Tryd.func5, Tryd.ntmps5
  go_wp2
  go_loopw [3, 4] (fun t i wr => ∃ k : Nat, i = .int .i64 k ∧ k ≤ n ∧ t = .int .i64 (joinTo (datL ss) k).length ∧ (joinTo (datL ss) k).length ≤ 1048576 ∧ wr = w) (fun _ i _ => n - (intOf i).toNat)
  case atStart => exact ⟨0, rfl, by omega, rfl, by rw [joinTo_zero]; decide, rfl⟩
  case round =>
    obtain ⟨k, rfl, hk, rfl, ht, rfl⟩ := hrel
    by_cases hlt : k < n
    · have hkp : k < ss.length := by rw [← HN.out]; exact hlt
      obtain ⟨b, o, ao, c2, rfl, hl63, hblt, hpart⟩ := HP.out.part k hkp
      have hc := (hpart wr (Below.refl _ _)).1 3 _ rfl
      have hlp := HPS.out ss[k] (List.getElem_mem _)
      have hnx : (joinTo (datL ss) (k + 1)).length = (joinTo (datL ss) k).length + ss[k].dat.length := by rw [joinTo_succ (datL ss) k (by simpa [datL] using hkp), List.length_append]; simp [datL]
      obtain ⟨m, hm⟩ : ∃ m, m = ss[k].dat.length := ⟨_, rfl⟩
      obtain ⟨t, htt⟩ : ∃ t, t = (joinTo (datL ss) k).length := ⟨_, rfl⟩
      obtain ⟨t2, htt2⟩ : ∃ t2, t2 = (joinTo (datL ss) (k + 1)).length := ⟨_, rfl⟩
      rw [← hm] at hc hlp hl63 hnx
      rw [← htt] at ht hnx ⊢
      rw [← htt2] at hnx
      have HT2 := hide htt2
      have he : (t : Int) + m = t2 := by omega
      clear hpart hm htt htt2 hblt hkp
      have hw2 : IntKind.i64.wrap ((t : Int) + m) = (t2 : Int) := by rw [he]; exact wrapi64_nat t2 (by omega)
      have ht2u : t2 ≤ 140737489403904 := by omega
      clear hnx he
      by_cases hbig : t2 ≤ 1048576
      · have hb2 : ¬ (1048576 : Int) < (t2 : Int) := by omega
        go_wp2
        refine ⟨⟨k + 1, by go_num, by omega, by rw [HT2.out], by rw [← HT2.out]; exact hbig, by trivial⟩, by simp [intOf]; omega⟩
      · have hb2 : (1048576 : Int) < (t2 : Int) := by omega
        go_wp2_with fail
        refine (lives_any wr HT.out).mono ?_
        rintro e w1 ⟨rfl, hb1⟩
        go_wp2
        go_ret
        exact ⟨rfl, hb1⟩
    · have hn2 : ¬ (k : Int) < n := by omega
      have hkn : k = n := by omega
      have HJ : Hid ((joinTo (datL ss) n).length ≤ 1048576) := by rw [← hkn]; exact ht
      obtain ⟨t, htt⟩ : ∃ t, t = (joinTo (datL ss) k).length := ⟨_, rfl⟩
      rw [← htt] at ht ⊢
      clear htt hlt hkn hk
      go_wp2
      have HPC := hide (Sc.start wr)
      obtain ⟨zh, hzh⟩ : ∃ zh, zh = wr.heap.size := ⟨_, rfl⟩
      rw [← hzh] at HPC hz3 ⊢
      have HZH := hide hzh
      clear hzh
      obtain ⟨w, hw0⟩ : ∃ w0, w0 = wr := ⟨_, rfl⟩
      rw [← hw0] at HP HT HPC HZH ⊢
      have HW0 := hide hw0
      clear hw0
      go_loopw [7] (fun i wl => ∃ (k N : Nat) (ds : List (List UInt8)), i = .int .i64 k ∧ k ≤ n ∧ (∀ j, j < 4 → (ds.getD j []).length ≤ (joinTo (datL ss) k).length) ∧ Sc w wl zh (zh + 1) (zh + 2) N ds ds) (fun i _ => n - (intOf i).toNat)
      case atStart => exact ⟨0, _, four0, rfl, by omega, fun j hj => by rcases j with _ | _ | _ | _ | j <;> simp [four0] <;> omega, HPC.out⟩
      case round =>
        clear HPC
        obtain ⟨i, N, ds, rfl, hi, hdl, hp⟩ := hrel
        obtain ⟨wl, hwl⟩ : ∃ w0, w0 = wr := ⟨_, rfl⟩
        rw [← hwl] at hp ⊢
        clear hwl
        have HDL := hide hdl
        have DSL := hide hp.dl
        have HPc := hide hp
        clear hdl hp
        by_cases hil : i < n
        · have hip : i < ss.length := by rw [← HN.out]; exact hil
          obtain ⟨b, o, ao, c2, rfl, hl63, hblt, hpart⟩ := HP.out.part i hip
          have hnx : joinTo (datL ss) (i + 1) = joinTo (datL ss) i ++ ss[i].dat := by rw [joinTo_succ (datL ss) i (by simpa [datL] using hip)]; simp [datL]
          have hjn : (joinTo (datL ss) (i + 1)).length ≤ 1048576 := Nat.le_trans (joinTo_mono (datL ss) (i + 1) n (by omega)) HJ.out
          have hjl : (joinTo (datL ss) (i + 1)).length = (joinTo (datL ss) i).length + ss[i].dat.length := by rw [hnx, List.length_append]
          obtain ⟨x, hx⟩ : ∃ x, x = ss[i] := ⟨_, rfl⟩
          rw [← hx] at hl63 hblt hpart hnx hjl
          obtain ⟨d, a, f, dat⟩ := x
          obtain ⟨m, hm⟩ : ∃ m, m = dat.length := ⟨_, rfl⟩
          have hblt' : ∀ b' o', ao = some ⟨b', o', none⟩ → 0 < dat.length → b' < w.heap.size := hblt
          have HPT : Hid (∀ W, Below w.heap.size w W → W.rangeAt b (o + i * 4) [.int .i64 d, .int .i64 a, .int .i64 f, .slice ao m c2] ∧ RdA W (.slice ao m c2) dat) := hide (by rw [hm]; exact hpart)
          have HBL := hide hblt'
          have HNX : Hid (joinTo (datL ss) (i + 1) = joinTo (datL ss) i ++ dat) := hide hnx
          have HM := hide hm
          have HJL : Hid ((joinTo (datL ss) (i + 1)).length = (joinTo (datL ss) i).length + m) := hide (by rw [hm]; exact hjl)
          have HJN := hide hjn
          have hm20 : m ≤ 1048576 := by have := HJL.out; omega
          have r0 : wl.cell? ⟨b, o + i * 4, none⟩ = some (.int .i64 d) := (HPT.out wl HPc.out.bel).1 0 _ rfl
          have r1 : wl.cell? ⟨b, o + i * 4 + 1, none⟩ = some (.int .i64 a) := (HPT.out wl HPc.out.bel).1 1 _ rfl
          have r2 : wl.cell? ⟨b, o + i * 4 + 2, none⟩ = some (.int .i64 f) := (HPT.out wl HPc.out.bel).1 2 _ rfl
          have r3 : wl.cell? ⟨b, o + i * 4 + 3, none⟩ = some (.slice ao m c2) := (HPT.out wl HPc.out.bel).1 3 _ rfl
          have HBM := hide (Blk.made wl #[.int .i64 0, .int .i64 0, .int .i64 0, .slice none 0 0] 41)
          obtain ⟨p, hp4, hF⟩ := four_any a
          clear hl63 hblt hblt' hpart hnx hjn hjl hx hm hip
          go_wp2_with fail
          refine (hF _).mono ?_
          rintro e w1' ⟨rfl, rfl⟩
          have hb1 : Below wl.heap.size wl (wl.alloc (.cells #[.int .i64 d, .int .i64 a, .int .i64 f, .slice ao m c2] 41)) := (Below.refl _ _).alloc (Nat.le_refl _) _
          have HX1 := hide (Blk.made wl #[.int .i64 d, .int .i64 a, .int .i64 f, .slice ao m c2] 41)
          have hs1 : (wl.alloc (.cells #[.int .i64 d, .int .i64 a, .int .i64 f, .slice ao m c2] 41)).heap.size = wl.heap.size + 1 := by simp
          obtain ⟨zx, hzx⟩ : ∃ zx, zx = wl.heap.size := ⟨_, rfl⟩
          rw [← hzx] at HX1 hs1 ⊢
          generalize hw1 : wl.alloc (.cells #[.int .i64 d, .int .i64 a, .int .i64 f, .slice ao m c2] 41) = w1 at hb1 HX1 hs1 ⊢
          have HP1 : Hid (Sc w w1 zh (zh + 1) (zh + 2) (zx + 1) ds ds) := hide ((HPc.out.below hb1).up (by rw [hzx]; have := HPc.out.hN; omega) (by omega))
          have hzN : N ≤ zx := by rw [hzx]; exact HPc.out.hN
          have hzx2 : zh + 1 < zx := by have := HPc.out.z2; have := HPc.out.hB; omega
          clear hb1 hw1 hzx r0 r1 r2 r3 HPc
          have x0 : w1.cell? ⟨zx, 0, none⟩ = some (.int .i64 d) := by rw [HX1.out.cell]; rfl
          have HR1 := hide (HPT.out w1 HP1.out.bel).2
          by_cases hd0 : d = 0
          · subst hd0
            have x3 : w1.cell? ⟨zx, 3, none⟩ = some (.slice ao m c2) := by rw [HX1.out.cell]; rfl
            go_wp2_with fail
            refine (lent_any w1 _ dat HR1.out (by rw [← HM.out]; omega)).mono ?_
            rintro e w2 ⟨g, cap, rfl, hO2, hcl, hcap, hb2⟩
            rw [← HM.out] at hcl ⊢
            have hg2 : zx + 1 ≤ g := by have := (owns_lt hO2 g rfl).1; omega
            have HP2 := hide (HP1.out.below hb2)
            have HX2 := hide (HX1.out.below hb2 HX1.out.lt)
            have HO2 : Hid (OwnsB w2 (zx + 1) (.slice (some ⟨g, 0, none⟩) (m + 80) cap) (padL dat 80)) := hide (by rw [HM.out, ← hs1]; exact hO2)
            have HPD : Hid (RdA w2 (.slice (some ⟨g, 0, none⟩) m cap) dat) := hide (by rw [HM.out]; exact RdA.pad hO2 (by rw [← HM.out]; exact hcl) hcap)
            clear hO2 hb2 x0 x3 HR1 HX1 HP1 hs1
            obtain ⟨pre, post, hpre, hHO, hset⟩ := HP2.out.h.at p hp4
            obtain ⟨bs, hbs⟩ : ∃ bs, bs = ds.getD p [] := ⟨_, rfl⟩
            have HBS := hide hbs
            have hbl : bs.length ≤ 1048576 := by rw [hbs]; have := HDL.out p hp4; have := HJL.out; have := HJN.out; omega
            rw [← hbs] at hHO
            have HWR : Hid (Calls Tryd.prog 18 #[.pointer (some ⟨zh, p * 74, none⟩), .slice (some ⟨g, 0, none⟩) m cap] w2 (WriteC w2 zh 46 pre post (bs ++ dat))) := hide (by
              rw [← hpre]
              exact write_any w2 (HT.out.below HP2.out.bel) zh hz3 46 pre post bs dat hHO _ HPD.out (fun b' o' l c' e hp => by
                have e1 := ((Value.slice.injEq ..).mp e).1
                have := congrArg Addr.block (Option.some.inj e1)
                simp at this
                omega) (by rw [← HM.out]; omega))
            have HSET := hide hset
            clear hpre hHO hset hbs
            go_wp2_with fail
            refine HWR.out.mono ?_
            rintro e w3 ⟨rfl, hO3, hg3⟩
            have HP3 := hide (HP2.out.write (HSET.out _ _ hO3) hg3)
            have HX3 := hide (HX2.out.grown hg3 (fun e => by have := Option.some.inj e; omega))
            have HO3 : Hid (OwnsB w3 (zx + 1) (.slice (some ⟨g, 0, none⟩) (m + 80) cap) (padL dat 80)) := hide (owns_grown HO2.out hg3 (fun g' e e2 => by have := (owns_lt HO2.out g' e).1; have := Option.some.inj e2; omega))
            have HR3 := hide (HPT.out w3 HP3.out.bel).2
            have x3 : w3.cell? ⟨zx, 3, none⟩ = some (.slice ao m c2) := by rw [HX3.out.cell]; rfl
            have HLF : Hid (Calls Tryd.prog 11 #[.slice (some ⟨g, 0, none⟩) m cap, .slice ao m c2] w3 fun e w' => e = .returned (.bool true) ∧ Below w3.heap.size w3 w') := hide (by
              have := left_any w3 (zx + 1) g cap (.slice ao m c2) dat (by rw [← HM.out]; exact HO3.out) (by rw [← HM.out]; exact hcl) hcap HR3.out
              rw [← HM.out] at this
              exact this)
            clear hO3 hg3 HP2 HX2 HO2 HPD HWR HSET
            go_wp2_with fail
            refine HLF.out.mono ?_
            rintro e w4 ⟨rfl, hb4⟩
            have HP4 := hide (HP3.out.below hb4)
            have HX4 := hide (HX3.out.below hb4 HX3.out.lt)
            have HO4 : Hid (OwnsB w4 (zx + 1) (.slice (some ⟨g, 0, none⟩) (m + 80) cap) (padL dat 80)) := hide (owns_below HO3.out hb4)
            have hpl : (padL dat 80).length = m + 80 := by rw [padL_len, ← HM.out]
            clear HP3 HX3 HO3 HR3 x3 HLF hb4
            go_wp2
            go_loopw [11] (fun j wq => ∃ (q : Nat) (zs : List UInt8), j = .int .i64 q ∧ q ≤ m ∧ zs.length = m + 80 ∧ OwnsB wq (zx + 1) (.slice (some ⟨g, 0, none⟩) (m + 80) cap) zs ∧ Blk wq zx #[.int .i64 0, .int .i64 a, .int .i64 f, .slice ao m c2] 41 ∧ Sc w wq zh (zh + 1) (zh + 2) (zx + 1) (ds.set p (bs ++ dat)) ds) (fun j _ => m - (intOf j).toNat)
            case atStart => exact ⟨0, _, rfl, by omega, hpl, HO4.out, HX4.out, HP4.out⟩
            case round =>
              clear hpl HO4 HX4 HP4
              obtain ⟨q, zs, rfl, hq, hzl, hO, hX, hp⟩ := hrel
              obtain ⟨wq, hwq⟩ : ∃ w0, w0 = wr := ⟨_, rfl⟩
              rw [← hwq] at hO hX hp ⊢
              clear hwq
              by_cases hlt : q < m
              · obtain ⟨c1, c3, _⟩ := hO.at q (by omega)
                have HSET := hide (hO.set q 90)
                have HPQ := hide (hp.fresh (grownBy_set wq g q (.int .u8 90)) hg2)
                have HXQ := hide (hX.setOther ⟨g, q, none⟩ (.int .u8 90) (by show zx ≠ g; omega))
                clear hO hX hp
                go_wp2
                exact ⟨⟨q + 1, zs.set q 90, by go_num, by omega, by rw [List.length_set]; exact hzl, HSET.out, HXQ.out, HPQ.out⟩, by simp [intOf]; omega⟩
              · have hn3 : ¬ (q : Int) < m := by omega
                have HX5 := hide hX
                have HP5 := hide hp
                clear hO hX hp hlt hq
                obtain ⟨bo, bc, hck, hfk, hrk, hlk⟩ := HP5.out.took p hp4
                rw [← HBS.out] at hck hrk hlk
                obtain ⟨l, hll⟩ : ∃ l, l = bs.length := ⟨_, rfl⟩
                rw [← hll] at hck hrk hlk hbl
                have HLL := hide hll
                have HRK := hide hrk
                have HOn : Hid (OwnsB wq (zx + 1) (.slice none 0 0) []) := hide (World.ownsRow_nil _ _ _ _)
                clear hrk hlk hll
                go_wp2_with (at_builtin; refine wpList_append_rdX rfl _ _ rfl (zx + 1) _ _ [] bs rfl HOn.out rfl HRK.out ?ea ?eb ?_)
                case ea => rw [← HLL.out]; omega
                case eb => exact HP5.out.hN
                intro va w6 HO6 HG6 HW6
                have HP6 := hide (HP5.out.row HOn.out HG6.out)
                have HX6 := hide (HX5.out.grown HG6.out (by simp [Value.ownBlock]))
                have HR6 := hide (HPT.out w6 HP6.out.bel).2
                have x3 : w6.cell? ⟨zx, 3, none⟩ = some (.slice ao m c2) := by rw [HX6.out.cell]; rfl
                obtain ⟨av, cv, hva, _⟩ := own_formB HO6.out
                rw [← HLL.out] at hva
                subst hva
                clear HG6 HW6 HOn HRK HP5 HX5 hck hfk
                go_wp2_with (at_builtin; refine wpList_append_rdX rfl _ _ rfl (zx + 1) _ _ bs dat rfl HO6.out rfl HR6.out ?fa ?fb ?_)
                case fa => rw [← HLL.out, ← HM.out]; omega
                case fb => exact HP6.out.hN
                intro vb w7 HO7 HG7 HW7
                have HP7 := hide (HP6.out.row HO6.out HG7.out)
                obtain ⟨_, _, ck, fk, _, _⟩ := HP7.out.took p hp4
                have HN7 : Hid (Sc w w7 zh (zh + 1) (zh + 2) w7.heap.size (ds.set p (bs ++ dat)) ds) := hide (HP7.out.up HP7.out.hN (Nat.le_refl _))
                have HPT7 := hide (HN7.out.put p hp4 vb (bs ++ dat) (.inl (Rd_owned HO7.out)) (fun b' o' l' c' e hc => by
                  have e2 : vb.ownBlock = some b' := by rw [e]; rfl
                  have := owns_lt HO7.out b' e2
                  omega))
                obtain ⟨av2, cv2, hvb, _⟩ := own_formB HO7.out
                subst hvb
                clear HG7 HW7 HO6 HO7 HP6 HP7 HN7 HR6 HX6 x3
                go_wp2
                have hp8 := HPT7.out
                rw [List.length_append] at hp8
                refine ⟨⟨i + 1, _, _, by go_num, by omega, fun j hj => ?_, hp8⟩, by simp [intOf]; omega⟩
                rw [getD_set ds p j _ [] (by rw [DSL.out]; exact hp4)]
                have h1 := HDL.out j hj
                have h2 := HDL.out p hp4
                have h3 := HJL.out
                rw [← HBS.out] at h2
                split
                · rw [List.length_append, ← HM.out]; omega
                · omega
          · have e0 : (d == 0) = false := by simpa using hd0
            have hJ2 : ∀ j, j < 4 → (ds.getD j []).length ≤ (joinTo (datL ss) (i + 1)).length := fun j hj => by have := HDL.out j hj; have := HJL.out; omega
            have HD2 := hide hJ2
            have HTK := hide (fun j hj => HP1.out.took j hj)
            clear hJ2
            by_cases hd1 : d = 1
            · subst hd1
              obtain ⟨bo, bc, hck, _, hrk, _⟩ := HP1.out.took p hp4
              obtain ⟨bs, hbs⟩ : ∃ bs, bs = ds.getD p [] := ⟨_, rfl⟩
              have HBS := hide hbs
              have hbl : bs.length ≤ 1048576 := by rw [hbs]; have := HDL.out p hp4; have := HJL.out; have := HJN.out; omega
              rw [← hbs] at hck hrk
              obtain ⟨l, hll⟩ : ∃ l, l = bs.length := ⟨_, rfl⟩
              rw [← hll] at hck hrk hbl
              have HLL := hide hll
              have HRK := hide hrk
              clear hbs hrk hll HTK
              go_wp2_with fail
              refine (rsum_any w1 (HT.out.below HP1.out.bel) _ bs HRK.out (by rw [← HLL.out]; omega)).mono ?_
              rintro e w2 ⟨rfl, hb2⟩
              have HP2 := hide (HP1.out.below hb2)
              have HKL := hide (shaOf_len bs)
              obtain ⟨ks, hks⟩ : ∃ ks, ks = shaOf bs := ⟨_, rfl⟩
              rw [← hks] at HKL ⊢
              have HKS := hide hks
              clear hks hb2 HP1 HX1 HR1 hs1 x0 hck HRK
              go_wp2_with ((with_reducible refine wpList_put_key ?_ (.tmp 13) (.tmp 89) ?_ w2.heap.size ?_ w2 ?_ ?_ ks HKL.out ?_ ?_); rfl; rfl; rfl; rfl; rfl; rfl; intro w3 HK3 hb3)
              have HP3 := hide (HP2.out.below hb3)
              obtain ⟨pre, post, hpre, hHO, _⟩ := HP3.out.h.at p hp4
              rw [← HBS.out] at hHO
              have HSS : Hid (∀ d os, Calls Tryd.prog 19 #[.pointer (some ⟨zh, p * 74, none⟩)] (Sort.grow (redrawn w3 d) os) fun e w' => e = .returned (keyV ks) ∧ Below (Sort.grow (redrawn w3 d) os).heap.size (Sort.grow (redrawn w3 d) os) w') := hide (fun d os => by
                rw [← hpre, HKS.out]
                exact hsum_any (Sort.grow (redrawn w3 d) os) ((HT.out.below HP3.out.bel).below (below_regrown w3 d os)) zh 46 pre post bs (hof_below hHO (below_regrown w3 d os)) (by rw [← HLL.out]; omega))
              have HML := hide (fun d os => (HK3.out.below (below_regrown w3 d os)).load)
              clear hpre hHO HK3 hb3 HP2
              have hg1 := keyGuard .neq ks
              have hn1 := keyNeq ks HKL.out
              have hpi : (p : Int) < 4 := by omega
              refine wp_region_quiet_below (by kernel_rfl) (by kernel_rfl) ?_
              quiet_step (fail)
              quiet_step (fail)
              quiet_step (exact Calls.regrown_of (HSS.out _ _))
              refine wpQuiet_val (keyV ks) rfl (fun w hw => ?_) ?_
              · obtain ⟨p, rfl⟩ := hw
                exact run_load rfl rfl (HML.out _ _)
              quiet_step (fail)
              refine wpQuiet_nil ?_
              intro _ hw'
              obtain ⟨⟨dq, osq⟩, hw''⟩ := hw'
              subst hw''
              have HP4 := hide (HP3.out.below (below_regrown w3 dq osq))
              clear HSS HML HP3 hg1 hn1
              go_wp2
              exact ⟨⟨i + 1, _, _, by go_num, by omega, HD2.out, HP4.out⟩, by simp [intOf]; omega⟩
            · have e1 : (d == 1) = false := by simpa using hd1
              by_cases hd2 : d = 2
              · subst hd2
                obtain ⟨bs, hbs⟩ : ∃ bs, bs = ds.getD p [] := ⟨_, rfl⟩
                have HBS := hide hbs
                have hbl : bs.length ≤ 1048576 := by rw [hbs]; have := HDL.out p hp4; have := HJL.out; have := HJN.out; omega
                obtain ⟨bo, bc, hck, _, _, _⟩ := HP1.out.took p hp4
                rw [← hbs] at hck
                have hckl := block_lt_of_cell hck
                obtain ⟨l, hll⟩ : ∃ l, l = bs.length := ⟨_, rfl⟩
                rw [← hll] at hck hbl
                have HLL := hide hll
                obtain ⟨pre, post, hpre, hHO, _⟩ := HP1.out.h.at p hp4
                rw [← hbs] at hHO
                have HLN : Hid (∀ d os, Calls Tryd.prog 20 #[.pointer (some ⟨zh, p * 74, none⟩)] (Sort.grow (redrawn w1 d) os) fun e w' => e = .returned (.int .u64 l) ∧ Below (Sort.grow (redrawn w1 d) os).heap.size (Sort.grow (redrawn w1 d) os) w') := hide (fun d os => by
                  rw [← hpre, HLL.out]
                  exact len_below (Sort.grow (redrawn w1 d) os) zh 46 pre post bs (hof_below hHO (below_regrown w1 d os)))
                have HML := hide (fun d os => loadAt_sl (((below_regrown w1 d os).cell hckl).trans hck))
                have hwu := wrap64_nat l (by omega)
                clear hbs hck hckl hll hpre hHO HTK
                go_wp2_with fail
                have hpi : (p : Int) < 4 := by omega
                refine wp_region_quiet_below (by kernel_rfl) (by kernel_rfl) ?_
                quiet_step (fail)
                quiet_step (fail)
                quiet_step (exact Calls.regrown_of (HLN.out _ _))
                quiet_step (fail)
                quiet_step (fail)
                refine wpQuiet_val (.slice bo l bc) rfl (fun w hw => ?_) ?_
                · obtain ⟨p, rfl⟩ := hw
                  exact run_load rfl rfl (HML.out _ _)
                quiet_step (fail)
                quiet_step (fail)
                quiet_step (fail)
                refine wpQuiet_nil ?_
                intro _ hw'
                obtain ⟨⟨dq, osq⟩, hw''⟩ := hw'
                subst hw''
                have HP4 := hide (HP1.out.below (below_regrown w1 dq osq))
                clear HLN HML HP1 HX1
                go_wp2
                exact ⟨⟨i + 1, _, _, by go_num, by omega, HD2.out, HP4.out⟩, by simp [intOf]; omega⟩
              · have e2 : (d == 2) = false := by simpa using hd2
                by_cases hd3 : d = 3
                · subst hd3
                  have x2 : w1.cell? ⟨zx, 2, none⟩ = some (.int .i64 f) := by rw [HX1.out.cell]; rfl
                  obtain ⟨q, hq4, hG⟩ := four_any f
                  obtain ⟨L, hLi, hLr⟩ := HP1.out.h.cells q hq4
                  obtain ⟨hth, hHs, hHg⟩ := HP1.out.h.lay p hp4 L _ hLi
                  have HP2 := hide (HP1.out.write hHs hHg)
                  have HLL := hide hLi.len
                  have HL1 := hide (all_oneCell_toArray hLi.one)
                  have HLI : Hid ((Tryd.prog.info? 45).map (·.size) = some L.toArray.size) := hide (by rw [show L.toArray.size = 74 by simpa using hLi.len]; exact infoHas)
                  have HLR := hide hLr
                  have HTH := hide hth
                  obtain ⟨bo, bc, hck, hfk, hrk, hlk⟩ := HP2.out.took q hq4
                  obtain ⟨_, _, hck2, hfk2, _, _⟩ := HP2.out.took p hp4
                  have HP3 := hide (HP2.out.put p hp4 _ _ hrk hlk)
                  obtain ⟨l, hll⟩ : ∃ l, l = (ds.getD q []).length := ⟨_, rfl⟩
                  rw [← hll] at hck HP3
                  clear hLi hLr hth hHs hHg hrk hlk hll HTK
                  go_wp2_with fail
                  refine (hG _).mono ?_
                  rintro e w1' ⟨rfl, rfl⟩
                  go_wp2_with (first | ((with_reducible refine wpList_load_mid ?_ 45 (.tmp 113) ?_ zh (q * 74) ?_ L _ HLR.out Tryd.underlying45 ?_ ?_ ?_); rfl; rfl; rfl; rfl; (rw [HLL.out]; exact infoHas)) | ((with_reducible refine wpList_store_mid ?_ 45 (.tmp 115) (.tmp 114) ?_ zh (p * 74) L.toArray ?_ ?_ HTH.out HLI.out HL1.out ?_); rfl; rfl; rfl; rfl))
                  refine ⟨⟨i + 1, _, _, by go_num, by omega, fun j hj => ?_, HP3.out⟩, by simp [intOf]; omega⟩
                  rw [getD_set ds p j _ [] (by rw [DSL.out]; exact hp4)]
                  have h1 := HD2.out j hj
                  have h2 := HD2.out q hq4
                  split
                  · exact h2
                  · exact h1
                · have e3 : (d == 3) = false := by simpa using hd3
                  by_cases hd4 : d = 4
                  · subst hd4
                    have hzv := zero_has
                    obtain ⟨hth, hHs, hHg⟩ := HP1.out.h.lay p hp4 zeroH.toList [] IsH.zero
                    have HP2 := hide (HP1.out.write hHs hHg)
                    have HL1 := hide (all_oneCell_toArray IsH.zero.one)
                    have HLI : Hid ((Tryd.prog.info? 45).map (·.size) = some zeroH.toList.toArray.size) := hide infoHas
                    have HTH := hide hth
                    obtain ⟨_, _, hck2, hfk2, _, _⟩ := HP2.out.took p hp4
                    have HP3 := hide (HP2.out.put p hp4 (.slice none 0 0) [] (.inl (Rd_none _)) (fun b o l c e => by cases e))
                    have HZL : Hid (zeroH.toList.toArray = zeroH) := hide rfl
                    rw [HZL.out] at HTH HL1 HLI
                    clear hth hHs hHg HTK
                    go_wp2_with ((with_reducible refine wpList_store_mid ?_ 45 (.tmp 125) (.tmp 124) ?_ zh (p * 74) zeroH ?_ ?_ HTH.out HLI.out HL1.out ?_); rfl; rfl; rfl; rfl)
                    refine ⟨⟨i + 1, _, _, by go_num, by omega, fun j hj => ?_, HP3.out⟩, by simp [intOf]; omega⟩
                    rw [getD_set ds p j _ [] (by rw [DSL.out]; exact hp4)]
                    have h1 := HD2.out j hj
                    split
                    · simp
                    · exact h1
                  · have e4 : (d == 4) = false := by simpa using hd4
                    clear HTK
                    go_wp2
                    exact ⟨⟨i + 1, _, _, by go_num, by omega, HD2.out, HP1.out⟩, by simp [intOf]; omega⟩
        · have hn3 : ¬ (i : Int) < n := by omega
          have hin : i = n := by omega
          have HBD : Hid (∀ j, j < 4 → (ds.getD j []).length ≤ 1048576) := hide (fun j hj => by have := HDL.out j hj; rw [hin] at this; exact Nat.le_trans this HJ.out)
          clear hin HDL hil hi
          go_wp2
          go_loopw [15] (fun j wq => ∃ (q N : Nat), j = .int .i64 q ∧ q ≤ 4 ∧ Sc w wq zh (zh + 1) (zh + 2) N ds ds) (fun j _ => 4 - (intOf j).toNat)
          case atStart => exact ⟨0, _, rfl, by omega, HPc.out⟩
          case round =>
            clear HPc
            obtain ⟨p, N2, rfl, hq, hp⟩ := hrel
            obtain ⟨wq, hwq⟩ : ∃ w0, w0 = wr := ⟨_, rfl⟩
            rw [← hwq] at hp ⊢
            clear hwq
            have HP1 := hide hp
            clear hp
            by_cases hp4 : p < 4
            · obtain ⟨bo, bc, hck, _, hrk, _⟩ := HP1.out.took p hp4
              obtain ⟨bs, hbs⟩ : ∃ bs, bs = ds.getD p [] := ⟨_, rfl⟩
              have HBS := hide hbs
              have hbl : bs.length ≤ 1048576 := by rw [hbs]; exact HBD.out p hp4
              rw [← hbs] at hck hrk
              obtain ⟨l, hll⟩ : ∃ l, l = bs.length := ⟨_, rfl⟩
              rw [← hll] at hck hrk hbl
              have HLL := hide hll
              have HRK := hide hrk
              have HCK := hide hck
              have hpi : (p : Int) < 4 := by omega
              clear hbs hrk hll
              go_wp2_with fail
              refine (rsum_any wq (HT.out.below HP1.out.bel) _ bs HRK.out (by rw [← HLL.out]; omega)).mono ?_
              rintro e w2 ⟨rfl, hb2⟩
              have HP2 := hide (HP1.out.below hb2)
              have HCK2 := hide ((hb2.cell (block_lt_of_cell HCK.out)).trans HCK.out)
              have HKL := hide (shaOf_len bs)
              obtain ⟨ks, hks⟩ : ∃ ks, ks = shaOf bs := ⟨_, rfl⟩
              rw [← hks] at HKL ⊢
              have HKS := hide hks
              clear hks hb2 HP1 hck HRK HCK
              go_wp2_with ((with_reducible refine wpList_put_key ?_ (.tmp 16) (.tmp 135) ?_ w2.heap.size ?_ w2 ?_ ?_ ks HKL.out ?_ ?_); rfl; rfl; rfl; rfl; rfl; rfl; intro w3 HK3 hb3)
              have HP3 := hide (HP2.out.below hb3)
              have hck3 := (hb3.cell (block_lt_of_cell HCK2.out)).trans HCK2.out
              obtain ⟨pre, post, hpre, hHO, _⟩ := HP3.out.h.at p hp4
              rw [← HBS.out] at hHO
              have HSS : Hid (∀ d os, Calls Tryd.prog 19 #[.pointer (some ⟨zh, p * 74, none⟩)] (Sort.grow (redrawn w3 d) os) fun e w' => e = .returned (keyV ks) ∧ Below (Sort.grow (redrawn w3 d) os).heap.size (Sort.grow (redrawn w3 d) os) w') := hide (fun d os => by
                rw [← hpre, HKS.out]
                exact hsum_any (Sort.grow (redrawn w3 d) os) ((HT.out.below HP3.out.bel).below (below_regrown w3 d os)) zh 46 pre post bs (hof_below hHO (below_regrown w3 d os)) (by rw [← HLL.out]; omega))
              have HLN : Hid (∀ d os, Calls Tryd.prog 20 #[.pointer (some ⟨zh, p * 74, none⟩)] (Sort.grow (redrawn w3 d) os) fun e w' => e = .returned (.int .u64 l) ∧ Below (Sort.grow (redrawn w3 d) os).heap.size (Sort.grow (redrawn w3 d) os) w') := hide (fun d os => by
                rw [← hpre, HLL.out]
                exact len_below (Sort.grow (redrawn w3 d) os) zh 46 pre post bs (hof_below hHO (below_regrown w3 d os)))
              have HML := hide (fun d os => (HK3.out.below (below_regrown w3 d os)).load)
              have HMS := hide (fun d os => loadAt_sl (((below_regrown w3 d os).cell (block_lt_of_cell hck3)).trans hck3))
              have hwu := wrap64_nat l (by omega)
              clear hpre hHO HK3 hb3 HP2 hck3 HCK2
              have hg1 := keyGuard .neq ks
              have hn1 := keyNeq ks HKL.out
              refine wp_region_quiet_below (by kernel_rfl) (by kernel_rfl) ?_
              quiet_step (fail)
              quiet_step (fail)
              quiet_step (exact Calls.regrown_of (HSS.out _ _))
              refine wpQuiet_val (keyV ks) rfl (fun w hw => ?_) ?_
              · obtain ⟨p, rfl⟩ := hw
                exact run_load rfl rfl (HML.out _ _)
              quiet_step (fail)
              quiet_step (fail)
              quiet_step (fail)
              quiet_step (fail)
              quiet_step (exact Calls.regrown_of (HSS.out _ _))
              refine wpQuiet_val (keyV ks) rfl (fun w hw => ?_) ?_
              · obtain ⟨p, rfl⟩ := hw
                exact run_load rfl rfl (HML.out _ _)
              quiet_step (fail)
              quiet_step (fail)
              quiet_step (fail)
              quiet_step (fail)
              quiet_step (fail)
              quiet_step (exact Calls.regrown_of (HLN.out _ _))
              quiet_step (fail)
              quiet_step (fail)
              refine wpQuiet_val (.slice bo l bc) rfl (fun w hw => ?_) ?_
              · obtain ⟨p, rfl⟩ := hw
                exact run_load rfl rfl (HMS.out _ _)
              quiet_step (fail)
              quiet_step (fail)
              quiet_step (fail)
              quiet_step (fail)
              refine wpQuiet_nil ?_
              intro _ hw'
              obtain ⟨⟨dq, osq⟩, hw''⟩ := hw'
              subst hw''
              have HP4 := hide (HP3.out.below (below_regrown w3 dq osq))
              clear HSS HML HMS HLN HP3 hg1 hn1
              go_wp2
              exact ⟨⟨p + 1, _, by go_num, by omega, HP4.out⟩, by simp [intOf]; omega⟩
            · have hn4 : ¬ (p : Int) < 4 := by omega
              go_wp2_with fail
              refine (lives_any wq (HT.out.below HP1.out.bel)).mono ?_
              rintro e w1 ⟨rfl, hb1⟩
              go_wp2
              go_ret
              refine ⟨rfl, ?_⟩
              rw [← HW0.out]
              exact HP1.out.bel.trans (hb1.mono HP1.out.bel.size)
end Go.Proofs.YtbohbkjkcpncfaaDoor
