/- ShaPieces, walked. -/
import Derived.Test.YtbohbkjkcpncfaaDoorSN2
namespace Go.Proofs.YtbohbkjkcpncfaaDoor
set_option linter.unusedVariables false
set_option linter.unusedSimpArgs false
open Go.RowKit

/-- A row of slices of bytes. -/
def Parts (w : World) (ap : Option Addr) (ps : List (List UInt8)) : Prop := ∀ i (h : i < ps.length), ∃ b o v, ap = some ⟨b, o, none⟩ ∧ w.cell? ⟨b, o + i, none⟩ = some v ∧ RdA w v ps[i]
theorem Parts.below {w w' : World} {ap : Option Addr} {ps : List (List UInt8)} (h : Parts w ap ps) (hb : Below w.heap.size w w') : Parts w' ap ps := by
  intro i hi
  obtain ⟨b, o, v, e, hc, hr⟩ := h i hi
  exact ⟨b, o, v, e, by rw [hb.cell (block_lt_of_cell hc)]; exact hc, hr.below hb⟩
/-- The first i parts, joined. -/
def joinTo (ps : List (List UInt8)) (i : Nat) : List UInt8 := (ps.take i).flatten
theorem joinTo_zero (ps : List (List UInt8)) : joinTo ps 0 = [] := rfl
theorem joinTo_succ (ps : List (List UInt8)) (i : Nat) (h : i < ps.length) : joinTo ps (i + 1) = joinTo ps i ++ ps[i] := by
  unfold joinTo
  rw [List.take_succ_eq_append_getElem h, List.flatten_append]; simp
theorem joinTo_mono (ps : List (List UInt8)) (i j : Nat) (h : i ≤ j) : (joinTo ps i).length ≤ (joinTo ps j).length := by
  unfold joinTo
  have : ps.take j = ps.take i ++ (ps.take j).drop i := by
    conv => lhs; rw [← List.take_append_drop i (ps.take j)]
    rw [List.take_take, Nat.min_eq_left h]
  rw [this, List.flatten_append, List.length_append]; omega
theorem len_below (w : World) (z : Nat) (t : TypeId) (pre post : List Value) (bs : List UInt8) (hH : HOf w z t pre post bs) : Calls Tryd.prog 20 #[.pointer (some ⟨z, pre.length, none⟩)] w fun e w' => e = .returned (.int .u64 bs.length) ∧ Below w.heap.size w w' :=
  (len_any w z t pre post bs hH).mono fun _ _ h => ⟨h.1, by rw [h.2]; exact Below.refl _ _⟩
/-- The two Hashers and the two rows. -/
structure Pc (w wr : World) (zh zf B : Nat) (va vo : Value) (hs fs ws os : List UInt8) : Prop where
  h : HOf wr zh 45 [] [] hs
  f : HOf wr zf 45 [] [] fs
  a : OwnsB wr B va ws
  o : OwnsB wr B vo os
  ne : ∀ g, va.ownBlock = some g → vo.ownBlock ≠ some g
  bel : Below w.heap.size w wr
  hB : B ≤ wr.heap.size
  z1 : zh < zf
  z2 : zf < B
  z0 : w.heap.size ≤ zh
theorem hof_grown {w w' : World} {z : Nat} {t : TypeId} {pre post : List Value} {bs : List UInt8} {row : Option Nat} (h : HOf w z t pre post bs) (hg : w.grownBy w' row) (hne : some z ≠ row) : HOf w' z t pre post bs := by
  obtain ⟨s, hB, hs⟩ := h
  exact ⟨s, hB.grown hg hne, hs⟩
theorem Pc.below {w wr w' : World} {zh zf B : Nat} {va vo : Value} {hs fs ws os : List UInt8} (p : Pc w wr zh zf B va vo hs fs ws os) (hb : Below wr.heap.size wr w') : Pc w w' zh zf B va vo hs fs ws os :=
  ⟨hof_below p.h hb, hof_below p.f hb, owns_below p.a hb, owns_below p.o hb, p.ne, p.bel.trans (hb.mono p.bel.size), Nat.le_trans p.hB hb.size, p.z1, p.z2, p.z0⟩
theorem Pc.writeH {w wr w' : World} {zh zf B : Nat} {va vo : Value} {hs fs ws os hs' : List UInt8} (p : Pc w wr zh zf B va vo hs fs ws os) (ho : HOf w' zh 45 [] [] hs') (hg : wr.grownBy w' (some zh)) : Pc w w' zh zf B va vo hs' fs ws os := by
  have z1 := p.z1; have z2 := p.z2
  exact ⟨ho, hof_grown p.f hg (fun e => by have := Option.some.inj e; omega), owns_grown p.a hg (fun g e e2 => by have := (owns_lt p.a g e).1; have := Option.some.inj e2; omega), owns_grown p.o hg (fun g e e2 => by have := (owns_lt p.o g e).1; have := Option.some.inj e2; omega), p.ne, p.bel.trans (below_grownBy hg p.z0 p.bel.size), Nat.le_trans p.hB hg.size, p.z1, p.z2, p.z0⟩
theorem Pc.writeF {w wr w' : World} {zh zf B : Nat} {va vo : Value} {hs fs ws os fs' : List UInt8} (p : Pc w wr zh zf B va vo hs fs ws os) (ho : HOf w' zf 45 [] [] fs') (hg : wr.grownBy w' (some zf)) : Pc w w' zh zf B va vo hs fs' ws os := by
  have z1 := p.z1; have z2 := p.z2; have z0 := p.z0
  exact ⟨hof_grown p.h hg (fun e => by have := Option.some.inj e; omega), ho, owns_grown p.a hg (fun g e e2 => by have := (owns_lt p.a g e).1; have := Option.some.inj e2; omega), owns_grown p.o hg (fun g e e2 => by have := (owns_lt p.o g e).1; have := Option.some.inj e2; omega), p.ne, p.bel.trans (below_grownBy hg (by omega) p.bel.size), Nat.le_trans p.hB hg.size, p.z1, p.z2, p.z0⟩
theorem Pc.rowA {w wr w' : World} {zh zf B : Nat} {va vo va' : Value} {hs fs ws os ws' : List UInt8} (p : Pc w wr zh zf B va vo hs fs ws os) (ho : OwnsB w' B va' ws') (hg : wr.grownBy w' va.ownBlock) (hl : va'.ownBlock = va.ownBlock ∨ va'.ownBlock = some wr.heap.size) : Pc w w' zh zf B va' vo hs fs ws' os := by
  have z1 := p.z1; have z2 := p.z2; have z0 := p.z0
  have hlow : ∀ z, z < B → some z ≠ va.ownBlock := fun z hz e => by have := (owns_lt p.a z e.symm).1; omega
  refine ⟨hof_grown p.h hg (hlow _ (by omega)), hof_grown p.f hg (hlow _ z2), ho, owns_grown p.o hg (fun g e e2 => p.ne g e2.symm e), fun g e e2 => ?_, own_below p.bel (own_base p.a (by omega)) p.bel.size hg, Nat.le_trans p.hB hg.size, p.z1, p.z2, p.z0⟩
  rcases hl with hl | hl
  · exact p.ne g (hl ▸ e) e2
  · rw [hl] at e
    have h1 := Option.some.inj e
    have h2 := (owns_lt p.o g e2).2
    omega
theorem Pc.rowO {w wr w' : World} {zh zf B : Nat} {va vo vo' : Value} {hs fs ws os os' : List UInt8} (p : Pc w wr zh zf B va vo hs fs ws os) (ho : OwnsB w' B vo' os') (hg : wr.grownBy w' vo.ownBlock) (hl : vo'.ownBlock = vo.ownBlock ∨ vo'.ownBlock = some wr.heap.size) : Pc w w' zh zf B va vo' hs fs ws os' := by
  have z1 := p.z1; have z2 := p.z2; have z0 := p.z0
  have hlow : ∀ z, z < B → some z ≠ vo.ownBlock := fun z hz e => by have := (owns_lt p.o z e.symm).1; omega
  refine ⟨hof_grown p.h hg (hlow _ (by omega)), hof_grown p.f hg (hlow _ z2), owns_grown p.a hg (fun g e e2 => p.ne g e e2.symm), ho, fun g e e2 => ?_, own_below p.bel (own_base p.o (by omega)) p.bel.size hg, Nat.le_trans p.hB hg.size, p.z1, p.z2, p.z0⟩
  rcases hl with hl | hl
  · exact p.ne g e (hl ▸ e2)
  · rw [hl] at e2
    have h1 := Option.some.inj e2
    have h2 := (owns_lt p.a g e).2
    omega
theorem Pc.start (w w1 : World) (hb : Below w.heap.size w w1) : Pc w ((w1.alloc (.cells zeroH 45)).alloc (.cells zeroH 45)) w1.heap.size (w1.heap.size + 1) (w1.heap.size + 2) (.slice none 0 0) (.slice none 0 0) [] [] [] [] :=
  ⟨hof_zero ((Blk.made w1 _ _).alloc _), hof_zero (blk_made1 w1 _ _ _ _), World.ownsRow_nil _ _ _ _, World.ownsRow_nil _ _ _ _, fun g e => by simp [Value.ownBlock] at e, (hb.alloc hb.size _).alloc (by have := hb.size; simp; omega) _, by simp, by omega, by omega, hb.size⟩
theorem hof_copy {w : World} {z : Nat} {bs : List UInt8} (h : HOf w z 45 [] [] bs) : ∃ L : List Value, L.length = 74 ∧ L.toArray.all (·.oneCell') = true ∧ w.rangeAt z 0 L ∧ Blk w z L.toArray 45 ∧ ∀ (w' : World) (z' : Nat), Blk w' z' L.toArray 45 → HOf w' z' 45 [] [] bs := by
  obtain ⟨s, hB, hs⟩ := h
  refine ⟨hlist (st8 s) (decide (64 ≤ bs.length)) (wait bs) bs.length, HB.len hB.sl hB.wl, all_oneCell_toArray (hlist_one hB.one _ _ _), hB.range, ?_, fun w' z' hk => ⟨s, ⟨?_, hB.sl, hB.wl, hB.one⟩, hs⟩⟩
  · have := hB.blk
    rwa [List.nil_append, List.append_nil] at this
  · rw [List.nil_append, List.append_nil]; exact hk
/-- What the fork holds ahead of round k: nothing up to the half, and then what stood there at the half. -/
def half (ps : List (List UInt8)) (n k : Nat) : List UInt8 := if k ≤ n / 2 then [] else joinTo ps (n / 2)
theorem half_at (ps : List (List UInt8)) (n i : Nat) (h : i = n / 2) : half ps n (i + 1) = joinTo ps i := by unfold half; rw [if_neg (by omega), h]
theorem half_off (ps : List (List UInt8)) (n i : Nat) (h : ¬ i = n / 2) : half ps n (i + 1) = half ps n i := by
  unfold half
  by_cases h2 : i ≤ n / 2
  · rw [if_pos h2, if_pos (by omega)]
  · rw [if_neg h2, if_neg (by omega)]
/-- A part, where it lies, in every world above. -/
theorem Parts.part {w : World} {ap : Option Addr} {ps : List (List UInt8)} (h : Parts w ap ps) (i : Nat) (hi : i < ps.length) : ∃ b o ao c, ap = some ⟨b, o, none⟩ ∧ ps[i].length ≤ 9223372036854775807 ∧ (∀ b' o', ao = some ⟨b', o', none⟩ → 0 < ps[i].length → b' < w.heap.size) ∧ ∀ W, Below w.heap.size w W → W.cell? ⟨b, o + i, none⟩ = some (.slice ao ps[i].length c) ∧ RdA W (.slice ao ps[i].length c) ps[i] := by
  obtain ⟨b, o, v, e, hc, hr⟩ := h i hi
  obtain ⟨ao, c, rfl, hl⟩ := hr.slice
  refine ⟨b, o, ao, c, e, hl, fun b' o' e2 hp => ?_, fun W hW => ⟨by rw [hW.cell (block_lt_of_cell hc)]; exact hc, hr.below hW⟩⟩
  subst e2
  exact hr.block hp b' o' _ _ rfl
set_option maxRecDepth 40000 in
set_option maxHeartbeats 4000000 in
theorem pieces_any (w : World) (hT : Tabs w) (ap : Option Addr) (n c : Nat) (ps : List (List UInt8)) (hn : n = ps.length) (hP : Parts w ap ps) (hnl : n ≤ 5864062014806) (hps : ∀ p ∈ ps, p.length ≤ 140737488355328) : Calls Tryd.prog 6 #[.slice ap n c] w fun e w' => e = .returned (.bool true) ∧ Below w.heap.size w w' := by
  have hzv := zero_has
  have hz3 := hT.sz
  have HP := hide hP
  have HT := hide hT
  have HN := hide hn
  have HPS := hide hps
  clear hP hT hn hps
  go_enter Tryd.func6, Tryd.ntmps6
  go_wp2_with fail
  refine (lives_any w HT.out).mono ?_
  rintro e w1 ⟨rfl, hb1⟩
  have HP1 := hide (HP.out.below hb1)
  go_wp2
  go_loopw [3, 4] (fun t i wr => ∃ k : Nat, i = .int .i64 k ∧ k ≤ n ∧ t = .int .i64 (joinTo ps k).length ∧ (joinTo ps k).length ≤ 1048576 ∧ wr = w1) (fun _ i _ => n - (intOf i).toNat)
  case atStart => exact ⟨0, rfl, by omega, rfl, by rw [joinTo_zero]; decide, rfl⟩
  case round =>
    obtain ⟨k, rfl, hk, rfl, ht, rfl⟩ := hrel
    by_cases hlt : k < n
    · have hkp : k < ps.length := by rw [← HN.out]; exact hlt
      obtain ⟨b, o, v, rfl, hc, hr⟩ := HP1.out k hkp
      obtain ⟨ao, c2, rfl, hl63⟩ := hr.slice
      have hlp := HPS.out ps[k] (List.getElem_mem _)
      have hnx : (joinTo ps (k + 1)).length = (joinTo ps k).length + ps[k].length := by rw [joinTo_succ ps k hkp, List.length_append]
      obtain ⟨m, hm⟩ : ∃ m, m = ps[k].length := ⟨_, rfl⟩
      obtain ⟨t, htt⟩ : ∃ t, t = (joinTo ps k).length := ⟨_, rfl⟩
      obtain ⟨t2, htt2⟩ : ∃ t2, t2 = (joinTo ps (k + 1)).length := ⟨_, rfl⟩
      rw [← hm] at hc hlp hl63 hnx
      rw [← htt] at ht hnx ⊢
      rw [← htt2] at hnx
      have HT2 := hide htt2
      have he : (t : Int) + m = t2 := by omega
      clear hr hm htt htt2 hkp
      have hw2 : IntKind.i64.wrap ((t : Int) + m) = (t2 : Int) := by rw [he]; exact wrapi64_nat t2 (by omega)
      have ht2u : t2 ≤ 140737489403904 := by omega
      clear hnx he
      by_cases hbig : t2 ≤ 1048576
      · have hb2 : ¬ (1048576 : Int) < (t2 : Int) := by omega
        go_wp2
        refine ⟨⟨k + 1, by go_num, by omega, by rw [HT2.out], by rw [← HT2.out]; exact hbig, by trivial⟩, by simp [intOf]; omega⟩
      · have hb2 : (1048576 : Int) < (t2 : Int) := by omega
        go_wp2
        go_ret
        exact ⟨rfl, hb1⟩
    · have hn2 : ¬ (k : Int) < n := by omega
      have hkn : k = n := by omega
      have HJ : Hid ((joinTo ps n).length ≤ 1048576) := by rw [← hkn]; exact ht
      have HT1 := hide (HT.out.below hb1)
      obtain ⟨t, htt⟩ : ∃ t, t = (joinTo ps k).length := ⟨_, rfl⟩
      rw [← htt] at ht ⊢
      clear htt hlt hkn hk
      go_wp2
      have hPc := Pc.start w wr hb1
      obtain ⟨zh, hzh⟩ : ∃ zh, zh = wr.heap.size := ⟨_, rfl⟩
      rw [← hzh] at hPc ⊢
      have hzh3 : 3 ≤ zh := by have := hb1.size; omega
      have HPC := hide hPc
      clear hPc hzh
      go_loopw [5, 8, 9, 10] (fun t5 t8 t9 t10 wl => ∃ (va vo : Value) (k q : Nat), va = t8 ∧ vo = t9 ∧ t10 = .int .i64 k ∧ t5 = .int .i64 q ∧ k ≤ n ∧ q ≤ 1048640 * k ∧ Pc w wl zh (zh + 1) (zh + 2) va vo (joinTo ps k) (half ps n k) (joinTo ps k) (half ps n k)) (fun _ _ _ i _ => n - (intOf i).toNat)
      case atStart => exact ⟨_, _, 0, 0, rfl, rfl, rfl, rfl, by omega, by omega, HPC.out⟩
      case round =>
        clear HPC HP1 HT1
        obtain ⟨va, vo, i, q, rfl, rfl, rfl, rfl, hi, hq, hp⟩ := hrel
        obtain ⟨wl, hwl⟩ : ∃ w0, w0 = wr := ⟨_, rfl⟩
        rw [← hwl] at hp ⊢
        clear hwl
        by_cases hil : i < n
        · by_cases hh : i = n / 2
          · obtain ⟨L, hL74, hL1, hLr, _, hLn⟩ := hof_copy hp.h
            obtain ⟨old, hold, _, _, hoB, _⟩ := hof_copy hp.f
            have HRG : Hid (wl.rangeAt zh ([] : List Value).length L) := hide hLr
            have HLL := hide hL74
            have HLS := hide (show L.toArray.size = 74 by simpa using hL74)
            have HOS := hide (show old.toArray.size = 74 by simpa using hold)
            have HL1 := hide hL1
            have HLN := hide hLn
            have HOB := hide hoB
            have HPc := hide hp
            have hi2 : (n : Int) / 2 = (i : Int) := by omega
            have HH := hide hh
            have hjl : (joinTo ps i).length ≤ 1048576 := Nat.le_trans (joinTo_mono ps i n hi) HJ.out
            have hhl : half ps n i = [] := by unfold half; rw [if_pos (by omega)]
            have hi3 : (i : Int) < n := by omega
            obtain ⟨aa, ca, rfl, _⟩ := own_formB hp.a
            obtain ⟨ab, cb, rfl, _⟩ := own_formB hp.o
            have HHL := hide hhl
            have hhl0 : (half ps n i).length = 0 := by rw [hhl]; rfl
            obtain ⟨lw, hlw⟩ : ∃ lw, lw = (joinTo ps i).length := ⟨_, rfl⟩
            rw [← hlw] at hjl HPc ⊢
            rw [hhl0] at HPc ⊢
            have HLW := hide hlw
            clear hLr hL74 hold hL1 hLn hoB hp hh hhl hlw
            go_wp2_with (first | ((with_reducible refine wpList_load_has ?_ (.tmp 6) ?_ zh [] ?_ L HRG.out HLL.out ?_); rfl; rfl; rfl) | ((with_reducible refine wpList_store_blk ?_ 45 (.tmp 7) (.tmp 43) ?_ (zh + 1) 74 old.toArray L.toArray 45 HLS.out HOS.out ?_ ?_ HOB.out infoHas HL1.out ?_); rfl; rfl; rfl; rfl; intro w2 hk2 hg2; have HP2 := hide (HPc.out.writeF (HLN.out _ _ hk2) hg2)) | (at_builtin; refine wpList_append_rdX rfl _ _ rfl (zh + 2) _ _ (half ps n i) (joinTo ps i) rfl HP2.out.o rfl (.inl (Rd_owned HP2.out.a)) ?ea ?eb ?_))
            case ea => rw [HHL.out, ← HLW.out, List.length_nil]; omega
            case eb => exact HP2.out.hB
            intro vo' w3 HO3 HG3 HW3
            have HP3 : Hid (Pc w w3 zh (zh + 1) (zh + 2) (.slice aa lw ca) vo' (joinTo ps i) (half ps n (i + 1)) (joinTo ps i) (half ps n (i + 1))) := by
              have h := HP2.out.rowO HO3.out HG3.out HW3.out
              rw [half_at ps n i HH.out]
              rw [HHL.out, List.nil_append] at h
              exact h
            clear HO3 HG3 HW3 HP2 hk2 hg2 HOB HLN HL1 HOS HLS HLL HRG HPc
            obtain ⟨b, o, ao, c2, rfl, hm63, hmb, hpart⟩ := HP.out.part i (by rw [← HN.out]; exact hil)
            have hnx := joinTo_succ ps i (by rw [← HN.out]; exact hil)
            have hjn : (joinTo ps (i + 1)).length ≤ 1048576 := Nat.le_trans (joinTo_mono ps (i + 1) n (by omega)) HJ.out
            obtain ⟨x, hx⟩ : ∃ x, x = ps[i]'(by rw [← HN.out]; exact hil) := ⟨_, rfl⟩
            rw [← hx] at hm63 hmb hpart hnx
            have hll : (joinTo ps (i + 1)).length = lw + x.length := by rw [hnx, List.length_append, ← HLW.out]
            obtain ⟨m, hm⟩ : ∃ m, m = x.length := ⟨_, rfl⟩
            rw [← hm] at hm63 hmb hpart hll
            have HM := hide hm
            have HNX := hide hnx
            have HPT := hide hpart
            have hc3 := (hpart w3 HP3.out.bel).1
            have HWR : Hid (Calls Tryd.prog 18 #[.pointer (some ⟨zh, 0, none⟩), .slice ao m c2] w3 (WriteC w3 zh 45 [] [] (joinTo ps i ++ x))) :=
              hide (write_any w3 (HT.out.below HP3.out.bel) zh hzh3 45 [] [] (joinTo ps i) x HP3.out.h _ (hpart w3 HP3.out.bel).2 (fun b' o' l c' e hp => by
                have e1 := ((Value.slice.injEq ..).mp e).1
                have := hmb b' o' e1 (by rw [hm]; exact hp)
                have := HP3.out.z0
                omega) (by rw [← HLW.out, ← hm]; omega))
            have hmu : m ≤ 1048576 := by omega
            clear hx hnx hm hpart hmb
            go_wp2_with fail
            refine HWR.out.mono ?_
            rintro e w4 ⟨rfl, hO4, hg4⟩
            have HP4 := hide (HP3.out.writeH hO4 hg4)
            have hc4 := (HPT.out w4 HP4.out.bel).1
            have HR4 := hide (HPT.out w4 HP4.out.bel).2
            clear hc3 HWR hO4 hg4 HP3
            go_wp2_with (at_builtin; refine wpList_append_rdX rfl _ _ rfl (zh + 2) _ _ (joinTo ps i) x rfl HP4.out.a rfl HR4.out ?fa ?fb ?_)
            case fa => rw [← HLW.out, ← HM.out]; omega
            case fb => exact HP4.out.hB
            intro va' w5 HO5 HG5 HW5
            have HP5 := hide (HP4.out.rowA HO5.out HG5.out HW5.out)
            rw [← HNX.out] at HP5
            clear HO5 HG5 HW5 HP4 HR4 hc4
            obtain ⟨l2, hl2⟩ : ∃ l2, l2 = (joinTo ps (i + 1)).length := ⟨_, rfl⟩
            obtain ⟨ae, ce, hva, _⟩ := own_formB HP5.out.a
            rw [← hl2] at hva hjn hll
            subst hva
            have HL2 := hide hl2
            obtain ⟨q2, hq2⟩ : ∃ q2, q2 = q + (l2 + 64) := ⟨_, rfl⟩
            have hq2u : q2 ≤ 1048640 * (i + 1) := by omega
            have hq3 : q2 ≤ 9223372036854775807 := by omega
            have hw1 : IntKind.i64.wrap ((l2 : Int) + 64) = ((l2 + 64 : Nat) : Int) := wrapi64_nat (l2 + 64) (by omega)
            have hw2 : IntKind.i64.wrap ((q : Int) + ((l2 : Int) + 64)) = (q2 : Int) := by
              rw [show (q : Int) + ((l2 : Int) + 64) = ((q2 : Nat) : Int) by omega]; exact wrapi64_nat q2 (by omega)
            clear hl2 hll hw1 hq2
            by_cases hbig : 1048576 < q2
            · by_cases hlast : i < n - 1
              · have g1 : (1048576 : Int) < (q2 : Int) := by omega
                have g2 : (i : Int) < (n : Int) - 1 := by omega
                go_wp2
                refine ⟨⟨_, _, i + 1, q2, rfl, rfl, by go_num, rfl, by omega, hq2u, HP5.out⟩, by simp [intOf]; omega⟩
              · have g1 : (1048576 : Int) < (q2 : Int) := by omega
                have g2 : ¬ (i : Int) < (n : Int) - 1 := by omega
                go_wp2_with fail
                refine (ssum_any w5 (HT.out.below HP5.out.bel) _ (joinTo ps (i + 1)) (.inl (Rd_owned HP5.out.a)) (by rw [← HL2.out]; omega)).mono ?_
                rintro e w6 ⟨rfl, hb6⟩
                have HP6 := hide (HP5.out.below hb6)
                obtain ⟨ks, hks⟩ : ∃ ks, ks = shaOf (joinTo ps (i + 1)) := ⟨_, rfl⟩
                have HKL := hide (show ks.length = 32 by rw [hks]; exact shaOf_len _)
                have HKS := hide hks
                rw [← hks]
                clear hks HP5 hb6
                go_wp2_with ((with_reducible refine wpList_put_key ?_ (.tmp 11) (.tmp 73) ?_ w6.heap.size ?_ w6 ?_ ?_ ks HKL.out ?_ ?_); rfl; rfl; rfl; rfl; rfl; rfl; intro w7 HK7 hb7)
                have HP7 := hide (HP6.out.below hb7)
                have HSS := hide (fun d os => hsum_any (Sort.grow (redrawn w7 d) os) ((HT.out.below HP7.out.bel).below (below_regrown w7 d os)) zh 45 [] [] (joinTo ps (i + 1)) (hof_below HP7.out.h (below_regrown w7 d os)) (by rw [← HL2.out]; omega))
                have HML := hide (fun d os => (HK7.out.below (below_regrown w7 d os)).load)
                have HLN := hide (fun d os => len_below (Sort.grow (redrawn w7 d) os) zh 45 [] [] (joinTo ps (i + 1)) (hof_below HP7.out.h (below_regrown w7 d os)))
                rw [← HKS.out] at HSS
                rw [← HL2.out] at HLN
                clear HP6 hb7 HK7
                have hg1 := keyGuard .neq ks
                have hn1 := keyNeq ks HKL.out
                have hwu := wrap64_nat l2 (by omega)
                refine wp_region_quiet_below (by kernel_rfl) (by kernel_rfl) ?_
                quiet_step (exact Calls.regrown_of (HSS.out _ _))
                refine wpQuiet_val (keyV ks) rfl (fun w hw => ?_) ?_
                · obtain ⟨p, rfl⟩ := hw
                  exact run_load rfl rfl (HML.out _ _)
                quiet_step (fail)
                quiet_step (fail)
                quiet_step (exact Calls.regrown_of (HLN.out _ _))
                quiet_step (fail)
                quiet_step (fail)
                quiet_step (fail)
                quiet_step (fail)
                quiet_step (fail)
                refine wpQuiet_nil ?_
                intro _ hw'
                obtain ⟨⟨dq, osq⟩, hw''⟩ := hw'
                subst hw''
                have HP8 := hide (HP7.out.below (below_regrown w7 dq osq))
                clear HSS HML HLN HP7 hg1 hn1
                go_wp2
                refine ⟨⟨_, _, i + 1, q2, rfl, rfl, by go_num, rfl, by omega, hq2u, HP8.out⟩, by simp [intOf]; omega⟩
            · have g1 : ¬ (1048576 : Int) < (q2 : Int) := by omega
              go_wp2_with fail
              refine (ssum_any w5 (HT.out.below HP5.out.bel) _ (joinTo ps (i + 1)) (.inl (Rd_owned HP5.out.a)) (by rw [← HL2.out]; omega)).mono ?_
              rintro e w6 ⟨rfl, hb6⟩
              have HP6 := hide (HP5.out.below hb6)
              obtain ⟨ks, hks⟩ : ∃ ks, ks = shaOf (joinTo ps (i + 1)) := ⟨_, rfl⟩
              have HKL := hide (show ks.length = 32 by rw [hks]; exact shaOf_len _)
              have HKS := hide hks
              rw [← hks]
              clear hks HP5 hb6
              go_wp2_with ((with_reducible refine wpList_put_key ?_ (.tmp 11) (.tmp 73) ?_ w6.heap.size ?_ w6 ?_ ?_ ks HKL.out ?_ ?_); rfl; rfl; rfl; rfl; rfl; rfl; intro w7 HK7 hb7)
              have HP7 := hide (HP6.out.below hb7)
              have HSS := hide (fun d os => hsum_any (Sort.grow (redrawn w7 d) os) ((HT.out.below HP7.out.bel).below (below_regrown w7 d os)) zh 45 [] [] (joinTo ps (i + 1)) (hof_below HP7.out.h (below_regrown w7 d os)) (by rw [← HL2.out]; omega))
              have HML := hide (fun d os => (HK7.out.below (below_regrown w7 d os)).load)
              have HLN := hide (fun d os => len_below (Sort.grow (redrawn w7 d) os) zh 45 [] [] (joinTo ps (i + 1)) (hof_below HP7.out.h (below_regrown w7 d os)))
              rw [← HKS.out] at HSS
              rw [← HL2.out] at HLN
              clear HP6 hb7 HK7
              have hg1 := keyGuard .neq ks
              have hn1 := keyNeq ks HKL.out
              have hwu := wrap64_nat l2 (by omega)
              refine wp_region_quiet_below (by kernel_rfl) (by kernel_rfl) ?_
              quiet_step (exact Calls.regrown_of (HSS.out _ _))
              refine wpQuiet_val (keyV ks) rfl (fun w hw => ?_) ?_
              · obtain ⟨p, rfl⟩ := hw
                exact run_load rfl rfl (HML.out _ _)
              quiet_step (fail)
              quiet_step (fail)
              quiet_step (exact Calls.regrown_of (HLN.out _ _))
              quiet_step (fail)
              quiet_step (fail)
              quiet_step (fail)
              quiet_step (fail)
              quiet_step (fail)
              refine wpQuiet_nil ?_
              intro _ hw'
              obtain ⟨⟨dq, osq⟩, hw''⟩ := hw'
              subst hw''
              have HP8 := hide (HP7.out.below (below_regrown w7 dq osq))
              clear HSS HML HLN HP7 hg1 hn1
              go_wp2
              refine ⟨⟨_, _, i + 1, q2, rfl, rfl, by go_num, rfl, by omega, hq2u, HP8.out⟩, by simp [intOf]; omega⟩
          · have HP3 : Hid (Pc w wl zh (zh + 1) (zh + 2) va vo (joinTo ps i) (half ps n (i + 1)) (joinTo ps i) (half ps n (i + 1))) := by
              rw [half_off ps n i hh]; exact hp
            have hi2 : ¬ (i : Int) = (n : Int) / 2 := by omega
            have hi3 : (i : Int) < n := by omega
            have hjl : (joinTo ps i).length ≤ 1048576 := Nat.le_trans (joinTo_mono ps i n hi) HJ.out
            obtain ⟨aa, ca, rfl, _⟩ := own_formB hp.a
            obtain ⟨ab, cb, rfl, _⟩ := own_formB hp.o
            obtain ⟨lw, hlw⟩ : ∃ lw, lw = (joinTo ps i).length := ⟨_, rfl⟩
            obtain ⟨lh, hlh⟩ : ∃ lh, lh = (half ps n i).length := ⟨_, rfl⟩
            rw [← hlw, ← hlh] at HP3 ⊢
            rw [← hlw] at hjl
            have HLW := hide hlw
            clear hp hh hlw hlh
            obtain ⟨b, o, ao, c2, rfl, hm63, hmb, hpart⟩ := HP.out.part i (by rw [← HN.out]; exact hil)
            have hnx := joinTo_succ ps i (by rw [← HN.out]; exact hil)
            have hjn : (joinTo ps (i + 1)).length ≤ 1048576 := Nat.le_trans (joinTo_mono ps (i + 1) n (by omega)) HJ.out
            obtain ⟨x, hx⟩ : ∃ x, x = ps[i]'(by rw [← HN.out]; exact hil) := ⟨_, rfl⟩
            rw [← hx] at hm63 hmb hpart hnx
            have hll : (joinTo ps (i + 1)).length = lw + x.length := by rw [hnx, List.length_append, ← HLW.out]
            obtain ⟨m, hm⟩ : ∃ m, m = x.length := ⟨_, rfl⟩
            rw [← hm] at hm63 hmb hpart hll
            have HM := hide hm
            have HNX := hide hnx
            have HPT := hide hpart
            have hc3 := (hpart wl HP3.out.bel).1
            have HWR : Hid (Calls Tryd.prog 18 #[.pointer (some ⟨zh, 0, none⟩), .slice ao m c2] wl (WriteC wl zh 45 [] [] (joinTo ps i ++ x))) :=
              hide (write_any wl (HT.out.below HP3.out.bel) zh hzh3 45 [] [] (joinTo ps i) x HP3.out.h _ (hpart wl HP3.out.bel).2 (fun b' o' l c' e hp => by
                have e1 := ((Value.slice.injEq ..).mp e).1
                have := hmb b' o' e1 (by rw [hm]; exact hp)
                have := HP3.out.z0
                omega) (by rw [← HLW.out, ← hm]; omega))
            have hmu : m ≤ 1048576 := by omega
            clear hx hnx hm hpart hmb
            go_wp2_with fail
            refine HWR.out.mono ?_
            rintro e w4 ⟨rfl, hO4, hg4⟩
            have HP4 := hide (HP3.out.writeH hO4 hg4)
            have hc4 := (HPT.out w4 HP4.out.bel).1
            have HR4 := hide (HPT.out w4 HP4.out.bel).2
            clear hc3 HWR hO4 hg4 HP3
            go_wp2_with (at_builtin; refine wpList_append_rdX rfl _ _ rfl (zh + 2) _ _ (joinTo ps i) x rfl HP4.out.a rfl HR4.out ?fa ?fb ?_)
            case fa => rw [← HLW.out, ← HM.out]; omega
            case fb => exact HP4.out.hB
            intro va' w5 HO5 HG5 HW5
            have HP5 := hide (HP4.out.rowA HO5.out HG5.out HW5.out)
            rw [← HNX.out] at HP5
            clear HO5 HG5 HW5 HP4 HR4 hc4
            obtain ⟨l2, hl2⟩ : ∃ l2, l2 = (joinTo ps (i + 1)).length := ⟨_, rfl⟩
            obtain ⟨ae, ce, hva, _⟩ := own_formB HP5.out.a
            rw [← hl2] at hva hjn hll
            subst hva
            have HL2 := hide hl2
            obtain ⟨q2, hq2⟩ : ∃ q2, q2 = q + (l2 + 64) := ⟨_, rfl⟩
            have hq2u : q2 ≤ 1048640 * (i + 1) := by omega
            have hq3 : q2 ≤ 9223372036854775807 := by omega
            have hw1 : IntKind.i64.wrap ((l2 : Int) + 64) = ((l2 + 64 : Nat) : Int) := wrapi64_nat (l2 + 64) (by omega)
            have hw2 : IntKind.i64.wrap ((q : Int) + ((l2 : Int) + 64)) = (q2 : Int) := by
              rw [show (q : Int) + ((l2 : Int) + 64) = ((q2 : Nat) : Int) by omega]; exact wrapi64_nat q2 (by omega)
            clear hl2 hll hw1 hq2
            by_cases hbig : 1048576 < q2
            · by_cases hlast : i < n - 1
              · have g1 : (1048576 : Int) < (q2 : Int) := by omega
                have g2 : (i : Int) < (n : Int) - 1 := by omega
                go_wp2
                refine ⟨⟨_, _, i + 1, q2, rfl, rfl, by go_num, rfl, by omega, hq2u, HP5.out⟩, by simp [intOf]; omega⟩
              · have g1 : (1048576 : Int) < (q2 : Int) := by omega
                have g2 : ¬ (i : Int) < (n : Int) - 1 := by omega
                go_wp2_with fail
                refine (ssum_any w5 (HT.out.below HP5.out.bel) _ (joinTo ps (i + 1)) (.inl (Rd_owned HP5.out.a)) (by rw [← HL2.out]; omega)).mono ?_
                rintro e w6 ⟨rfl, hb6⟩
                have HP6 := hide (HP5.out.below hb6)
                obtain ⟨ks, hks⟩ : ∃ ks, ks = shaOf (joinTo ps (i + 1)) := ⟨_, rfl⟩
                have HKL := hide (show ks.length = 32 by rw [hks]; exact shaOf_len _)
                have HKS := hide hks
                rw [← hks]
                clear hks HP5 hb6
                go_wp2_with ((with_reducible refine wpList_put_key ?_ (.tmp 11) (.tmp 73) ?_ w6.heap.size ?_ w6 ?_ ?_ ks HKL.out ?_ ?_); rfl; rfl; rfl; rfl; rfl; rfl; intro w7 HK7 hb7)
                have HP7 := hide (HP6.out.below hb7)
                have HSS := hide (fun d os => hsum_any (Sort.grow (redrawn w7 d) os) ((HT.out.below HP7.out.bel).below (below_regrown w7 d os)) zh 45 [] [] (joinTo ps (i + 1)) (hof_below HP7.out.h (below_regrown w7 d os)) (by rw [← HL2.out]; omega))
                have HML := hide (fun d os => (HK7.out.below (below_regrown w7 d os)).load)
                have HLN := hide (fun d os => len_below (Sort.grow (redrawn w7 d) os) zh 45 [] [] (joinTo ps (i + 1)) (hof_below HP7.out.h (below_regrown w7 d os)))
                rw [← HKS.out] at HSS
                rw [← HL2.out] at HLN
                clear HP6 hb7 HK7
                have hg1 := keyGuard .neq ks
                have hn1 := keyNeq ks HKL.out
                have hwu := wrap64_nat l2 (by omega)
                refine wp_region_quiet_below (by kernel_rfl) (by kernel_rfl) ?_
                quiet_step (exact Calls.regrown_of (HSS.out _ _))
                refine wpQuiet_val (keyV ks) rfl (fun w hw => ?_) ?_
                · obtain ⟨p, rfl⟩ := hw
                  exact run_load rfl rfl (HML.out _ _)
                quiet_step (fail)
                quiet_step (fail)
                quiet_step (exact Calls.regrown_of (HLN.out _ _))
                quiet_step (fail)
                quiet_step (fail)
                quiet_step (fail)
                quiet_step (fail)
                quiet_step (fail)
                refine wpQuiet_nil ?_
                intro _ hw'
                obtain ⟨⟨dq, osq⟩, hw''⟩ := hw'
                subst hw''
                have HP8 := hide (HP7.out.below (below_regrown w7 dq osq))
                clear HSS HML HLN HP7 hg1 hn1
                go_wp2
                refine ⟨⟨_, _, i + 1, q2, rfl, rfl, by go_num, rfl, by omega, hq2u, HP8.out⟩, by simp [intOf]; omega⟩
            · have g1 : ¬ (1048576 : Int) < (q2 : Int) := by omega
              go_wp2_with fail
              refine (ssum_any w5 (HT.out.below HP5.out.bel) _ (joinTo ps (i + 1)) (.inl (Rd_owned HP5.out.a)) (by rw [← HL2.out]; omega)).mono ?_
              rintro e w6 ⟨rfl, hb6⟩
              have HP6 := hide (HP5.out.below hb6)
              obtain ⟨ks, hks⟩ : ∃ ks, ks = shaOf (joinTo ps (i + 1)) := ⟨_, rfl⟩
              have HKL := hide (show ks.length = 32 by rw [hks]; exact shaOf_len _)
              have HKS := hide hks
              rw [← hks]
              clear hks HP5 hb6
              go_wp2_with ((with_reducible refine wpList_put_key ?_ (.tmp 11) (.tmp 73) ?_ w6.heap.size ?_ w6 ?_ ?_ ks HKL.out ?_ ?_); rfl; rfl; rfl; rfl; rfl; rfl; intro w7 HK7 hb7)
              have HP7 := hide (HP6.out.below hb7)
              have HSS := hide (fun d os => hsum_any (Sort.grow (redrawn w7 d) os) ((HT.out.below HP7.out.bel).below (below_regrown w7 d os)) zh 45 [] [] (joinTo ps (i + 1)) (hof_below HP7.out.h (below_regrown w7 d os)) (by rw [← HL2.out]; omega))
              have HML := hide (fun d os => (HK7.out.below (below_regrown w7 d os)).load)
              have HLN := hide (fun d os => len_below (Sort.grow (redrawn w7 d) os) zh 45 [] [] (joinTo ps (i + 1)) (hof_below HP7.out.h (below_regrown w7 d os)))
              rw [← HKS.out] at HSS
              rw [← HL2.out] at HLN
              clear HP6 hb7 HK7
              have hg1 := keyGuard .neq ks
              have hn1 := keyNeq ks HKL.out
              have hwu := wrap64_nat l2 (by omega)
              refine wp_region_quiet_below (by kernel_rfl) (by kernel_rfl) ?_
              quiet_step (exact Calls.regrown_of (HSS.out _ _))
              refine wpQuiet_val (keyV ks) rfl (fun w hw => ?_) ?_
              · obtain ⟨p, rfl⟩ := hw
                exact run_load rfl rfl (HML.out _ _)
              quiet_step (fail)
              quiet_step (fail)
              quiet_step (exact Calls.regrown_of (HLN.out _ _))
              quiet_step (fail)
              quiet_step (fail)
              quiet_step (fail)
              quiet_step (fail)
              quiet_step (fail)
              refine wpQuiet_nil ?_
              intro _ hw'
              obtain ⟨⟨dq, osq⟩, hw''⟩ := hw'
              subst hw''
              have HP8 := hide (HP7.out.below (below_regrown w7 dq osq))
              clear HSS HML HLN HP7 hg1 hn1
              go_wp2
              refine ⟨⟨_, _, i + 1, q2, rfl, rfl, by go_num, rfl, by omega, hq2u, HP8.out⟩, by simp [intOf]; omega⟩
        · have hin : i = n := by omega
          have hp' : Pc w wl zh (zh + 1) (zh + 2) va vo (joinTo ps n) (half ps n n) (joinTo ps n) (half ps n n) := by
            have h := hp
            rw [hin] at h
            exact h
          have hi2 : ¬ (i : Int) < (n : Int) := by omega
          have hhl : (half ps n n).length ≤ 1048576 := by
            unfold half
            split
            · simp
            · exact Nat.le_trans (joinTo_mono ps (n / 2) n (by omega)) HJ.out
          obtain ⟨hn0, hhn0⟩ : ∃ x, x = half ps n n := ⟨_, rfl⟩
          rw [← hhn0] at hp' hhl
          have HPC := hide hp'
          clear hp hp' hin hil hi hq hhn0
          go_wp2
          go_loopw [9, 12] (fun t9 t12 wl => ∃ (vo : Value) (j : Nat) (fs : List UInt8), vo = t9 ∧ t12 = .int .i64 ((j : Int) - 1) ∧ j ≤ n ∧ fs.length + (joinTo ps j).length ≤ 2097152 ∧ Pc w wl zh (zh + 1) (zh + 2) va vo (joinTo ps n) fs (joinTo ps n) fs) (fun _ j _ => (intOf j + 1).toNat)
          case atStart => exact ⟨_, n, _, rfl, rfl, by omega, by have := HJ.out; omega, HPC.out⟩
          case round =>
            clear HPC
            obtain ⟨vo, j, fs, rfl, rfl, hj, hfl, hp⟩ := hrel
            obtain ⟨wm, hwm⟩ : ∃ w0, w0 = wr := ⟨_, rfl⟩
            rw [← hwm] at hp ⊢
            clear hwm
            obtain ⟨ab, cb, rfl, _⟩ := own_formB hp.o
            rcases Nat.eq_zero_or_pos j with hj0 | hj0
            · have hneg : ¬ (0 : Int) ≤ (j : Int) - 1 := by omega
              have HPC := hide hp
              have HFL := hide (show fs.length ≤ 2097152 by omega)
              obtain ⟨lf, hlf⟩ : ∃ lf, lf = fs.length := ⟨_, rfl⟩
              obtain ⟨k1, hk1⟩ : ∃ k1, k1 = shaOf (joinTo ps n) := ⟨_, rfl⟩
              obtain ⟨k2, hk2⟩ : ∃ k2, k2 = shaOf fs := ⟨_, rfl⟩
              have HK1L := hide (show k1.length = 32 by rw [hk1]; exact shaOf_len _)
              have HK2L := hide (show k2.length = 32 by rw [hk2]; exact shaOf_len _)
              have HK1 := hide hk1
              have HK2 := hide hk2
              rw [← hlf] at HPC ⊢
              clear hp hlf hk1 hk2 hj0 hfl hj
              go_wp2_with fail
              refine (ssum_any wm (HT.out.below HPC.out.bel) _ (joinTo ps n) (.inl (Rd_owned HPC.out.a)) (Nat.le_trans HJ.out (by decide))).mono ?_
              rintro e w4 ⟨rfl, hb4⟩
              rw [← HK1.out]
              have HP4 := hide (HPC.out.below hb4)
              clear HPC hb4
              go_wp2_with ((with_reducible refine wpList_put_key ?_ (.tmp 13) (.tmp 103) ?_ w4.heap.size ?_ w4 ?_ ?_ k1 HK1L.out ?_ ?_); rfl; rfl; rfl; rfl; rfl; rfl; intro w5 HA5 hb5)
              have HP5 := hide (HP4.out.below hb5)
              clear HP4 hb5
              refine (ssum_any w5 (HT.out.below HP5.out.bel) _ fs (.inl (Rd_owned HP5.out.o)) (Nat.le_trans HFL.out (by decide))).mono ?_
              rintro e w6 ⟨rfl, hb6⟩
              rw [← HK2.out]
              have HP6 := hide (HP5.out.below hb6)
              have HA6 := hide (HA5.out.below hb6)
              obtain ⟨y1, hy1⟩ : ∃ y1, y1 = w4.heap.size := ⟨_, rfl⟩
              rw [← hy1] at HA6 ⊢
              clear HP5 HA5 hb6 hy1
              go_wp2_with ((with_reducible refine wpList_put_key ?_ (.tmp 14) (.tmp 105) ?_ w6.heap.size ?_ w6 ?_ ?_ k2 HK2L.out ?_ ?_); rfl; rfl; rfl; rfl; rfl; rfl; intro w7 HB7 hb7)
              have HP7 := hide (HP6.out.below hb7)
              have HA7 := hide (HA6.out.below hb7)
              have HS1 := hide (fun d os => hsum_any (Sort.grow (redrawn w7 d) os) ((HT.out.below HP7.out.bel).below (below_regrown w7 d os)) zh 45 [] [] (joinTo ps n) (hof_below HP7.out.h (below_regrown w7 d os)) (Nat.le_trans HJ.out (by decide)))
              have HS2 := hide (fun d os => hsum_any (Sort.grow (redrawn w7 d) os) ((HT.out.below HP7.out.bel).below (below_regrown w7 d os)) (zh + 1) 45 [] [] fs (hof_below HP7.out.f (below_regrown w7 d os)) (Nat.le_trans HFL.out (by decide)))
              have HM1 := hide (fun d os => (HA7.out.below (below_regrown w7 d os)).load)
              have HM2 := hide (fun d os => (HB7.out.below (below_regrown w7 d os)).load)
              rw [← HK1.out] at HS1
              rw [← HK2.out] at HS2
              have hbw7 := HP7.out.bel
              clear HP6 hb7 HP7 HA7 HB7 HA6
              have hg1 := keyGuard .eql k1
              have hn1 := keyEql k1 HK1L.out
              have hg2 := keyGuard .eql k2
              have hn2' := keyEql k2 HK2L.out
              refine wp_region_quiet_below (by kernel_rfl) (by kernel_rfl) ?_
              quiet_step (exact Calls.regrown_of (HS1.out _ _))
              refine wpQuiet_val (keyV k1) rfl (fun w hw => ?_) ?_
              · obtain ⟨p, rfl⟩ := hw
                exact run_load rfl rfl (HM1.out _ _)
              quiet_step (fail)
              quiet_step (fail)
              quiet_step (exact Calls.regrown_of (HS2.out _ _))
              refine wpQuiet_val (keyV k2) rfl (fun w hw => ?_) ?_
              · obtain ⟨p, rfl⟩ := hw
                exact run_load rfl rfl (HM2.out _ _)
              quiet_step (fail)
              quiet_step (fail)
              quiet_step (fail)
              refine wpQuiet_nil ?_
              intro _ hw'
              obtain ⟨⟨dq, osq⟩, hw''⟩ := hw'
              subst hw''
              go_wp2
              go_ret
              exact ⟨rfl, hbw7.trans ((below_regrown w7 dq osq).mono hbw7.size)⟩
            · obtain ⟨y, rfl⟩ : ∃ y, j = y + 1 := ⟨j - 1, by omega⟩
              rw [show (((y + 1 : Nat) : Int) - 1) = (y : Int) by omega]
              have hyn : y < n := by omega
              obtain ⟨b, o, ao, c2, rfl, hm63, hmb, hpart⟩ := HP.out.part y (by rw [← HN.out]; exact hyn)
              have hnx := joinTo_succ ps y (by rw [← HN.out]; exact hyn)
              obtain ⟨x, hx⟩ : ∃ x, x = ps[y]'(by rw [← HN.out]; exact hyn) := ⟨_, rfl⟩
              rw [← hx] at hm63 hmb hpart hnx
              have hll : (joinTo ps (y + 1)).length = (joinTo ps y).length + x.length := by rw [hnx, List.length_append]
              obtain ⟨m, hm⟩ : ∃ m, m = x.length := ⟨_, rfl⟩
              rw [← hm] at hm63 hmb hpart hll
              obtain ⟨lf, hlf⟩ : ∃ lf, lf = fs.length := ⟨_, rfl⟩
              rw [← hlf] at hfl
              have HP3 := hide hp
              rw [← hlf] at HP3 ⊢
              have HLF := hide hlf
              have HM := hide hm
              have HPT := hide hpart
              have hc3 := (hpart wm hp.bel).1
              have HWR : Hid (Calls Tryd.prog 18 #[.pointer (some ⟨zh + 1, 0, none⟩), .slice ao m c2] wm (WriteC wm (zh + 1) 45 [] [] (fs ++ x))) :=
                hide (write_any wm (HT.out.below hp.bel) (zh + 1) (by omega) 45 [] [] fs x hp.f _ (hpart wm hp.bel).2 (fun b' o' l c' e hp2 => by
                  have e1 := ((Value.slice.injEq ..).mp e).1
                  have := hmb b' o' e1 (by rw [hm]; exact hp2)
                  have := hp.z0
                  omega) (by rw [← hlf, ← hm]; omega))
              have hfm : lf + m + (joinTo ps y).length ≤ 2097152 := by omega
              clear hx hnx hm hpart hmb hp hlf hll hfl
              go_wp2_with fail
              refine HWR.out.mono ?_
              rintro e w4 ⟨rfl, hO4, hg4⟩
              have HP4 := hide (HP3.out.writeF hO4 hg4)
              have hc4 := (HPT.out w4 HP4.out.bel).1
              have HR4 := hide (HPT.out w4 HP4.out.bel).2
              clear hc3 HWR hO4 hg4 HP3
              go_wp2_with (at_builtin; refine wpList_append_rdX rfl _ _ rfl (zh + 2) _ _ fs x rfl HP4.out.o rfl HR4.out ?ga ?gb ?_)
              case ga => rw [← HLF.out, ← HM.out]; omega
              case gb => exact HP4.out.hB
              intro vo' w5 HO5 HG5 HW5
              have HP5 := hide (HP4.out.rowO HO5.out HG5.out HW5.out)
              clear HO5 HG5 HW5 HP4 HR4 hc4
              go_wp2
              refine ⟨⟨_, y, _, rfl, rfl, by omega, ?_, HP5.out⟩, by simp [intOf]⟩
              rw [List.length_append, ← HLF.out, ← HM.out]; omega
end Go.Proofs.YtbohbkjkcpncfaaDoor
