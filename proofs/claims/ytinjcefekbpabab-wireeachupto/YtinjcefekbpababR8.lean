/- took, of a list, and of no kind. -/
import Derived.Test.YtinjcefekbpababR7
namespace Go.Proofs.Ytinjcefekbpabab
set_option linter.unusedVariables false
set_option linter.unusedSimpArgs false
open Go.RowKit

set_option maxRecDepth 20000 in
set_option maxHeartbeats 1600000 in
theorem took_0 (w : World) (y : Nat) (rv : Value) (bs : List UInt8) (s : S) (kind : Int) (most : Nat) (n : Int) (h : RefSt w y rv bs s) (n1 : (kind == 1) = false) (n2 : (kind == 2) = false) (n3 : (kind == 3) = false) (n4 : (kind == 4) = false) (n5 : (kind == 5) = false) (n6 : (kind == 6) = false) (n7 : (kind == 7) = false) (n8 : (kind == 8) = false) (n9 : (kind == 9) = false) (n10 : (kind == 10) = false) (n11 : (kind == 11) = false) (n12 : (kind == 12) = false) (n13 : (kind == 13) = false) :
    Calls Try.prog 22 #[.pointer (some ⟨y, 0, none⟩), .agg #[.int .i64 kind, .int .u64 most, .int .i64 n]] w (TookC w y rv bs (0, [], s)) := by
  have hz := h.lt
  go_enter Try.func22, Try.ntmps22
  go_wp2
  refine bodyPost_ret (v := .agg #[.int .u64 0, .string ⟨#[]⟩]) (by simp [results, Try.results22, go_sem]) rfl ⟨rfl, boxes_ref h kind most n, ?_⟩
  exact grownBy_trans (World.grownBy_alloc _ _ _) (World.grownBy_alloc _ _ _)

/-- The document's Dec stays as it is where a row of the call's own grows. -/
theorem RefSt.own {w0 w w' : World} {y : Nat} {rv v : Value} {bs : List UInt8} {s : S} {n size : Nat} {xs : List Value} {e : TypeId} {base : Nat} (h : RefSt w y rv bs s) (hy : y < w0.heap.size) (hb : ∀ b cap, rv = .slice (some ⟨b, 0, none⟩) bs.length cap → b < w0.heap.size) (hbase : w0.heap.size ≤ base)
    (ho : w.ownsRow base e size v n xs) (hg : w.grownBy w' v.ownBlock) : RefSt w' y rv bs s := by
  refine h.grown hg (fun e => ?_) (fun b cap e1 e => ?_)
  · have := (ho.lt y e.symm).1; omega
  · have := (ho.lt b e.symm).1; have := hb b cap e1; omega
theorem grown_own2 {w0 w w' : World} {z : Nat} {v : Value} {n size base : Nat} {xs : List Value} {e : TypeId} (h : w0.grownBy w (some z)) (hbase : w0.heap.size ≤ base) (ho : w.ownsRow base e size v n xs) (hg : w.grownBy w' v.ownBlock) : w0.grownBy w' (some z) :=
  ⟨hg.os.trans h.os, hg.tape.trans h.tape, hg.output.trans h.output, Nat.le_trans h.size hg.size, fun k hk hne => (hg.block k (Nat.lt_of_lt_of_le hk h.size) (fun e => by have := (ho.lt k e.symm).1; omega)).trans (h.block k hk hne)⟩
theorem Blk.own {w w' : World} {b base n size : Nat} {cs : Array Value} {t e : TypeId} {v : Value} {xs : List Value} (h : Blk w b cs t) (hb : b < base) (ho : w.ownsRow base e size v n xs) (hg : w.grownBy w' v.ownBlock) : Blk w' b cs t :=
  h.grown hg (fun e => by have := (ho.lt b e.symm).1; omega)

theorem hd1_fix (bs : List UInt8) (s : S) (a : Nat) : (leNat ((mNext bs s a 1).1.getD []) : Nat) = (hd1 (mNext bs s a 1).1).toNat := by
  have hl := mNext_few bs s a 1
  unfold hd1
  generalize (mNext bs s a 1).1.getD [] = xs at hl ⊢
  match xs, hl with
  | [], _ => simp [leNat]
  | [c], _ => simp [leNat]

set_option maxRecDepth 20000 in
set_option maxHeartbeats 3200000 in
theorem took_13 (w : World) (y : Nat) (rv : Value) (bs : List UInt8) (s : S) (most : Nat) (n : Int) (h1 : -9223372036854775808 ≤ n) (h2 : n ≤ 9223372036854775807) (hlen : bs.length ≤ 140737488351232) (h : RefSt w y rv bs s) :
    Calls Try.prog 22 #[.pointer (some ⟨y, 0, none⟩), .agg #[.int .i64 13, .int .u64 most, .int .i64 n]] w (TookC w y rv bs (0, (mEach bs s n.toNat).1, (mEach bs s n.toNat).2)) := by
  obtain ⟨i0, hi, hz0, hz1, hz2⟩ := info_parts infoU8
  have hz := h.lt
  have HSV := hide (fun b cap => h.1.blk (b := b) (cap := cap))
  obtain ⟨m, hm⟩ : ∃ m : Nat, n.toNat = m := ⟨_, rfl⟩
  rw [hm]
  have HC := hide (rvar_st (boxes w 13 most n) y rv bs s m (boxes_ref h 13 most n))
  obtain ⟨r', hr'⟩ : ∃ r', mEach bs s m = r' := ⟨_, rfl⟩
  rw [hr']
  unfold mEach at hr'
  have hle := mNum_ok_le bs s m
  generalize mNum bs s m = r at HC hr' hle
  obtain ⟨v, ok, s1⟩ := r
  simp only [] at hr' hle
  have HR := hide hr'
  clear hr'
  have hv63 : v ≤ 9223372036854775807 := by omega
  clear hle
  have HM := hide hm
  clear hm
  have HMAIN : Hid (∀ (K : Prop), K → K) := hide fun _ h => h
  by_cases hn : 0 < n
  · obtain rfl : n = m := by have := HM.out; omega
    go_enter Try.func22, Try.ntmps22
    go_wp2_with fail
    refine (HC.out).mono ?_
    rintro e w1 ⟨rfl, hd, hg⟩
    have hk := boxes_res 13 most m hz hg
    have hg' := boxes_grown hg
    have hsz : w.heap.size + 2 ≤ w1.heap.size := by have := hg.size; simpa [boxes] using this
    simp only [] at hd
    have HD := hide hd
    have HG := hide hg'
    have HK := hide hk
    clear hd hg hk hg' HC
    go_wp2_with fail
    go_loopw [8, 9] (fun l i wr => ∃ (k : Nat) (acc : List UInt8) (s' : S), i = .int .u64 k ∧ k ≤ v ∧ wr.ownsRow (w.heap.size + 2) 5 1 l acc.length (acc.map u8c) ∧ acc.length ≤ s'.p + exS s' ∧ RefSt wr y rv bs s' ∧ w.grownBy wr (some y) ∧ Blk wr (w.heap.size + 1) #[.int .u64 0, .string ⟨#[]⟩] 58 ∧ w.heap.size + 2 ≤ wr.heap.size ∧ eachGo bs v s1 [] = eachGo bs (v - k) s' acc) (fun _ i _ => v - (intOf i).toNat)
    case atStart => exact ⟨0, [], s1, rfl, Nat.zero_le _, World.ownsRow_nil _ _ _ _, Nat.zero_le _, HD.out, HG.out, HK.out, hsz, rfl⟩
    case round =>
      obtain ⟨k, acc, s', rfl, hkv, hown, hacc, hd, hg, hk, hsw, heq⟩ := hrel
      have HE := hide heq
      have HA := hide hacc
      have hpb := hd.2.1
      have d2 := Blk.cell hd.2.2 2
      have c0 := hk.cell 0
      have c1 := hk.cell 1
      have f0 := hk.frozen 0
      have f1 := hk.frozen 1
      clear heq hacc
      by_cases hc : s'.code = 0
      · have hdc : decide (s'.code ≠ 0) = false := by simp [hc]
        rw [hdc] at d2
        by_cases hk0 : k < v
        · have hki : (k : Int) < (v : Int) := by omega
          have HF := hide (fun W hW => rfixed_st W y rv bs s' 1 hW (by omega) (by omega))
          have HH := hide (hd1_fix bs s' (mPlace s'))
          have HP := hide (mNext_code bs s' (mPlace s') 1 hc)
          have HGO := hide (eachGo_more bs (v - k) s' acc hc (by omega))
          have HCC := hide hc
          clear hc
          generalize mNext bs s' (mPlace s') 1 = rr at HF HH HP HGO
          obtain ⟨r1, s2⟩ := rr
          go_wp2_with fail
          refine (HF.out _ hd).mono ?_
          rintro e w3 ⟨rfl, hd3, hg3⟩
          simp only [] at hd3
          rw [HH.out]
          have htb : (hd1 r1).toNat < 256 := (hd1 r1).toNat_lt
          generalize ht : (hd1 r1).toNat = t at htb
          have HT := hide ht
          clear ht
          have hown3 : w3.ownsRow (w.heap.size + 2) 5 1 u8 acc.length (acc.map u8c) := hown.kept hg3 (.inr (fun e => by have := (hown.lt y e).1; omega))
          have hg30 := grownBy_trans hg hg3
          have hk3 := hk.grown hg3 (fun e => by have := Option.some.inj e; omega)
          have hlen3 : acc.length + 1 ≤ 140737488355328 := by
            have := HA.out
            rw [exS, if_neg (by have := HCC.out; omega)] at this
            omega
          have hsz3 : w.heap.size + 2 ≤ w3.heap.size := Nat.le_trans hsw hg3.size
          have HD3 := hide hd3
          have HK3 := hide hk3
          clear hown hg hg3 hd hk hd3 hk3 d2 c0 c1 f0 f1
          go_wp2_with (at_builtin; (refine wpList_append_own _ rfl _ _ 22 rfl (w.heap.size + 2) 5 i0 (.int .u8 0) 1 1 Try.underlying22 hi hz0 hz1 hz2 rfl (by decide) _ _ _ rfl (hown3.alloc _) ⟨w3.heap.size, 0, none⟩ 1 1 [.int .u8 (t : Int)] rfl rfl (cell_one_new _ _ _) ?c2 ?c3 ?c4 (by rw [World.size_alloc]; omega) ?_))
          case c2 => intro u hu; simp at hu; subst hu; rfl
          case c3 => unfold maxLen; omega
          case c4 => omega
          intro v' w4 hown' hgrow _
          have hoa := hown3.alloc (.cells #[.int .u8 (t : Int)] 5)
          have hd4 := (HD3.out.below ((Below.refl _ _).alloc (Nat.le_refl _) _)).own hz HSV.out (by omega) hoa hgrow
          have hg4 := grown_own2 (grownBy_trans hg30 (World.grownBy_alloc _ _ _)) (by omega) hoa hgrow
          have hk4 := (HK3.out.alloc _).own (by omega) hoa hgrow
          have hs4 : w.heap.size + 2 ≤ w4.heap.size := by have := hgrow.size; simp at this; omega
          clear hown3 hgrow hg30 hoa
          go_wp2
          go_roundw
          case rel =>
            refine ⟨k + 1, acc ++ [hd1 r1], s2, by go_num, by omega, ?_, ?_, hd4, hg4, hk4, hs4, ?_⟩
            · rw [List.map_append, List.length_append]
              have e : [hd1 r1].map u8c = [.int .u8 (t : Int)] := by rw [← HT.out]; rfl
              rw [e]
              exact hown'
            · have h5 := HP.out
              have h6 := HA.out
              rw [exS, if_neg (by have := HCC.out; omega)] at h6
              rw [List.length_append, exS, h5]
              simp; omega
            · rw [HE.out, HGO.out, show v - k - 1 = v - (k + 1) by omega]
          case measure => simp [intOf]; omega
        · obtain rfl : k = v := by omega
          have h6 := HR.out
          rw [HE.out, Nat.sub_self, eachGo, if_neg (by simp; omega)] at h6
          have H6 := hide h6
          have hcv := conv_rd wr u8 _ (Rd_owned hown)
          clear h6 hown hc
          go_wp2
          have he := took_end (.int .u64 0) (.string ⟨acc.toArray⟩) hz HSV.out hd hg hk
          refine bodyPost_ret (results_cell rfl _ _ _ rfl _ he.1) rfl ?_
          rw [← H6.out]
          exact ⟨rfl, he.2.1, he.2.2⟩
      · have hdc : decide (s'.code ≠ 0) = true := by simp [hc]
        rw [hdc] at d2
        have h6 := HR.out
        rw [HE.out, eachGo_stop bs _ s' acc hc, if_pos (by exact hc)] at h6
        have H6 := hide h6
        clear h6 hown hc
        by_cases hk0 : k < v
        · have hki : (k : Int) < (v : Int) := by omega
          go_wp2
          have he := took_end (.int .u64 0) (.string ⟨#[]⟩) hz HSV.out hd hg hk
          refine bodyPost_ret (results_cell rfl _ _ _ rfl _ he.1) rfl ?_
          rw [← H6.out]
          exact ⟨rfl, he.2.1, he.2.2⟩
        · obtain rfl : k = v := by omega
          go_wp2
          have he := took_end (.int .u64 0) (.string ⟨#[]⟩) hz HSV.out hd hg hk
          refine bodyPost_ret (results_cell rfl _ _ _ rfl _ he.1) rfl ?_
          rw [← H6.out]
          exact ⟨rfl, he.2.1, he.2.2⟩
  · obtain rfl : m = 0 := by have := HM.out; omega
    go_enter Try.func22, Try.ntmps22
    go_wp2_with fail
    refine (HC.out).mono ?_
    rintro e w1 ⟨rfl, hd, hg⟩
    have hk := boxes_res 13 most n hz hg
    have hg' := boxes_grown hg
    have hsz : w.heap.size + 2 ≤ w1.heap.size := by have := hg.size; simpa [boxes] using this
    simp only [] at hd
    have HD := hide hd
    have HG := hide hg'
    have HK := hide hk
    clear hd hg hk hg' HC
    go_wp2_with fail
    go_loopw [8, 9] (fun l i wr => ∃ (k : Nat) (acc : List UInt8) (s' : S), i = .int .u64 k ∧ k ≤ v ∧ wr.ownsRow (w.heap.size + 2) 5 1 l acc.length (acc.map u8c) ∧ acc.length ≤ s'.p + exS s' ∧ RefSt wr y rv bs s' ∧ w.grownBy wr (some y) ∧ Blk wr (w.heap.size + 1) #[.int .u64 0, .string ⟨#[]⟩] 58 ∧ w.heap.size + 2 ≤ wr.heap.size ∧ eachGo bs v s1 [] = eachGo bs (v - k) s' acc) (fun _ i _ => v - (intOf i).toNat)
    case atStart => exact ⟨0, [], s1, rfl, Nat.zero_le _, World.ownsRow_nil _ _ _ _, Nat.zero_le _, HD.out, HG.out, HK.out, hsz, rfl⟩
    case round =>
      obtain ⟨k, acc, s', rfl, hkv, hown, hacc, hd, hg, hk, hsw, heq⟩ := hrel
      have HE := hide heq
      have HA := hide hacc
      have hpb := hd.2.1
      have d2 := Blk.cell hd.2.2 2
      have c0 := hk.cell 0
      have c1 := hk.cell 1
      have f0 := hk.frozen 0
      have f1 := hk.frozen 1
      clear heq hacc
      by_cases hc : s'.code = 0
      · have hdc : decide (s'.code ≠ 0) = false := by simp [hc]
        rw [hdc] at d2
        by_cases hk0 : k < v
        · have hki : (k : Int) < (v : Int) := by omega
          have HF := hide (fun W hW => rfixed_st W y rv bs s' 1 hW (by omega) (by omega))
          have HH := hide (hd1_fix bs s' (mPlace s'))
          have HP := hide (mNext_code bs s' (mPlace s') 1 hc)
          have HGO := hide (eachGo_more bs (v - k) s' acc hc (by omega))
          have HCC := hide hc
          clear hc
          generalize mNext bs s' (mPlace s') 1 = rr at HF HH HP HGO
          obtain ⟨r1, s2⟩ := rr
          go_wp2_with fail
          refine (HF.out _ hd).mono ?_
          rintro e w3 ⟨rfl, hd3, hg3⟩
          simp only [] at hd3
          rw [HH.out]
          have htb : (hd1 r1).toNat < 256 := (hd1 r1).toNat_lt
          generalize ht : (hd1 r1).toNat = t at htb
          have HT := hide ht
          clear ht
          have hown3 : w3.ownsRow (w.heap.size + 2) 5 1 u8 acc.length (acc.map u8c) := hown.kept hg3 (.inr (fun e => by have := (hown.lt y e).1; omega))
          have hg30 := grownBy_trans hg hg3
          have hk3 := hk.grown hg3 (fun e => by have := Option.some.inj e; omega)
          have hlen3 : acc.length + 1 ≤ 140737488355328 := by
            have := HA.out
            rw [exS, if_neg (by have := HCC.out; omega)] at this
            omega
          have hsz3 : w.heap.size + 2 ≤ w3.heap.size := Nat.le_trans hsw hg3.size
          have HD3 := hide hd3
          have HK3 := hide hk3
          clear hown hg hg3 hd hk hd3 hk3 d2 c0 c1 f0 f1
          go_wp2_with (at_builtin; (refine wpList_append_own _ rfl _ _ 22 rfl (w.heap.size + 2) 5 i0 (.int .u8 0) 1 1 Try.underlying22 hi hz0 hz1 hz2 rfl (by decide) _ _ _ rfl (hown3.alloc _) ⟨w3.heap.size, 0, none⟩ 1 1 [.int .u8 (t : Int)] rfl rfl (cell_one_new _ _ _) ?c2 ?c3 ?c4 (by rw [World.size_alloc]; omega) ?_))
          case c2 => intro u hu; simp at hu; subst hu; rfl
          case c3 => unfold maxLen; omega
          case c4 => omega
          intro v' w4 hown' hgrow _
          have hoa := hown3.alloc (.cells #[.int .u8 (t : Int)] 5)
          have hd4 := (HD3.out.below ((Below.refl _ _).alloc (Nat.le_refl _) _)).own hz HSV.out (by omega) hoa hgrow
          have hg4 := grown_own2 (grownBy_trans hg30 (World.grownBy_alloc _ _ _)) (by omega) hoa hgrow
          have hk4 := (HK3.out.alloc _).own (by omega) hoa hgrow
          have hs4 : w.heap.size + 2 ≤ w4.heap.size := by have := hgrow.size; simp at this; omega
          clear hown3 hgrow hg30 hoa
          go_wp2
          go_roundw
          case rel =>
            refine ⟨k + 1, acc ++ [hd1 r1], s2, by go_num, by omega, ?_, ?_, hd4, hg4, hk4, hs4, ?_⟩
            · rw [List.map_append, List.length_append]
              have e : [hd1 r1].map u8c = [.int .u8 (t : Int)] := by rw [← HT.out]; rfl
              rw [e]
              exact hown'
            · have h5 := HP.out
              have h6 := HA.out
              rw [exS, if_neg (by have := HCC.out; omega)] at h6
              rw [List.length_append, exS, h5]
              simp; omega
            · rw [HE.out, HGO.out, show v - k - 1 = v - (k + 1) by omega]
          case measure => simp [intOf]; omega
        · obtain rfl : k = v := by omega
          have h6 := HR.out
          rw [HE.out, Nat.sub_self, eachGo, if_neg (by simp; omega)] at h6
          have H6 := hide h6
          have hcv := conv_rd wr u8 _ (Rd_owned hown)
          clear h6 hown hc
          go_wp2
          have he := took_end (.int .u64 0) (.string ⟨acc.toArray⟩) hz HSV.out hd hg hk
          refine bodyPost_ret (results_cell rfl _ _ _ rfl _ he.1) rfl ?_
          rw [← H6.out]
          exact ⟨rfl, he.2.1, he.2.2⟩
      · have hdc : decide (s'.code ≠ 0) = true := by simp [hc]
        rw [hdc] at d2
        have h6 := HR.out
        rw [HE.out, eachGo_stop bs _ s' acc hc, if_pos (by exact hc)] at h6
        have H6 := hide h6
        clear h6 hown hc
        by_cases hk0 : k < v
        · have hki : (k : Int) < (v : Int) := by omega
          go_wp2
          have he := took_end (.int .u64 0) (.string ⟨#[]⟩) hz HSV.out hd hg hk
          refine bodyPost_ret (results_cell rfl _ _ _ rfl _ he.1) rfl ?_
          rw [← H6.out]
          exact ⟨rfl, he.2.1, he.2.2⟩
        · obtain rfl : k = v := by omega
          go_wp2
          have he := took_end (.int .u64 0) (.string ⟨#[]⟩) hz HSV.out hd hg hk
          refine bodyPost_ret (results_cell rfl _ _ _ rfl _ he.1) rfl ?_
          rw [← H6.out]
          exact ⟨rfl, he.2.1, he.2.2⟩
end Go.Proofs.Ytinjcefekbpabab
