/- The document's Parse. -/
import Derived.Test.YtjmjnecobaoofaaDoorKX2
namespace Go.Proofs.YtjmjnecobaoofaaDoor
set_option linter.unusedVariables false
set_option linter.unusedSimpArgs false
open Go.RowKit

/-- The byte at place j when i digits are taken. -/
def pAt (s : List UInt8) (i j : Nat) : UInt8 := if 2 * j + 2 ≤ i then pairAt s j else if 2 * j + 1 ≤ i then UInt8.ofNat (sgn (s.getD (2 * j) 0)).toNat else 0
def pTo (s : List UInt8) (i : Nat) : List UInt8 := (List.range 32).map (pAt s i)
theorem pTo_len (s : List UInt8) (i : Nat) : (pTo s i).length = 32 := by simp [pTo]
theorem pTo_at (s : List UInt8) (i j : Nat) (h : j < 32) : (pTo s i)[j]? = some (pAt s i j) := by simp [pTo, h]
theorem pTo_zero (s : List UInt8) : pTo s 0 = List.replicate 32 0 := by
  apply List.ext_getElem?
  intro j
  rcases Nat.lt_or_ge j 32 with h | h
  · rw [pTo_at s 0 j h, List.getElem?_replicate, if_pos h]
    unfold pAt
    rw [if_neg (by omega), if_neg (by omega)]
  · rw [List.getElem?_eq_none (by rw [pTo_len]; exact h), List.getElem?_eq_none (by simpa using h)]
theorem pTo_all (s : List UInt8) (hs : s.length = 64) : pTo s 64 = unhex s := by
  apply List.ext_getElem?
  intro j
  rcases Nat.lt_or_ge j 32 with h | h
  · rw [pTo_at s 64 j h, unhex_at s j (by omega)]
    unfold pAt
    rw [if_pos (by omega)]
  · rw [List.getElem?_eq_none (by rw [pTo_len]; exact h), List.getElem?_eq_none (by rw [unhex_len]; omega)]
theorem pTo_set (s : List UInt8) (i : Nat) (hi : i < 64) (y : UInt8) (hy : y = pAt s (i + 1) (i / 2)) : (pTo s i).set (i / 2) y = pTo s (i + 1) := by
  apply List.ext_getElem?
  intro j
  rcases Nat.lt_or_ge j 32 with h | h
  · rw [pTo_at s (i + 1) j h]
    by_cases e : i / 2 = j
    · subst e
      rw [List.getElem?_set_self (by rw [pTo_len]; omega), hy]
    · rw [List.getElem?_set_ne e, pTo_at s i j h]
      unfold pAt
      by_cases c1 : 2 * j + 2 ≤ i
      · rw [if_pos c1, if_pos (by omega)]
      · rw [if_neg c1, if_neg (show ¬ 2 * j + 1 ≤ i by omega), if_neg (show ¬ 2 * j + 2 ≤ i + 1 by omega), if_neg (show ¬ 2 * j + 1 ≤ i + 1 by omega)]
  · rw [List.getElem?_eq_none (by rw [List.length_set, pTo_len]; exact h), List.getElem?_eq_none (by rw [pTo_len]; exact h)]
theorem pAt_next (s : List UInt8) (i v : Nat) (hv : v < 16) (hs : sgn (s.getD i 0) = (v : Int)) : (pAt s (i + 1) (i / 2)).toNat = (pAt s i (i / 2)).toNat * 16 + v ∧ (pAt s i (i / 2)).toNat < 16 := by
  have r1 := sgn_range (s.getD (2 * (i / 2)) 0)
  have t1 : (UInt8.ofNat (sgn (s.getD (2 * (i / 2)) 0)).toNat).toNat = (sgn (s.getD (2 * (i / 2)) 0)).toNat := by rw [UInt8.toNat_ofNat']; omega
  unfold pAt
  by_cases hev : i % 2 = 0
  · have e : 2 * (i / 2) = i := by omega
    rw [if_neg (show ¬ 2 * (i / 2) + 2 ≤ i + 1 by omega), if_pos (show 2 * (i / 2) + 1 ≤ i + 1 by omega), if_neg (show ¬ 2 * (i / 2) + 2 ≤ i by omega), if_neg (show ¬ 2 * (i / 2) + 1 ≤ i by omega), t1]
    rw [e, hs]
    exact ⟨by simp, by decide⟩
  · have e : 2 * (i / 2) + 1 = i := by omega
    rw [if_pos (show 2 * (i / 2) + 2 ≤ i + 1 by omega), if_neg (show ¬ 2 * (i / 2) + 2 ≤ i by omega), if_pos (show 2 * (i / 2) + 1 ≤ i by omega), t1]
    unfold pairAt
    rw [e, hs, UInt8.toNat_ofNat']
    omega
set_option maxRecDepth 20000 in
set_option maxHeartbeats 2000000 in
theorem rparse_any (s : List UInt8) (hs : s.length ≤ 9223372036854775807) (w : World) : Calls Tryd.prog 16 #[.string ⟨s.toArray⟩] w (ParseC w s) := by
  have hzk := zero_key
  have HZS : Hid (keyZ.size = 32) := hide rfl
  have HZ1 : Hid (keyZ.all (·.oneCell') = true) := hide (all_oneCell_toArray (u8c_one _))
  have HZA : Hid (Blk ((w.alloc (.cells keyZ 24)).alloc (.cells keyZ 24)) w.heap.size keyZ 24) := hide ((Blk.made w _ _).alloc _)
  have HZK : Hid (KeyAt ((w.alloc (.cells keyZ 24)).alloc (.cells keyZ 24)) (w.heap.size + 1) (List.replicate 32 0)) := hide ⟨blk_made1 w _ _ _ _, rfl⟩
  have HB0 := hide (show Below w.heap.size w ((w.alloc (.cells keyZ 24)).alloc (.cells keyZ 24)) from ((Below.refl _ _).alloc (Nat.le_refl _) _).alloc (by simp) _)
  have HZV : Hid (keyV (List.replicate 32 0) = .agg keyZ) := hide rfl
  by_cases hl : s.length = 64
  · have hl2 : (s.length : Int) = 64 := by omega
    have hsz : (⟨s.toArray⟩ : ByteArray).size = 64 := by simp [ByteArray.size, hl]
    have HVA := hide rvalue_any
    go_enter Tryd.func16, Tryd.ntmps16
    go_wp2
    go_loopw [5] (fun i wr => ∃ j : Nat, i = .int .i64 j ∧ j ≤ 64 ∧ (∀ m, m < j → 0 ≤ sgn (s.getD m 0)) ∧ Blk wr w.heap.size keyZ 24 ∧ Blk wr (w.heap.size + 1) ((pTo s j).map u8c).toArray 24 ∧ Below w.heap.size w wr) (fun i _ => 64 - (intOf i).toNat)
    case atStart => exact ⟨0, rfl, by omega, fun m hm => by omega, HZA.out, by rw [pTo_zero]; exact HZK.out.1, HB0.out⟩
    case round =>
      obtain ⟨j, rfl, hj, hD, hZ, hT, hW⟩ := hrel
      by_cases hlt : j < 64
      · have hji : (j : Int) < 64 := by omega
        obtain ⟨c, hc⟩ : ∃ c, c = s[j]'(by omega) := ⟨_, rfl⟩
        have hcd : s.getD j 0 = c := by rw [List.getD_eq_getElem?_getD, List.getElem?_eq_getElem (by omega), hc]; rfl
        have HC := hide hc
        have HX := hide (fun (v : Int) (hv : v = (c.toNat : Int)) (W : World) => hv ▸ HVA.out c W)
        have HD := hide hD
        by_cases hg : sgn c < 0
        · have HF : Hid (allDig s = false) := hide (by
            cases h : allDig s with
            | false => rfl
            | true =>
              have := of_decide_eq_true (List.all_eq_true.1 h (s[j]'(by omega)) (List.getElem_mem _))
              rw [hc] at hg; omega)
          have HPK : Hid (parseK s = List.replicate 32 0) := hide (by unfold parseK parsed; rw [HF.out]; simp)
          have HPE : Hid (parseE s = 30) := hide (by unfold parseE parsed; rw [HF.out]; simp)
          have HZ := hide hZ
          obtain ⟨M, hM⟩ : ∃ M, M = sgn c := ⟨_, rfl⟩
          rw [← hM] at HX hg
          clear hD hZ hT hc hcd hM
          go_wp2_with fail
          refine (HX.out _ (by rw [HC.out]; rfl) _).mono ?_
          rintro e w1 ⟨rfl, hw1⟩
          subst hw1
          go_wp2_with ((with_reducible refine wpList_store_blk ?_ 24 (.tmp 2) (.tmp 21) ?_ w.heap.size 32 keyZ keyZ 24 HZS.out HZS.out ?_ ?_ HZ.out infoKey HZ1.out ?_); rfl; rfl; rfl; rfl; intro w2 hk2 hg2)
          refine bodyPost_ret (results_cell2 rfl _ _ _ rfl _ (loadBlkT hk2 24 _ Tryd.underlying24 rfl 32 infoKey rfl)) rfl ?_
          exact ⟨by rw [HPK.out, HPE.out]; rfl, hW.trans (below_grownBy hg2 (Nat.le_refl _) hW.size)⟩
        · obtain ⟨v, hv⟩ : ∃ v : Nat, sgn c = (v : Int) := ⟨(sgn c).toNat, by omega⟩
          have hv16 : v < 16 := by have := sgn_range c; omega
          have HN := hide (pAt_next s j v hv16 (by rw [hcd]; exact hv))
          obtain ⟨p, hp⟩ : ∃ p, p = j / 2 := ⟨_, rfl⟩
          have hp32 : p < 32 := by omega
          have hpi : (j : Int) / 2 = (p : Int) := by omega
          have hpt : Int.tdiv (j : Int) 2 = (p : Int) := by rw [Int.tdiv_eq_ediv_of_nonneg (by omega)]; exact hpi
          obtain ⟨x, hx⟩ : ∃ x, x = pAt s j p := ⟨_, rfl⟩
          obtain ⟨y, hy⟩ : ∃ y, y = pAt s (j + 1) p := ⟨_, rfl⟩
          rw [← hp, ← hx, ← hy] at HN
          have hm1 : IntKind.u8.wrap ((x.toNat : Int) * 16) = ((x.toNat * 16 : Nat) : Int) := by
            have := HN.out
            rw [show (x.toNat : Int) * 16 = ((x.toNat * 16 : Nat) : Int) by omega]
            simp [IntKind.wrap, IntKind.bits, IntKind.signed]; omega
          have hm2 : IntKind.u8.wrap (v : Int) = (v : Int) := by
            simp [IntKind.wrap, IntKind.bits, IntKind.signed]; omega
          obtain ⟨x16, hx16⟩ : ∃ q, q = x.toNat * 16 := ⟨_, rfl⟩
          rw [← hx16] at hm1
          have hm3 : IntKind.u8.wrap ((x16 : Int) + (v : Int)) = (y.toNat : Int) := by
            have := HN.out
            rw [show (x16 : Int) + (v : Int) = (y.toNat : Int) by omega]
            have := y.toNat_lt
            simp [IntKind.wrap, IntKind.bits, IntKind.signed]; omega
          have c1 := hT.atU p x (by rw [pTo_at s j p hp32, hx])
          have f1 := hT.frozen p
          have HT2 := hide (hT.setU p y)
          rw [show (pTo s j).set p y = pTo s (j + 1) by rw [hp]; exact pTo_set s j hlt y (by rw [hy, hp])] at HT2
          have HZ2 := hide (hZ.setOther ⟨w.heap.size + 1, p, none⟩ (.int .u8 (y.toNat : Int)) (by show w.heap.size ≠ w.heap.size + 1; omega))
          have HW2 := hide (hW.setCell (p := ⟨w.heap.size + 1, p, none⟩) (by show w.heap.size ≤ w.heap.size + 1; omega) (.int .u8 (y.toNat : Int)))
          have HD2 : Hid (∀ m, m < j + 1 → 0 ≤ sgn (s.getD m 0)) := hide (fun m hm => by
            by_cases e : m = j
            · rw [e, hcd]; omega
            · exact HD.out m (by omega))
          rw [hv] at HX
          have hv0 : ¬ (v : Int) < 0 := by omega
          clear hD hZ hT hc hcd hg hv hp hx hy hx16 HN
          go_wp2_with fail
          refine (HX.out _ (by rw [HC.out]; rfl) _).mono ?_
          rintro e w1 ⟨rfl, hw1⟩
          subst hw1
          go_wp2
          exact ⟨⟨j + 1, by go_num, by omega, HD2.out, HZ2.out, HT2.out, HW2.out⟩, by simp [intOf]; omega⟩
      · obtain rfl : j = 64 := by omega
        have HD : Hid (allDig s = true) := hide (by
          unfold allDig
          rw [List.all_eq_true]
          intro c hc
          obtain ⟨m, hm, rfl⟩ := List.getElem_of_mem hc
          have := hD m (by omega)
          rw [List.getD_eq_getElem?_getD, List.getElem?_eq_getElem hm] at this
          exact decide_eq_true this)
        have HPK : Hid (parseK s = unhex s) := hide (by unfold parseK parsed; rw [HD.out, hl]; rfl)
        have HPE : Hid (parseE s = 0) := hide (by unfold parseE parsed; rw [HD.out, hl]; rfl)
        rw [pTo_all s hl] at hT
        have HUL : Hid ((unhex s).length = 32) := hide (by rw [unhex_len, hl])
        have HT : Hid (KeyAt wr (w.heap.size + 1) (unhex s)) := hide ⟨hT, HUL.out⟩
        have HZ := hide hZ
        have HUS : Hid (((unhex s).map u8c).toArray.size = 32) := hide (by simp [HUL.out])
        have HU1 := hide (all_oneCell_toArray (u8c_one (unhex s)))
        clear hT hZ hD
        go_wp2_with (first | ((with_reducible refine wpList_key (.tmp 4) (w.heap.size + 1) (unhex s) HT.out ?_ ?_ ?_ ?_); rfl; rfl; rfl) | ((with_reducible refine wpList_store_blk ?_ 24 (.tmp 2) (.tmp 33) ?_ w.heap.size 32 keyZ ((unhex s).map u8c).toArray 24 HUS.out HZS.out ?_ ?_ HZ.out infoKey HU1.out ?_); rfl; rfl; rfl; rfl; intro w2 hk2 hg2))
        refine bodyPost_ret (results_cell2 rfl _ _ _ rfl _ (loadBlkT hk2 24 _ Tryd.underlying24 rfl 32 infoKey HUS.out)) rfl ?_
        exact ⟨by rw [HPK.out, HPE.out]; rfl, hW.trans (below_grownBy hg2 (Nat.le_refl _) hW.size)⟩
  · have HPK : Hid (parseK s = List.replicate 32 0) := hide (by unfold parseK parsed; simp [hl])
    have HPE : Hid (parseE s = 30) := hide (by unfold parseE parsed; simp [hl])
    have hl3 : ((s.length : Int) == 64) = false := by simp; omega
    go_enter Tryd.func16, Tryd.ntmps16
    go_wp2_with (first | ((with_reducible refine wpList_key (.tmp 4) (w.heap.size + 1) (List.replicate 32 0) HZK.out ?_ ?_ ?_ ?_); rfl; rfl; rfl; rw [HZV.out]) | ((with_reducible refine wpList_store_blk ?_ 24 (.tmp 2) (.tmp 10) ?_ w.heap.size 32 keyZ keyZ 24 HZS.out HZS.out ?_ ?_ HZA.out infoKey HZ1.out ?_); rfl; rfl; rfl; rfl; intro w2 hk2 hg2))
    refine bodyPost_ret (results_cell2 rfl _ _ _ rfl _ (loadBlkT hk2 24 _ Tryd.underlying24 rfl 32 infoKey rfl)) rfl ?_
    exact ⟨by rw [HPK.out, HPE.out]; rfl, HB0.out.trans (below_grownBy hg2 (Nat.le_refl _) HB0.out.size)⟩
end Go.Proofs.YtjmjnecobaoofaaDoor
