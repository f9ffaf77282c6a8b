/- Parse. -/
import Derived.Test.YtjmjnecobaoofaaKD3
import Derived.StillTailTactics
namespace Go.Proofs.Ytjmjnecobaoofaa
set_option linter.unusedVariables false
set_option linter.unusedSimpArgs false
open Go.RowKit

/-- The first k bytes, and noughts behind them. -/
def unhexTo (s : List UInt8) (k : Nat) : List UInt8 := (unhex s).take k ++ List.replicate (32 - k) 0
theorem unhexTo_len (s : List UInt8) (hs : s.length = 64) (k : Nat) (hk : k ≤ 32) : (unhexTo s k).length = 32 := by
  unfold unhexTo; rw [List.length_append, List.length_take, unhex_len, List.length_replicate]; omega
theorem unhexTo_set (s : List UInt8) (hs : s.length = 64) (k : Nat) (hk : k < 32) : (unhexTo s k).set k (pairAt s k) = unhexTo s (k + 1) := by
  have hl : ((unhex s).take k).length = k := by rw [List.length_take, unhex_len]; omega
  unfold unhexTo
  rw [List.set_append_right _ _ (by omega), hl, Nat.sub_self, show 32 - k = (32 - (k + 1)) + 1 by omega, List.replicate_succ, List.set_cons_zero, List.take_add_one, unhex_at s k (by omega)]
  simp
theorem unhexTo_all (s : List UInt8) (hs : s.length = 64) : unhexTo s 32 = unhex s := by
  unfold unhexTo
  rw [List.take_of_length_le (by rw [unhex_len]; omega)]; simp
theorem pair_bits : ∀ a : Nat, a < 16 → ∀ b : Nat, b < 16 → bits .or .u8 (((16 * a : Nat) : Int)) (b : Int) = ((16 * a + b : Nat) : Int) := of_decide_eq_true (by kernel_rfl)
theorem results_cell2 {fn : Func} {p q : Tmp} {ty : TypeId} (h : fn.results = #[.cell p ty, .tmp q]) (tmps : Array Value) (w : World) (a : Addr) (ha : tmps.getD p undef = .pointer (some a)) (v : Value) (hl : (loadVar ty a).run Try.prog w = .ok v w) :
    (results fn tmps).run Try.prog w = .ok (.tuple #[v, tmps.getD q undef]) w := by
  simp only [results, h]
  have ha' : tmps[p]?.getD undef = .pointer (some a) := by simpa using ha
  simp [Sem.run_bind, Result.andThen, ha', asAddr, hl]
def ParseC (w : World) (s : List UInt8) (e : Ending) (w' : World) : Prop := e = .returned (.tuple #[keyV (parseK s), .int .i64 (parseE s)]) ∧ Below w.heap.size w w'
set_option maxRecDepth 20000 in
set_option maxHeartbeats 1000000 in
theorem parse_any (s : List UInt8) (hs : s.length ≤ 9223372036854775807) (w : World) : Calls Try.prog 7 #[.string ⟨s.toArray⟩] w (ParseC w s) := by
  have hzk := zero_key
  have HD := hide (fun W => digits_any s hs W)
  have HZS : Hid (keyZ.size = 32) := hide rfl
  have HZ1 : Hid (keyZ.all (·.oneCell') = true) := hide (all_oneCell_toArray (u8c_one _))
  have HZM := hide (Blk.made w keyZ 24)
  by_cases hl : s.length = 64
  · by_cases hd : allDig s = true
    · rw [hd] at HD
      have hl2 : (s.length : Int) = 64 := by omega
      go_enter Try.func7, Try.ntmps7
      go_wp2_with fail
      refine (HD.out _).mono ?_
      rintro e w' ⟨rfl, rfl⟩
      go_wp2
      go_loopw [15] (fun i wr => ∃ j : Nat, i = .int .i64 j ∧ j ≤ 32 ∧ KeyAt wr w.heap.size (List.replicate 32 0) ∧ Blk wr (w.heap.size + 1) ((unhexTo s j).map u8c).toArray 24 ∧ Below w.heap.size w wr) (fun i _ => 32 - (intOf i).toNat)
      case atStart => exact ⟨0, rfl, by omega, ⟨(Blk.made w _ _).alloc _, rfl⟩, blk_made1 w _ _ _ _, ((Below.refl _ _).alloc (Nat.le_refl _) _).alloc (by simp) _⟩
      case round =>
        obtain ⟨j, rfl, hj, hK, hT, hB⟩ := hrel
        by_cases hlt : j < 32
        · obtain ⟨p, hp⟩ : ∃ p, p = 2 * j := ⟨_, rfl⟩
          obtain ⟨q, hq⟩ : ∃ q, q = 2 * j + 1 := ⟨_, rfl⟩
          have hp64 : p < s.length := by omega
          have hq64 : q < s.length := by omega
          have hpi : (p : Int) < 64 := by omega
          have hqi : (q : Int) < 64 := by omega
          have hw1 : IntKind.i64.wrap (2 * (j : Int)) = (p : Int) := by rw [show 2 * (j : Int) = (p : Int) by omega]; exact wrapi64_nat p (by omega)
          have hw2 : IntKind.i64.wrap ((p : Int) + 1) = (q : Int) := by rw [show (p : Int) + 1 = (q : Int) by omega]; exact wrapi64_nat q (by omega)
          have ha1 : 0 ≤ sgn s[p] := of_decide_eq_true (List.all_eq_true.1 hd s[p] (List.getElem_mem _))
          have ha2 : 0 ≤ sgn s[q] := of_decide_eq_true (List.all_eq_true.1 hd s[q] (List.getElem_mem _))
          obtain ⟨m1, hm1⟩ : ∃ m, m = (sgn s[p]).toNat := ⟨_, rfl⟩
          obtain ⟨m2, hm2⟩ : ∃ m, m = (sgn s[q]).toNat := ⟨_, rfl⟩
          have hr1 := sgn_range s[p]
          have hr2 := sgn_range s[q]
          have h116 : m1 < 16 := by omega
          have h216 : m2 < 16 := by omega
          have HV1 := hide (fun (v : Int) (hv : v = (s[p].toNat : Int)) (W : World) => hv ▸ value_any s[p] ha1 W)
          have HV2 := hide (fun (v : Int) (hv : v = (s[q].toNat : Int)) (W : World) => hv ▸ value_any s[q] ha2 W)
          rw [← hm1] at HV1
          rw [← hm2] at HV2
          obtain ⟨d, hdd⟩ : ∃ d, d = pairAt s j := ⟨_, rfl⟩
          have HPB : Hid (bits .or .u8 (IntKind.u8.wrap ((m1 : Int) * 16)) (m2 : Int) = (d.toNat : Int)) := hide (by
            have e1 : IntKind.u8.wrap ((m1 : Int) * 16) = ((16 * m1 : Nat) : Int) := by
              rw [show (m1 : Int) * 16 = ((16 * m1 : Nat) : Int) by omega]
              simp [IntKind.wrap, IntKind.bits, IntKind.signed]; omega
            rw [e1, pair_bits m1 h116 m2 h216, hdd]
            unfold pairAt
            rw [← hq, ← hp, List.getD_eq_getElem?_getD, List.getD_eq_getElem?_getD, List.getElem?_eq_getElem hp64, List.getElem?_eq_getElem hq64, Option.getD_some, Option.getD_some, ← hm1, ← hm2, UInt8.toNat_ofNat']
            omega)
          have HS := hide (unhexTo_set s hl j hlt)
          rw [← hdd] at HS
          clear hp hq ha1 ha2 hm1 hm2 hr1 hr2 hdd
          go_wp2
          refine wp_region_still_tail 15 (by kernel_rfl) (by kernel_rfl) ?_
          simp only [List.take_succ_cons, List.take_zero, List.drop_succ_cons, List.drop_zero]
          still_step
          still_step
          still_step
          still_step
          still_step
          still_call (HV1.out _ (by rfl) _)
          still_step
          still_step
          still_step
          still_step
          still_step
          still_step
          still_call (HV2.out _ (by rfl) _)
          still_step
          still_step
          refine wpStill_nil ?_
          rw [HPB.out]
          have hl3 := unhexTo_len s hl j hj
          have c1 : wr.cell? ⟨w.heap.size + 1, j, none⟩ = some (u8c ((unhexTo s j)[j]'(by omega))) := by rw [hT.cell]; simp [List.getElem?_eq_getElem (show j < (unhexTo s j).length by omega)]
          have c2 := hT.frozen j
          have HT2 := hide (hT.drew.set j (u8c d))
          have HK2 := hide hK
          clear hT hK
          go_wp2
          have HB2 : Hid (Blk (wr.drew.setCell ⟨w.heap.size + 1, j, none⟩ (.int .u8 (d.toNat : Int))) (w.heap.size + 1) ((unhexTo s (j + 1)).map u8c).toArray 24) := by
            have := HT2.out
            rw [← HS.out, List.map_set]
            rw [List.setIfInBounds_toArray] at this
            exact this
          exact ⟨⟨j + 1, by go_num, by omega, (show KeyAt wr.drew _ _ from HK2.out).set _ _ (by show w.heap.size ≠ w.heap.size + 1; omega), HB2.out, (hB.drew).setCell (by show w.heap.size ≤ w.heap.size + 1; omega) _⟩, by simp [intOf]; omega⟩
        · obtain rfl : j = 32 := by omega
          rw [unhexTo_all s hl] at hT
          have hpk : parseK s = unhex s := by unfold parseK parsed; rw [hd, hl]; rfl
          have hpe : parseE s = 0 := by unfold parseE parsed; rw [hd, hl]; rfl
          have hul : (unhex s).length = 32 := by rw [unhex_len, hl]
          have HKZ : Hid (Blk wr w.heap.size keyZ 24) := hide hK.1
          have HT : Hid (KeyAt wr (w.heap.size + 1) (unhex s)) := hide ⟨hT, hul⟩
          have HUL := hide hul
          have HUS : Hid (((unhex s).map u8c).toArray.size = 32) := hide (by simp [hul])
          have HU1 := hide (all_oneCell_toArray (u8c_one (unhex s)))
          have HPK := hide hpk
          have HPE := hide hpe
          clear hK hT hul hpk hpe
          go_wp2_with (first | ((with_reducible refine wpList_key (.tmp 4) (w.heap.size + 1) (unhex s) HT.out ?_ ?_ ?_ ?_); rfl; rfl; rfl) | ((with_reducible refine wpList_store_blk ?_ 24 (.tmp 2) (.tmp 34) ?_ w.heap.size 32 keyZ ((unhex s).map u8c).toArray 24 HUS.out HZS.out ?_ ?_ HKZ.out infoKey HU1.out ?_); rfl; rfl; rfl; rfl; intro w2 hk2 hg2))
          refine bodyPost_ret (results_cell2 rfl _ _ _ rfl _ (loadBlkT hk2 24 _ Try.underlying24 rfl 32 infoKey HUS.out)) rfl ?_
          exact ⟨by rw [HPK.out, HPE.out]; rfl, hB.trans (below_grownBy hg2 (Nat.le_refl _) hB.size)⟩
    · have hd' : allDig s = false := by simpa using hd
      rw [hd'] at HD
      have hl2 : (s.length : Int) = 64 := by omega
      have HPK : Hid (parseK s = List.replicate 32 0) := hide (by unfold parseK parsed; rw [hd']; simp)
      have HPE : Hid (parseE s = 30) := hide (by unfold parseE parsed; rw [hd']; simp)
      clear hd hd'
      go_enter Try.func7, Try.ntmps7
      go_wp2_with fail
      refine (HD.out _).mono ?_
      rintro e w' ⟨rfl, rfl⟩
      go_wp2_with ((with_reducible refine wpList_store_blk ?_ 24 (.tmp 2) (.tmp 14) ?_ w.heap.size 32 keyZ keyZ 24 HZS.out HZS.out ?_ ?_ HZM.out infoKey HZ1.out ?_); rfl; rfl; rfl; rfl; intro w2 hk2 hg2)
      refine bodyPost_ret (results_cell2 rfl _ _ _ rfl _ (loadBlkT hk2 24 _ Try.underlying24 rfl 32 infoKey rfl)) rfl ?_
      exact ⟨by rw [HPK.out, HPE.out]; rfl, below_grownBy (grownBy_trans (World.grownBy_alloc _ _ _) hg2) (Nat.le_refl _) (Nat.le_refl _)⟩
  · have hl2 : ¬ (s.length : Int) = 64 := by omega
    have HPK : Hid (parseK s = List.replicate 32 0) := hide (by unfold parseK parsed; simp [hl])
    have HPE : Hid (parseE s = 30) := hide (by unfold parseE parsed; simp [hl])
    have hl3 : ((s.length : Int) == 64) = false := by simpa using hl2
    go_enter Try.func7, Try.ntmps7
    go_wp2_with ((with_reducible refine wpList_store_blk ?_ 24 (.tmp 2) (.tmp 14) ?_ w.heap.size 32 keyZ keyZ 24 HZS.out HZS.out ?_ ?_ HZM.out infoKey HZ1.out ?_); rfl; rfl; rfl; rfl; intro w2 hk2 hg2)
    refine bodyPost_ret (results_cell2 rfl _ _ _ rfl _ (loadBlkT hk2 24 _ Try.underlying24 rfl 32 infoKey rfl)) rfl ?_
    exact ⟨by rw [HPK.out, HPE.out]; rfl, below_grownBy (grownBy_trans (World.grownBy_alloc _ _ _) hg2) (Nat.le_refl _) (Nat.le_refl _)⟩
end Go.Proofs.Ytjmjnecobaoofaa
