/- Hex, and the order. -/
import Derived.Test.YtjmjnecobaoofaaKD1
namespace Go.Proofs.Ytjmjnecobaoofaa
set_option linter.unusedVariables false
set_option linter.unusedSimpArgs false
open Go.RowKit

theorem strOf_u8 (xs : List UInt8) : strOfNums (xs.map fun u => (u.toNat : Int)) = ⟨xs.toArray⟩ := by
  have : ((fun n : Int => UInt8.ofNat n.toNat) ∘ fun u : UInt8 => (u.toNat : Int)) = id := by funext u; simp
  simp [strOfNums, this]

theorem conv_rd (w : World) (v : Value) (xs : List UInt8) (h : Rd w v xs) : (convert 22 9 v).run Try.prog w = .ok (.string ⟨xs.toArray⟩) w := by
  obtain ⟨ao, c, rfl, hc, hm, hcel⟩ := h
  rcases Nat.eq_zero_or_pos xs.length with h0 | hpos
  · obtain rfl : xs = [] := List.eq_nil_of_length_eq_zero h0
    rcases hcel with ⟨rfl, _⟩ | ⟨b, o, rfl, _⟩
    · exact run_convert_bytes_nil (P := Try.prog) w 22 5 Try.underlying22 Try.underlying5 _ _ 9 Try.underlying9
    · exact run_convert_bytes_arg (P := Try.prog) w 22 5 Try.underlying22 Try.underlying5 b o 0 c [] rfl (fun i hi => by omega) 9 Try.underlying9
  · obtain ⟨b, o, rfl, hcell⟩ : ∃ b o, ao = some ⟨b, o, none⟩ ∧ ∀ i (h : i < xs.length), w.cell? ⟨b, o + i, none⟩ = some (u8c xs[i]) := by
      rcases hcel with ⟨_, h⟩ | h
      · omega
      · exact h
    have := run_convert_bytes_arg (P := Try.prog) w 22 5 Try.underlying22 Try.underlying5 b o xs.length c (xs.map fun u => (u.toNat : Int)) (by simp)
      (fun i hi => by rw [hcell i hi]; simp [u8c, List.getD, List.getElem?_eq_getElem hi]) 9 Try.underlying9
    rw [this, strOf_u8]

theorem Rd_blk {w : World} {b : Nat} {xs : List UInt8} {t : TypeId} (hB : Blk w b (xs.map u8c).toArray t) (hm : xs.length ≤ maxLen) (n : Nat) (hn : xs.length = n) : Rd w (.slice (some ⟨b, 0, none⟩) n n) xs := by
  subst hn
  refine ⟨some ⟨b, 0, none⟩, xs.length, rfl, Nat.le_refl _, hm, .inr ⟨b, 0, rfl, fun i hi => ?_⟩⟩
  rw [Nat.zero_add, hB.cell]
  simp [List.getElem?_eq_getElem hi]

theorem KeyAt.set {w : World} {z : Nat} {bs : List UInt8} (h : KeyAt w z bs) (a : Addr) (v : Value) (hne : z ≠ a.block) : KeyAt (w.setCell a v) z bs := ⟨h.1.setOther a v hne, h.2⟩
theorem slice_txt (z : Nat) (W : World) : (Instr.sliceAt 69 (.pointer (some ⟨z, 0, none⟩)) none none none).run Try.prog W = .ok (.slice (some ⟨z, 0, none⟩) 64 64) W := by kernel_rfl
def txt0 : Array Value := ((List.replicate 64 (0 : UInt8)).map u8c).toArray
theorem zero_txt (W : World) : (zeroValue 69).run Try.prog W = .ok (.agg txt0) W := by kernel_rfl
theorem zero_key (W : World) : (zeroValue 24).run Try.prog W = .ok (.agg keyZ) W := by kernel_rfl
/-- The first k digits of a key, and noughts behind them. -/
def hexTo (b : List UInt8) (k : Nat) : List UInt8 := (hexOf b).take k ++ List.replicate (64 - k) 0
theorem hexTo_len (b : List UInt8) (hb : b.length = 32) (k : Nat) (hk : k ≤ 64) : (hexTo b k).length = 64 := by
  unfold hexTo; rw [List.length_append, List.length_take, hexOf_len, List.length_replicate]; omega
theorem hexTo_set (b : List UInt8) (hb : b.length = 32) (k : Nat) (hk : k < 64) : (hexTo b k).set k (digitAt b k) = hexTo b (k + 1) := by
  have hl : ((hexOf b).take k).length = k := by rw [List.length_take, hexOf_len]; omega
  unfold hexTo
  rw [List.set_append_right _ _ (by omega), hl, Nat.sub_self, show 64 - k = (64 - (k + 1)) + 1 by omega, List.replicate_succ, List.set_cons_zero, List.take_add_one, hexOf_at b k (by omega)]
  simp
theorem hexTo_all (b : List UInt8) (hb : b.length = 32) : hexTo b 64 = hexOf b := by
  unfold hexTo
  rw [List.take_of_length_le (by rw [hexOf_len]; omega)]; simp
set_option maxRecDepth 20000 in
set_option maxHeartbeats 1000000 in
theorem hex_any (k : List UInt8) (hk : k.length = 32) (w : World) : Calls Try.prog 6 #[keyV k] w fun e w' => e = .returned (.string ⟨(hexOf k).toArray⟩) ∧ Below w.heap.size w w' := by
  have hzt := zero_txt
  unfold keyV
  go_enter Try.func6, Try.ntmps6
  go_wp2
  have HK : Hid (KeyAt ((w.alloc (.cells (k.map u8c).toArray 24)).alloc (.cells txt0 69)) w.heap.size k) := hide ⟨(Blk.made w _ _).alloc _, hk⟩
  have HT : Hid (Blk ((w.alloc (.cells (k.map u8c).toArray 24)).alloc (.cells txt0 69)) (w.heap.size + 1) ((hexTo k 0).map u8c).toArray 69) := hide (blk_made1 w _ _ _ _)
  have HB : Hid (Below w.heap.size w ((w.alloc (.cells (k.map u8c).toArray 24)).alloc (.cells txt0 69))) := hide (((Below.refl _ _).alloc (Nat.le_refl _) _).alloc (by simp) _)
  go_loopw [5] (fun i wr => ∃ j : Nat, i = .int .i64 j ∧ j ≤ 64 ∧ KeyAt wr w.heap.size k ∧ Blk wr (w.heap.size + 1) ((hexTo k j).map u8c).toArray 69 ∧ Below w.heap.size w wr) (fun i _ => 64 - (intOf i).toNat)
  case atStart => exact ⟨0, rfl, by omega, HK.out, HT.out, HB.out⟩
  case round =>
    clear HK HT HB
    obtain ⟨j, rfl, hj, hK, hT, hB⟩ := hrel
    by_cases hlt : j < 64
    · have HC := hide (digit_any k hk j hlt wr)
      have HK := hide hK
      have HT := hide hT
      have hl := hexTo_len k hk j hj
      obtain ⟨d, hd⟩ : ∃ d, d = digitAt k j := ⟨_, rfl⟩
      have HS := hide (hexTo_set k hk j hlt)
      rw [← hd] at HC HS
      clear hK hT hd
      go_wp2_with ((with_reducible refine wpList_key (.tmp 1) w.heap.size k HK.out ?_ ?_ ?_ ?_); rfl; rfl; rfl)
      refine HC.out.mono ?_
      rintro e w' ⟨rfl, hb'⟩
      have hT' := HT.out.below hb' HT.out.lt
      have hz := HT.out.lt
      have c1 : w'.cell? ⟨w.heap.size + 1, j, none⟩ = some (u8c ((hexTo k j)[j]'(by omega))) := by rw [hT'.cell]; simp [List.getElem?_eq_getElem (show j < (hexTo k j).length by omega)]
      have c2 := hT'.frozen j
      have HT2 := hide (hT'.set j (u8c d))
      have HK2 := hide (HK.out.below hb')
      clear hT' HC HT HK
      go_wp2
      have HB2 : Hid (Blk (w'.setCell ⟨w.heap.size + 1, j, none⟩ (.int .u8 (d.toNat : Int))) (w.heap.size + 1) ((hexTo k (j + 1)).map u8c).toArray 69) := by
        have := HT2.out
        rw [← HS.out, List.map_set]
        rw [List.setIfInBounds_toArray] at this
        exact this
      exact ⟨⟨j + 1, by go_num, by omega, HK2.out.set _ _ (by show w.heap.size ≠ w.heap.size + 1; omega), HB2.out, (hB.trans (hb'.mono hB.size)).setCell (by show w.heap.size ≤ w.heap.size + 1; omega) _⟩, by simp [intOf]; omega⟩
    · obtain rfl : j = 64 := by omega
      rw [hexTo_all k hk] at hT
      have hst := slice_txt (w.heap.size + 1)
      have hcv := conv_rd wr _ _ (Rd_blk hT (by rw [hexOf_len, hk]; decide) 64 (by rw [hexOf_len, hk]))
      clear hT hK
      go_wp2
      go_ret
      exact ⟨rfl, hB⟩
end Go.Proofs.Ytjmjnecobaoofaa
